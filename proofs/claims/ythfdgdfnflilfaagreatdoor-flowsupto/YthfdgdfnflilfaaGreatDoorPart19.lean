/- Part 19: Keep5, KeepG, Fine, Side1, Play0. -/
import Derived.Test.YthfdgdfnflilfaaGreatDoorPart18
/- millracekeep: what Bounded keeps. -/
namespace Go.Proofs.YthfdgdfnflilfaaGreatDoor
open Go.RowKit Go.Conc

theorem Has.set {A : Nat → Prop} {p : Nat} {N : Net} {R : Rc} {w : World} (h : Has A p N R w) {q : Addr} (hq : A q.block) (v : Value) : Has A p N R (w.setCell q v) := by
  obtain ⟨L, h1, h2, h3⟩ := h.ex
  refine ⟨⟨L, h1, h2.frame fun b hb => Below.heap_setCell _ _ _ _ (fun e => h3 b hb (e ▸ hq)), h3⟩, fun b hb => ?_⟩
  have := h.lt b hb
  simpa [World.setCell] using this

/-- Rooms are the net's and what they grew by. -/
def GrewH (N : Net) (R : Rc) (M : List Int) : Prop :=
  M.length = N.streams.length ∧ ∀ s (_ : s < N.streams.length), if heldB N s = true then ((R.s s).room : Int) = N.streams.getD s 0 + M.getD s 0 ∧ 1 ≤ (R.s s).room ∧ (R.s s).room ≤ 40 ∧ 0 ≤ M.getD s 0 else M.getD s 0 = 0

structure BInv (N : Net) (R : Rc) (M : List Int) (k : Nat) : Prop where
  room : RoomR N R
  words : ∀ s, s < N.streams.length → (R.s s).words.length ≤ 50 + k
  grew : GrewH N R M

theorem BInv.init {N : Net} (h : validB N = true) : BInv N (initR N N.streams) (List.replicate N.streams.length 0) 0 := by
  refine ⟨init_roomR h, fun s hs => init_words h s hs, by simp, fun s hs => ?_⟩
  have hz : (List.replicate N.streams.length (0 : Int)).getD s 0 = 0 := by simp [List.getD, hs]
  rw [hz]
  obtain ⟨h1, h2, h3⟩ := init_room h s hs
  split
  · rw [h1, getD_eq _ _ _ hs]; omega
  · rfl

theorem BInv.mono {N : Net} {R : Rc} {M : List Int} {k : Nat} (h : BInv N R M k) : BInv N R M (k + 1) := ⟨h.room, fun s hs => by have := h.words s hs; omega, h.grew⟩

theorem BInv.step {N : Net} {R : Rc} {M : List Int} {k : Nat} (h : BInv N R M k) (hl : R.S.length = N.streams.length) (c : Nat) : BInv N (doStep N R c) M (k + 1) := by
  have hs' : ∀ s, s < N.streams.length → _ := fun s hs => doStep_s (N := N) (R := R) (k := c) (s := s) (by omega)
  refine ⟨fun s hs => by rw [(hs' s hs).1]; exact h.room s hs, fun s hs => by have := (hs' s hs).2; have := h.words s hs; omega, h.grew.1, fun s hs => ?_⟩
  rw [(hs' s hs).1]; exact h.grew.2 s hs

theorem growS_words (R : Rc) (t s : Nat) : ((growS R t).s s).words = (R.s s).words := by
  by_cases e : s = t
  · subst e
    rcases Nat.lt_or_ge s R.S.length with h | h
    · have : (growS R s).s s = { R.s s with room := (R.s s).room + 1 } := getD_set_self _ _ _ _ h
      rw [this]
    · simp [growS, Rc.s, List.set_eq_of_length_le h]
  · have : (growS R t).s s = R.s s := getD_set_ne _ _ _ _ _ (fun e' => e e'.symm)
    rw [this]

theorem BInv.grow {N : Net} {R : Rc} {M : List Int} {k t : Nat} (h : BInv N R M k) (hl : R.S.length = N.streams.length) (hv : validB N = true) {a b : Int} (hg : Grows N R a b (some t)) : BInv N (growS R t) (M.set t (M.getD t 0 + 1)) (k + 1) := by
  obtain ⟨-, -, ht, hr⟩ := grows_ok hg
  have hh : heldB N t = true := by
    cases hg with
    | grows h1 h2 h3 => obtain ⟨-, q1, q2⟩ := needs_stream hv h2.2.1; simp [heldB, q1, q2]
  refine ⟨fun s hs => ?_, fun s hs => by rw [growS_words]; have := h.words s hs; omega, by simp [h.grew.1], fun s hs => ?_⟩
  · rw [growS_s _ _ _ (by omega)]
    have := h.room s hs
    split
    · rename_i e; subst e; omega
    · omega
  · have hq := h.grew.2 s hs
    by_cases e : s = t
    · subst e
      rw [if_pos hh] at hq ⊢
      rw [growS_s _ _ _ (by omega), if_pos rfl, getD_set_self _ _ _ _ (by rw [h.grew.1]; exact hs)]
      omega
    · rw [growS_s _ _ _ (by omega), if_neg e, getD_set_ne _ _ _ _ _ (fun e' => e e'.symm)]
      exact hq

theorem doStep_steps {N : Net} {R : Rc} {c : Nat} (hc : c < R.W.length) (h : stateOf N R c = 1) : ((doStep N R c).w c).steps = wrap64 ((R.w c).steps + 1) := by
  cases hi : insAt N c (R.w c) with
  | none => simp [stateOf, hi] at h
  | some i =>
    have : (doStep N R c).w c = nextW (R.w c) i (R.s i.b.toNat).words[(R.s i.b.toNat).read]? := by
      rw [doStep_some hi]; exact getD_set_self _ _ _ _ hc
    rw [this]
    unfold nextW
    repeat' split
    all_goals rfl

theorem goesB_succ (N : Net) (R : Rc) (k : Nat) : goesB N R (k + 1) = (goesB N R k || stateOf N R k == 1) := range_any_succ _ _

theorem ints_of_blk {w : World} {g : Nat} {M : List Int} (h : w.heap[g]? = some (.cells (intRow M).toArray 3 (0, 0))) (hl : M.length ≤ 8) : IntsAt w (.slice (some ⟨g, 0, none⟩) M.length M.length) M := by
  refine ⟨some ⟨g, 0, none⟩, M.length, rfl, by omega, Nat.le_refl _, Or.inr ⟨g, 0, rfl, fun i hi j hj => ?_⟩⟩
  have hj0 : j = 0 := by omega
  subst hj0
  have := row_cell (i := i) (v := .int .i64 (M.getD i 0)) h (by rw [intRow_get _ _ hi, getD_eq _ _ _ hi])
  simpa using this

theorem intRow_set (l : List Int) (i : Nat) (x : Int) : intRow (l.set i x) = (intRow l).set i (.int .i64 x) := by simp [intRow, List.map_set]

/-- Bounded's memory between two rounds: A holds all that was there, the net's box, and the rooms' row. -/
structure BAt (w : World) (box : Obj) (p g : Nat) (N : Net) (R : Rc) (M : List Int) (k : Nat) (wr : World) : Prop where
  has : Has (fun b => b < w.heap.size + 1 ∨ b = g) p N R wr
  inv : BInv N R M k
  row : wr.heap[g]? = some (.cells (intRow M).toArray 3 (0, 0))
  bel : Below (w.heap.size + 1) (w.alloc box) wr
  gt : w.heap.size + 1 ≤ g

theorem BAt.below {w wr w' : World} {box : Obj} {p g : Nat} {N : Net} {R : Rc} {M : List Int} {k : Nat} (h : BAt w box p g N R M k wr) (hb : Below wr.heap.size wr w') : BAt w box p g N R M k w' :=
  ⟨h.has.below hb, h.inv, (hb.block g (lt_of_blk h.row)).trans h.row, h.bel.trans (hb.mono (by have := h.bel.size; simp at this; omega)), h.gt⟩

theorem BAt.keeps {w wr w' : World} {box : Obj} {p g : Nat} {N : Net} {R S : Rc} {M : List Int} {k : Nat} (h : BAt w box p g N R M k wr) (hs : Has (fun b => b < w.heap.size + 1 ∨ b = g) p N S w') (hk : Keeps (fun b => b < w.heap.size + 1 ∨ b = g) wr w') (hi : BInv N S M (k + 1)) : BAt w box p g N S M (k + 1) w' := by
  have hsz := h.bel.size
  simp at hsz
  refine ⟨hs, hi, (hk.block g (lt_of_blk h.row) (fun e => e (Or.inr rfl))).trans h.row, h.bel.trans (hk.below (by omega) fun b hb => Or.inl hb), h.gt⟩

theorem BAt.mono {w wr : World} {box : Obj} {p g : Nat} {N : Net} {R : Rc} {M : List Int} {k : Nat} (h : BAt w box p g N R M k wr) : BAt w box p g N R M (k + 1) wr := ⟨h.has, h.inv.mono, h.row, h.bel, h.gt⟩

end Go.Proofs.YthfdgdfnflilfaaGreatDoor
/- What holds of races that are stepped, grown, saved and loaded. -/
namespace Go.Proofs.YthfdgdfnflilfaaGreatDoor
open Go.RowKit Go.Conc

structure NetFits (N : Net) : Prop where
  c : ∀ k, k < N.workers.length → ∀ i ∈ codeOf N k, Fits64 i.c
  words : ∀ s ∈ N.sources, ∀ x ∈ s.words, Fits64 x

structure FitsA (x : Wk) : Prop where
  r : ∀ i, Fits64 (x.r i)
  steps : Fits64 x.steps

structure Good (N : Net) (R : Rc) (c : Nat) : Prop where
  run : ∃ es, (grun N N.streams es).1 = R ∧ ∀ k, ((grun N N.streams es).2 k).length ≤ c
  room : RoomR N R
  grew : ∀ s, s < N.streams.length → if heldB N s = true then (N.streams.getD s 0).toNat ≤ (R.s s).room else (R.s s).room = (N.streams.getD s 0).toNat
  words : ∀ s, s < N.streams.length → (R.s s).words.length ≤ 50 + c
  fitsW : ∀ k, k < N.workers.length → FitsA (R.w k)
  fitsS : ∀ s, s < N.streams.length → ∀ x ∈ (R.s s).words, Fits64 x

theorem fits_zero : Fits64 0 := ⟨by decide, by decide⟩
theorem fits_wrap (x : Int) : Fits64 (wrap64 x) := by unfold Fits64 wrap64; omega
theorem fits_alu (op b c : Int) : Fits64 (alu op b c) := by
  unfold alu
  repeat' split
  all_goals first | exact fits_wrap _ | exact ⟨by decide, by decide⟩

theorem srcWords_fits {N : Net} (h : NetFits N) (s : Nat) : ∀ x ∈ srcWords N s, Fits64 x := by
  intro x hx
  unfold srcWords at hx
  cases hf : N.sources.find? fun y => y.stream == (s : Int) with
  | none => rw [hf] at hx; simp at hx
  | some y =>
    rw [hf] at hx
    exact h.words y (List.mem_of_find?_eq_some hf) x (by simpa using hx)

theorem initG_s {N : Net} (rooms : List Int) (s : Nat) (hs : s < N.streams.length) : (initR N rooms).s s = ⟨if srcd N s then srcWords N s else [], 0, (rooms.getD s 0).toNat⟩ := by simp [Rc.s, initR, List.getD, hs]
theorem initG_w (N : Net) (rooms : List Int) (k : Nat) : (initR N rooms).w k = ⟨0, fun _ => 0, 0⟩ := by
  simp only [Rc.w, initR, List.getD]
  rw [List.getElem?_replicate]
  split <;> rfl

theorem Good.init {N : Net} (hv : validB N = true) (hf : NetFits N) : Good N (initR N N.streams) 0 := by
  refine ⟨⟨[], rfl, fun _ => Nat.le_refl _⟩, init_roomR hv, fun s hs => ?_, fun s hs => init_words hv s hs, fun k _ => ?_, fun s hs => ?_⟩
  · rw [initG_s _ _ hs]; split
    · exact Nat.le_refl _
    · rfl
  · rw [initG_w]; exact ⟨fun _ => fits_zero, fits_zero⟩
  · rw [initG_s _ _ hs]
    dsimp only
    split
    · exact srcWords_fits hf s
    · intro x hx; cases hx

theorem Good.mono {N : Net} {R : Rc} {c : Nat} (h : Good N R c) : Good N R (c + 1) := ⟨let ⟨es, he, hc⟩ := h.run; ⟨es, he, fun k => Nat.le_succ_of_le (hc k)⟩, h.room, h.grew, fun s hs => by have := h.words s hs; omega, h.fitsW, h.fitsS⟩

theorem Good.gi {N : Net} {R : Rc} {c : Nat} (h : Good N R c) (hv : validB N = true) : ∃ es, (grun N N.streams es).1 = R ∧ GI N (grun N N.streams es) := by
  obtain ⟨es, he, -⟩ := h.run
  exact ⟨es, he, gi_run (valid_ok hv) _ es⟩

theorem nextW_fits {x : Wk} {i : Ins} {inp : Option Int} (hx : FitsA x) (hc : Fits64 i.c) (hi : ∀ v, inp = some v → Fits64 v) : FitsA (nextW x i inp) := by
  have hu : ∀ a v, Fits64 v → ∀ j, Fits64 (upd x.r a v j) := fun a v hv j => by
    unfold upd; split
    · exact hv
    · exact hx.r j
  unfold nextW
  split
  · split
    · rename_i v
      exact ⟨hu _ _ (hi v rfl), fits_wrap _⟩
    · exact ⟨hx.r, fits_wrap _⟩
  · split
    · exact ⟨hx.r, fits_wrap _⟩
    · split
      · exact ⟨hu _ _ hc, fits_wrap _⟩
      · split
        · exact ⟨hx.r, fits_wrap _⟩
        · split
          · exact ⟨hx.r, fits_wrap _⟩
          · exact ⟨hu _ _ (fits_alu _ _ _), fits_wrap _⟩

theorem Good.step {N : Net} {R : Rc} {c k : Nat} (h : Good N R c) (hv : validB N = true) (hf : NetFits N) (hk : k < N.workers.length) (hst : stateOf N R k = 1) : Good N (doStep N R k) (c + 1) := by
  obtain ⟨es, he, hcn⟩ := h.run
  have gi := gi_run (valid_ok hv) N.streams es
  have hlS : R.S.length = N.streams.length := by rw [← he]; exact gi.lenS
  have hlW : R.W.length = N.workers.length := by rw [← he]; exact gi.lenW
  have hs' : ∀ s, s < N.streams.length → _ := fun s hs => doStep_s (N := N) (R := R) (k := k) (s := s) (by omega)
  cases hi : insAt N k (R.w k) with
  | none => simp [stateOf, hi] at hst
  | some i =>
    have hm : i ∈ codeOf N k := List.mem_of_getElem? hi
    have hin : ∀ v, (R.s i.b.toNat).words[(R.s i.b.toNat).read]? = some v → Fits64 v := fun v hv' => by
      rcases Nat.lt_or_ge i.b.toNat N.streams.length with hb | hb
      · exact h.fitsS _ hb v (List.mem_of_getElem? hv')
      · have : R.s i.b.toNat = ⟨[], 0, 0⟩ := by simp only [Rc.s, List.getD]; rw [List.getElem?_eq_none (by omega)]; rfl
        rw [this] at hv'; simp at hv'
    refine ⟨⟨.inl k :: es, ?_, fun j => ?_⟩, fun s hs => by rw [(hs' s hs).1]; exact h.room s hs, fun s hs => by rw [(hs' s hs).1]; exact h.grew s hs, fun s hs => by have := (hs' s hs).2; have := h.words s hs; omega, fun j hj => ?_, fun s hs => ?_⟩
    · simp only [grun, ev]
      rw [if_pos ⟨hk, by rw [he]; exact hst⟩, he]
    · simp only [grun, ev]
      rw [if_pos ⟨hk, by rw [he]; exact hst⟩]
      have h1 := hcn j
      have h2 := hcn k
      dsimp only
      split
      · simp; omega
      · omega
    · by_cases e : j = k
      · subst e
        have : (doStep N R j).w j = nextW (R.w j) i (R.s i.b.toNat).words[(R.s i.b.toNat).read]? := by
          rw [doStep_some hi]; exact getD_set_self _ _ _ _ (by omega)
        rw [this]
        exact nextW_fits (h.fitsW j hj) (hf.c j hj i hm) hin
      · rw [doStep_w_ne N R k j e]; exact h.fitsW j hj
    · rw [doStep_some hi, step_s _ _ (by omega)]
      intro x hx
      split at hx
      · exact h.fitsS s hs x hx
      · split at hx
        · rcases List.mem_append.1 hx with h1 | h1
          · exact h.fitsS s hs x h1
          · rw [List.mem_singleton.1 h1]; exact (h.fitsW k hk).r _
        · exact h.fitsS s hs x hx

theorem Good.grow {N : Net} {R : Rc} {c t : Nat} (h : Good N R c) (hv : validB N = true) {a b : Int} (hg : Grows N R a b (some t)) : Good N (growS R t) (c + 1) := by
  obtain ⟨-, -, ht, hr⟩ := grows_ok hg
  obtain ⟨es, he, hcn⟩ := h.run
  have gi := gi_run (valid_ok hv) N.streams es
  have hlS : R.S.length = N.streams.length := by rw [← he]; exact gi.lenS
  have hh : heldB N t = true := by
    cases hg with
    | grows h1 h2 h3 => obtain ⟨-, q1, q2⟩ := needs_stream hv h2.2.1; simp [heldB, q1, q2]
  refine ⟨⟨.inr t :: es, by simp only [grun, ev]; rw [he], fun k => Nat.le_succ_of_le (hcn k)⟩, fun s hs => ?_, fun s hs => ?_, fun s hs => by rw [growS_words]; have := h.words s hs; omega, h.fitsW, fun s hs => by rw [growS_words]; exact h.fitsS s hs⟩
  · rw [growS_s _ _ _ (by omega)]
    have := h.room s hs
    split
    · rename_i e; subst e; omega
    · omega
  · have hq := h.grew s hs
    rw [growS_s _ _ _ (by omega)]
    split
    · rename_i hp; rw [if_pos hp] at hq; omega
    · rename_i hp
      rw [if_neg hp] at hq
      by_cases e : s = t
      · subst e; exact absurd hh hp
      · rw [if_neg e]; exact hq

theorem unused_uses {N : Net} {s : Nat} (h : used N s = false) : ∀ k, usesB (codeOf N k) 1 s = false := fun k => by
  cases hu : usesB (codeOf N k) 1 s
  · rfl
  · have := uses_pos hu
    simp [used] at h
    omega

theorem Good.saves {N : Net} {R : Rc} {c : Nat} (h : Good N R c) (hv : validB N = true) (hc : c ≤ 200000000) : Saves N R := by
  obtain ⟨es, he, gi⟩ := h.gi hv
  refine ⟨fun s hs hu _ => ?_, fun s hs => by have := h.words s hs; omega⟩
  rw [← he]
  exact gi.nord s hs fun k _ => unused_uses hu k

theorem Good.loads {A : Nat → Prop} {p : Nat} {w : World} {N : Net} {R : Rc} {c : Nat} (h : Good N R c) (ha : Has A p N R w) (hc : c ≤ 200000000) : Loads N (initR N N.streams) R := by
  obtain ⟨L, rfl, hra, -⟩ := ha.ex
  have hv := hra.ok
  obtain ⟨es, he, gi⟩ := h.gi hv
  refine ⟨hra.lenW, hra.lenS, fun k hk => (hra.wk k hk).le, fun k hk => ⟨fun i _ => (h.fitsW k hk).r i, (h.fitsW k hk).steps⟩, fun s hs => ?_⟩
  rw [initG_s _ _ hs]
  have hq := h.grew s hs
  have hst := hra.env.at' s hs
  refine ⟨fun hsr => ?_, fun hsr hh => ?_, fun hsr hh => ?_, hst.le, h.fitsS s hs, by have := h.words s hs; omega⟩
  · have hh : heldB N s = false := by simp [heldB, hsr]
    rw [if_neg (by rw [hh]; decide)] at hq
    refine ⟨?_, hq⟩
    dsimp only
    rw [if_pos hsr, ← he]
    exact gi.src s hs hsr
  · rw [if_neg (by rw [hh]; decide)] at hq
    have hu : used N s = false := by simpa [heldB, hsr] using hh
    refine ⟨?_, hq, ?_⟩
    · rw [← he]; exact gi.nord s hs fun k _ => unused_uses hu k
    · have := valid_room hv s hs
      dsimp only
      rw [getD_eq _ _ _ hs]; omega
  · rw [if_pos hh] at hq
    refine ⟨hq, h.room s hs, ?_⟩
    have hsome := hra.ch_iff hs
    rw [hh] at hsome
    obtain ⟨c', hc'⟩ := Option.isSome_iff_exists.1 hsome
    exact (hst.chan c' hc').2.1

/-- A worker's Steps count its instructions. -/
theorem steps_count {N : Net} (r : List Int) (k : Nat) (hk : k < N.workers.length) (ok : Ok N) : ∀ es, ((grun N r es).1.w k).steps = wrap64 (((grun N r es).2 k).length : Int)
  | [] => by simp only [grun]; rw [initG_w]; simp [wrap64]
  | e :: es => by
    have ih := steps_count r k hk ok es
    have gi := gi_run ok r es
    simp only [grun]
    cases e with
    | inr s => exact ih
    | inl j =>
      simp only [ev]
      split
      · rename_i hs
        by_cases e : k = j
        · subst e
          dsimp only
          rw [if_pos rfl, doStep_steps (by rw [gi.lenW]; exact hk) hs.2, ih]
          unfold wrap64
          simp
          omega
        · dsimp only
          rw [if_neg e, doStep_w_ne N _ j k e]; exact ih
      · exact ih

theorem steps_small (n : Nat) (h : n ≤ 1000000000000) : wrap64 (n : Int) = (n : Int) := by unfold wrap64; omega

end Go.Proofs.YthfdgdfnflilfaaGreatDoor
/- What holds of every race of a script, also of one that was loaded from a bent state. -/
namespace Go.Proofs.YthfdgdfnflilfaaGreatDoor
open Go.RowKit Go.Conc

structure Fine (N : Net) (R : Rc) (c : Nat) : Prop where
  lenW : R.W.length = N.workers.length
  lenS : R.S.length = N.streams.length
  room : RoomR N R
  grew : ∀ s, s < N.streams.length → if heldB N s = true then (N.streams.getD s 0).toNat ≤ (R.s s).room else (R.s s).room = (N.streams.getD s 0).toNat
  words : ∀ s, s < N.streams.length → (R.s s).words.length ≤ 50 + c
  fitsW : ∀ k, k < N.workers.length → FitsA (R.w k)
  fitsS : ∀ s, s < N.streams.length → ∀ x ∈ (R.s s).words, Fits64 x
  nord : ∀ s, s < N.streams.length → used N s = false → (R.s s).read = 0
  src : ∀ s, s < N.streams.length → srcd N s = true → (R.s s).words = srcWords N s

theorem Fine.init {N : Net} (hv : validB N = true) (hf : NetFits N) : Fine N (initR N N.streams) 0 := by
  have h := Good.init hv hf
  refine ⟨by simp [initR], by simp [initR], h.room, h.grew, h.words, h.fitsW, h.fitsS, fun s hs _ => ?_, fun s hs hq => ?_⟩
  · rw [initG_s _ _ hs]
  · rw [initG_s _ _ hs]; simp [hq]

theorem Fine.mono {N : Net} {R : Rc} {c d : Nat} (h : Fine N R c) (hd : c ≤ d) : Fine N R d := ⟨h.lenW, h.lenS, h.room, h.grew, fun s hs => by have := h.words s hs; omega, h.fitsW, h.fitsS, h.nord, h.src⟩

theorem Fine.step {N : Net} {R : Rc} {c k : Nat} (h : Fine N R c) (hv : validB N = true) (hf : NetFits N) (hk : k < N.workers.length) : Fine N (doStep N R k) (c + 1) := by
  have hlS := h.lenS
  have hlW := h.lenW
  have hs' : ∀ s, s < N.streams.length → _ := fun s hs => doStep_s (N := N) (R := R) (k := k) (s := s) (by omega)
  cases hi : insAt N k (R.w k) with
  | none =>
    have : doStep N R k = R := by simp [doStep, hi]
    rw [this]; exact h.mono (by omega)
  | some i =>
    have hm : i ∈ codeOf N k := List.mem_of_getElem? hi
    have hin : ∀ v, (R.s i.b.toNat).words[(R.s i.b.toNat).read]? = some v → Fits64 v := fun v hv' => by
      rcases Nat.lt_or_ge i.b.toNat N.streams.length with hb | hb
      · exact h.fitsS _ hb v (List.mem_of_getElem? hv')
      · have : R.s i.b.toNat = ⟨[], 0, 0⟩ := by simp only [Rc.s, List.getD]; rw [List.getElem?_eq_none (by omega)]; rfl
        rw [this] at hv'; simp at hv'
    have hus := uses_of_ins hi
    have hok := (valid_ok hv).ins k hk i hm
    refine ⟨by rw [doStep_some hi]; simpa using hlW, by rw [doStep_some hi]; simpa [nextS_length] using hlS, fun s hs => by rw [(hs' s hs).1]; exact h.room s hs, fun s hs => by rw [(hs' s hs).1]; exact h.grew s hs, fun s hs => by have := (hs' s hs).2; have := h.words s hs; omega, fun j hj => ?_, fun s hs => ?_, fun s hs hu => ?_, fun s hs hq => ?_⟩
    · by_cases e : j = k
      · subst e
        have : (doStep N R j).w j = nextW (R.w j) i (R.s i.b.toNat).words[(R.s i.b.toNat).read]? := by
          rw [doStep_some hi]; exact getD_set_self _ _ _ _ (by omega)
        rw [this]
        exact nextW_fits (h.fitsW j hj) (hf.c j hj i hm) hin
      · rw [doStep_w_ne N R k j e]; exact h.fitsW j hj
    · rw [doStep_some hi, step_s _ _ (by omega)]
      intro x hx
      split at hx
      · exact h.fitsS s hs x hx
      · split at hx
        · rcases List.mem_append.1 hx with h1 | h1
          · exact h.fitsS s hs x h1
          · rw [List.mem_singleton.1 h1]; exact (h.fitsW k hk).r _
        · exact h.fitsS s hs x hx
    · rw [doStep_some hi, step_s _ _ (by omega)]
      split
      · rename_i e
        have h1 := unused_uses hu k
        have hb := hok.2.2 (Or.inl e.1)
        have hbs : i.b = (s : Int) := by rw [e.2]; omega
        rw [e.1, hbs] at hus
        rw [hus] at h1; cases h1
      · split
        · exact h.nord s hs hu
        · exact h.nord s hs hu
    · rw [doStep_some hi, step_s _ _ (by omega)]
      split
      · exact h.src s hs hq
      · split
        · rename_i e
          have h1 := (valid_ok hv).src s k hq
          have hb := hok.2.2 (Or.inr e.1)
          have hbs : i.b = (s : Int) := by rw [e.2]; omega
          rw [e.1, hbs] at hus
          rw [hus] at h1; cases h1
        · exact h.src s hs hq

theorem growS_read (R : Rc) (t s : Nat) : ((growS R t).s s).read = (R.s s).read := by
  by_cases e : s = t
  · subst e
    rcases Nat.lt_or_ge s R.S.length with h | h
    · have : (growS R s).s s = { R.s s with room := (R.s s).room + 1 } := getD_set_self _ _ _ _ h
      rw [this]
    · simp [growS, Rc.s, List.set_eq_of_length_le h]
  · have : (growS R t).s s = R.s s := getD_set_ne _ _ _ _ _ (fun e' => e e'.symm)
    rw [this]

theorem Fine.grow {N : Net} {R : Rc} {c t : Nat} (h : Fine N R c) (hv : validB N = true) {a b : Int} (hg : Grows N R a b (some t)) : Fine N (growS R t) c := by
  obtain ⟨-, -, ht, hr⟩ := grows_ok hg
  have hlS := h.lenS
  have hh : heldB N t = true := by
    cases hg with
    | grows h1 h2 h3 => obtain ⟨-, q1, q2⟩ := needs_stream hv h2.2.1; simp [heldB, q1, q2]
  refine ⟨h.lenW, by simpa [growS] using hlS, fun s hs => ?_, fun s hs => ?_, fun s hs => by rw [growS_words]; exact h.words s hs, h.fitsW, fun s hs => by rw [growS_words]; exact h.fitsS s hs, fun s hs hu => by rw [growS_read]; exact h.nord s hs hu, fun s hs hq => by rw [growS_words]; exact h.src s hs hq⟩
  · rw [growS_s _ _ _ (by omega)]
    have := h.room s hs
    split
    · rename_i e; subst e; omega
    · omega
  · have hq := h.grew s hs
    rw [growS_s _ _ _ (by omega)]
    split
    · rename_i hp; rw [if_pos hp] at hq; omega
    · rename_i hp
      rw [if_neg hp] at hq
      by_cases e : s = t
      · subst e; exact absurd hh hp
      · rw [if_neg e]; exact hq

theorem Fine.stepR {N : Net} {R : Rc} {c k : Nat} (h : Fine N R c) (hv : validB N = true) (hf : NetFits N) (hk : k < N.workers.length) : Fine N (stepR N R k) (c + 1) := by
  unfold Go.Proofs.YthfdgdfnflilfaaGreatDoor.stepR
  split
  · exact h.step hv hf hk
  · exact h.mono (by omega)

end Go.Proofs.YthfdgdfnflilfaaGreatDoor
/- Calls of the program that ask out of range, and of rooms. -/
namespace Go.Proofs.YthfdgdfnflilfaaGreatDoor
open Go.RowKit Go.Conc

set_option maxHeartbeats 1000000 in
theorem rlook_out {L : Lay} {w : World} {N : Net} {R : Rc} (h : RaceAt L w N R) (k : Int) (hk : inB k N.workers.length = false) :
    Calls Tryz.prog 62 #[.pointer (some ⟨L.p, 0, none⟩), .int .i64 k] w fun e w' => e = .returned (.tuple #[.agg #[.int .i64 0, .int .i64 0, .int .i64 0, .int .i64 0, .int .i64 0, .int .i64 0, .int .i64 0], .int .i64 2]) ∧ Below w.heap.size w w' := by
  have HH : Hid (∀ wx, Below w.heap.size w wx → Calls Tryz.prog 47 #[.pointer (some ⟨L.p, 0, none⟩), .int .i64 k] wx fun e w' => e = .returned (.bool false) ∧ w' = wx) := fun wx hx => by
    have := hasWorker_calls (h.below hx) k; rw [hk] at this; exact this
  have HB : Hid (∀ o, Below w.heap.size w (w.alloc o)) := fun o => (Below.refl _ _).alloc (Nat.le_refl _) o
  clear h
  go_enter Tryz.func62, Tryz.ntmps62
  go_wp2_with fail
  refine (unhide HH _ (HB.out _)).mono ?_
  rintro e w1 ⟨rfl, rfl⟩
  go_wp2
  refine bodyPost_ret (v := .tuple #[.agg #[.int .i64 0, .int .i64 0, .int .i64 0, .int .i64 0, .int .i64 0, .int .i64 0, .int .i64 0], .int .i64 2]) ?_ rfl ⟨rfl, ?_⟩
  · simp [results, Tryz.results62, go_sem]
  · exact HB.out _

theorem has_look_out {A : Nat → Prop} {p : Nat} {N : Net} {R : Rc} {w : World} (h : Has A p N R w) (k : Int) (hk : inB k N.workers.length = false) :
    Calls Tryz.prog 62 #[.pointer (some ⟨p, 0, none⟩), .int .i64 k] w fun e w' => e = .returned (.tuple #[.agg #[.int .i64 0, .int .i64 0, .int .i64 0, .int .i64 0, .int .i64 0, .int .i64 0, .int .i64 0], .int .i64 2]) ∧ Below w.heap.size w w' := by
  obtain ⟨L, rfl, h2, h3⟩ := h.ex
  exact rlook_out h2 k hk

theorem has_history_out {A : Nat → Prop} {p : Nat} {N : Net} {R : Rc} {w : World} (h : Has A p N R w) (k : Int) (hk : inB k N.streams.length = false) :
    Calls Tryz.prog 11 #[.pointer (some ⟨p, 0, none⟩), .int .i64 k] w fun e w' => e = .returned (.tuple #[.slice none 0 0, .int .i64 2]) ∧ w' = w := by
  obtain ⟨L, rfl, h2, h3⟩ := h.ex
  exact rhistory_out h2 k hk

theorem has_room_out {A : Nat → Prop} {p : Nat} {N : Net} {R : Rc} {w : World} (h : Has A p N R w) (k : Int) (hk : inB k N.streams.length = false) :
    Calls Tryz.prog 66 #[.pointer (some ⟨p, 0, none⟩), .int .i64 k] w fun e w' => e = .returned (.tuple #[.int .i64 0, .int .i64 0, .int .i64 2]) ∧ w' = w := by
  obtain ⟨L, rfl, h2, h3⟩ := h.ex
  exact rroom_out h2 k hk

theorem has_room {A : Nat → Prop} {p : Nat} {N : Net} {R : Rc} {w : World} (h : Has A p N R w) (s : Nat) (hs : s < N.streams.length) :
    Calls Tryz.prog 66 #[.pointer (some ⟨p, 0, none⟩), .int .i64 s] w fun e w' => e = .returned (.tuple #[.int .i64 (if heldB N s then ((R.s s).room : Int) else 0), .int .i64 (if heldB N s then (((R.s s).words.length - (R.s s).read : Nat) : Int) else 0), .int .i64 0]) ∧ Below w.heap.size w w' := by
  obtain ⟨L, rfl, h2, h3⟩ := h.ex
  have := rroom_calls h2 s hs
  rw [h2.ch_iff hs] at this
  exact this

end Go.Proofs.YthfdgdfnflilfaaGreatDoor
/- A side of the law: a race of the program's, and the document's. -/
namespace Go.Proofs.YthfdgdfnflilfaaGreatDoor
open Go.RowKit Go.Conc

structure SideAt (wz : World) (col : Nat → Nat) (w : World) (sd cx cy x y : Nat) (n : Net) (vs vr vw : Value) (Rx Ry : Rc) : Prop where
  blk : w.heap[sd]? = some (.cells #[.pointer (some ⟨x, 0, none⟩), .pointer (some ⟨y, 0, none⟩), vs, vr, vw] 49 (0, 0))
  csd : col sd = 25
  hx : Has (fun b => b < w.heap.size ∧ col b ≠ cx) x n Rx w
  hy : RHas wz (fun b => b < w.heap.size ∧ col b ≠ cy) y n Ry w

/-- New blocks get a colour. -/
def newcol (col : Nat → Nat) (n q : Nat) : Nat → Nat := fun b => if b < n then col b else q
theorem newcol_old {col : Nat → Nat} {n q b : Nat} (h : b < n) : newcol col n q b = col b := by simp [newcol, h]
theorem newcol_new {col : Nat → Nat} {n q b : Nat} (h : n ≤ b) : newcol col n q b = q := by
  have : ¬ b < n := by omega
  simp [newcol, this]

theorem SideAt.frame {wz : World} {col col' : Nat → Nat} {w w' : World} {sd cx cy x y : Nat} {n : Net} {vs vr vw : Value} {Rx Ry : Rc} (h : SideAt wz col w sd cx cy x y n vs vr vw Rx Ry)
    (hk : ∀ b, b < w.heap.size → col b = 25 ∨ col b = cx ∨ col b = cy → w'.heap[b]? = w.heap[b]? ∧ col' b = col b) (hz : Below wz.heap.size wz w') : SideAt wz col' w' sd cx cy x y n vs vr vw Rx Ry := by
  have hs := hk sd (lt_of_blk h.blk) (Or.inl h.csd)
  have k1 : ∀ b, b < w.heap.size → ¬ (b < w.heap.size ∧ col b ≠ cx) → col b = cx := fun b hb e => Classical.byContradiction fun e' => e ⟨hb, e'⟩
  have k2 : ∀ b, b < w.heap.size → ¬ (b < w.heap.size ∧ col b ≠ cy) → col b = cy := fun b hb e => Classical.byContradiction fun e' => e ⟨hb, e'⟩
  refine ⟨hs.1.trans h.blk, hs.2.trans h.csd, h.hx.turn (fun b hb e => (hk b hb (Or.inr (Or.inl (k1 b hb e)))).1) (fun b hb e e' => ?_) (fun b hb => hb.1), h.hy.turn (fun b hb e => (hk b hb (Or.inr (Or.inr (k2 b hb e)))).1) (fun b hb e e' => ?_) (fun b hb => hb.1) hz⟩
  · exact e'.2 ((hk b hb (Or.inr (Or.inl (k1 b hb e)))).2.trans (k1 b hb e))
  · exact e'.2 ((hk b hb (Or.inr (Or.inr (k2 b hb e)))).2.trans (k2 b hb e))

theorem SideAt.below {wz : World} {col : Nat → Nat} {w w' : World} {sd cx cy x y : Nat} {n : Net} {vs vr vw : Value} {Rx Ry : Rc} (h : SideAt wz col w sd cx cy x y n vs vr vw Rx Ry) (hz : Below wz.heap.size wz w) (q : Nat) (hb : Below w.heap.size w w') : SideAt wz (newcol col w.heap.size q) w' sd cx cy x y n vs vr vw Rx Ry :=
  h.frame (fun b h' _ => ⟨hb.block b h', newcol_old h'⟩) (hz.trans (hb.mono hz.size))

/-- What a call leaves that touches the book and the blocks of a side's two races alone. -/
structure Did (base cx cy : Nat) (col : Nat → Nat) (w : World) (col' : Nat → Nat) (w' : World) : Prop where
  fr : Fr (fun b => base ≤ b ∧ (col b ≤ 20 ∨ col b = cx ∨ col b = cy)) w w'
  old : ∀ b, b < w.heap.size → 20 < col b → col' b = col b

theorem Did.wz {base cx cy : Nat} {col col' : Nat → Nat} {w w' wz : World} (h : Did base cx cy col w col' w') (hz : Below wz.heap.size wz w) (hzb : wz.heap.size ≤ base) : Below wz.heap.size wz w' :=
  hz.trans ⟨h.fr.os, h.fr.tape, h.fr.output, h.fr.size, fun b hb => h.fr.block b (by have := hz.size; omega) (fun e => by have := e.1; omega)⟩

theorem Did.trans {base cx cy : Nat} {col col1 col2 : Nat → Nat} {w w1 w2 : World} (h : Did base cx cy col w col1 w1) (k : Did base cx cy col1 w1 col2 w2) : Did base cx cy col w col2 w2 := by
  have hsz := h.fr.size
  refine ⟨h.fr.trans k.fr (fun b hb e => ?_), fun b hb h20 => ?_⟩
  · rcases Nat.lt_or_ge 20 (col b) with h20 | h20
    · rw [← h.old b hb h20]; exact e
    · exact ⟨e.1, Or.inl h20⟩
  · have e := h.old b hb h20
    rw [k.old b (by omega) (by omega), e]

theorem Did.of_below {base cx cy q : Nat} {col : Nat → Nat} {w w' : World} (hb : Below w.heap.size w w') : Did base cx cy col w (newcol col w.heap.size q) w' :=
  ⟨Fr.of_below hb, fun _ h _ => newcol_old h⟩

/-- Another side stays. -/
theorem SideAt.did {base cx cy : Nat} {wz : World} {col col' : Nat → Nat} {w w' : World} {sd dx dy x y : Nat} {n : Net} {vs vr vw : Value} {Rx Ry : Rc} (h : SideAt wz col w sd dx dy x y n vs vr vw Rx Ry) (hd : Did base cx cy col w col' w') (hz : Below wz.heap.size wz w) (hzb : wz.heap.size ≤ base)
    (hcx : 29 < cx) (hcy : 29 < cy) (hdx : 29 < dx) (hdy : 29 < dy) (h1 : dx ≠ cx) (h2 : dx ≠ cy) (h3 : dy ≠ cx) (h4 : dy ≠ cy) : SideAt wz col' w' sd dx dy x y n vs vr vw Rx Ry :=
  h.frame (fun b hb e => ⟨hd.fr.block b hb (fun e' => by have := e'.2; omega), hd.old b hb (by omega)⟩) (hd.wz hz hzb)

/-- The row of sides stays. -/
theorem Did.row {base cx cy : Nat} {col col' : Nat → Nat} {w w' : World} (hd : Did base cx cy col w col' w') {v0 : Value} {vals : List Value} (hcx : 29 < cx) (hcy : 29 < cy) (hrow : w.ownsRow base 50 1 v0 vals.length vals) (hv0 : ∀ g, v0.ownBlock = some g → col g = 24) :
    w'.ownsRow base 50 1 v0 vals.length vals ∧ ∀ g, v0.ownBlock = some g → col' g = 24 := by
  have hlt : ∀ g, v0.ownBlock = some g → g < w.heap.size := fun g hg => (hrow.lt g hg).2
  exact ⟨own_of_blockB hrow fun g hg => hd.fr.block g (hlt g hg) (fun e => by have := e.2; have := hv0 g hg; omega), fun g hg => (hd.old g (hlt g hg) (by rw [hv0 g hg]; omega)).trans (hv0 g hg)⟩

theorem keeps_wz {base q : Nat} {col : Nat → Nat} {w w' wz : World} (hlow : ∀ b, b < base → 90 ≤ col b) (hq : q < 90) (hz : Below wz.heap.size wz w) (hzb : wz.heap.size ≤ base) (hk : Keeps (fun b => b < w.heap.size ∧ col b ≠ q) w w') : Below wz.heap.size wz w' :=
  hz.trans ⟨hk.os, hk.tape, hk.output, hk.size, fun b hb => hk.block b (by have := hz.size; omega) (fun e => e ⟨by have := hz.size; omega, fun e' => by have := hlow b (by omega); omega⟩)⟩

theorem keeps_block {q : Nat} {col : Nat → Nat} {w w' : World} (hk : Keeps (fun b => b < w.heap.size ∧ col b ≠ q) w w') {b : Nat} (hb : b < w.heap.size) (hq : col b ≠ q) : w'.heap[b]? = w.heap[b]? :=
  hk.block b hb (fun e => e ⟨hb, hq⟩)

theorem keeps_did {base cx cy q : Nat} {col : Nat → Nat} {w w' : World} (hlow : ∀ b, b < base → 90 ≤ col b) (hq : q < 90) (hqc : q = cx ∨ q = cy) (hk : Keeps (fun b => b < w.heap.size ∧ col b ≠ q) w w') : Did base cx cy col w (newcol col w.heap.size q) w' := by
  refine ⟨⟨hk.os, hk.tape, hk.output, hk.size, fun b hb e => ?_⟩, fun b hb _ => newcol_old hb⟩
  refine keeps_block hk hb fun e' => e ⟨?_, ?_⟩
  · rcases Nat.lt_or_ge b base with h | h
    · have := hlow b h; omega
    · exact h
  · rcases hqc with rfl | rfl
    · exact Or.inr (Or.inl e')
    · exact Or.inr (Or.inr e')

theorem keeps_bk {base q : Nat} {col : Nat → Nat} {w w' : World} {p : Nat} {v0 : Value} {c : Nat} (hb : Bk base col w p v0 c) (hq : 29 < q) (hq9 : q < 90) (hz : base ≤ w.heap.size) (hk : Keeps (fun b => b < w.heap.size ∧ col b ≠ q) w w') : Bk base (newcol col w.heap.size q) w' p v0 c :=
  hb.frame (fun b h h8 => keeps_block hk h (by omega)) (fun b h _ => newcol_old h) (fun b h => by rw [newcol_old (by omega)]; exact hb.low b h) hk.size (Nat.le_refl _)

/-- A call on the program's race. -/
theorem SideAt.callx {base : Nat} {wz : World} {col : Nat → Nat} {w w' : World} {sd cx cy x y : Nat} {n : Net} {vs vr vw : Value} {Rx Ry Rx' : Rc} (h : SideAt wz col w sd cx cy x y n vs vr vw Rx Ry) (hlow : ∀ b, b < base → 90 ≤ col b) (hz : Below wz.heap.size wz w) (hzb : wz.heap.size ≤ base) (hcx : 29 < cx) (hcx9 : cx < 90) (hne : cx ≠ cy)
    (hx' : Has (fun b => b < w.heap.size ∧ col b ≠ cx) x n Rx' w') (hk : Keeps (fun b => b < w.heap.size ∧ col b ≠ cx) w w') : SideAt wz (newcol col w.heap.size cx) w' sd cx cy x y n vs vr vw Rx' Ry := by
  have hs := lt_of_blk h.blk
  have k2 : ∀ b, b < w.heap.size → ¬ (b < w.heap.size ∧ col b ≠ cy) → col b = cy := fun b hb e => Classical.byContradiction fun e' => e ⟨hb, e'⟩
  refine ⟨(keeps_block hk hs (by rw [h.csd]; omega)).trans h.blk, (newcol_old hs).trans h.csd, ?_, h.hy.turn (fun b hb e => keeps_block hk hb (by rw [k2 b hb e]; omega)) (fun b hb e e' => e'.2 ((newcol_old hb).trans (k2 b hb e))) (fun b hb => hb.1) (keeps_wz hlow hcx9 hz hzb hk)⟩
  obtain ⟨L, h1, h2, h3⟩ := hx'.ex
  refine ⟨⟨L, h1, h2, fun b hf e => ?_⟩, fun b e => e.1⟩
  rcases Nat.lt_or_ge b w.heap.size with hb | hb
  · exact h3 b hf ⟨hb, by have := e.2; rw [newcol_old hb] at this; exact this⟩
  · exact e.2 (newcol_new hb)

/-- A call on the document's race. -/
theorem SideAt.cally {wz : World} {col : Nat → Nat} {w w' : World} {sd cx cy x y : Nat} {n : Net} {vs vr vw : Value} {Rx Ry Ry' : Rc} (h : SideAt wz col w sd cx cy x y n vs vr vw Rx Ry) (hcy : 29 < cy) (hne : cx ≠ cy)
    (hy' : RHas wz (fun b => b < w.heap.size ∧ col b ≠ cy) y n Ry' w') (hk : Keeps (fun b => b < w.heap.size ∧ col b ≠ cy) w w') : SideAt wz (newcol col w.heap.size cy) w' sd cx cy x y n vs vr vw Rx Ry' := by
  have hs := lt_of_blk h.blk
  have k2 : ∀ b, b < w.heap.size → ¬ (b < w.heap.size ∧ col b ≠ cx) → col b = cx := fun b hb e => Classical.byContradiction fun e' => e ⟨hb, e'⟩
  refine ⟨(keeps_block hk hs (by rw [h.csd]; omega)).trans h.blk, (newcol_old hs).trans h.csd, h.hx.turn (fun b hb e => keeps_block hk hb (by rw [k2 b hb e]; exact hne)) (fun b hb e e' => e'.2 ((newcol_old hb).trans (k2 b hb e))) (fun b hb => hb.1), ?_⟩
  obtain ⟨L, h1, h2, h3, h4⟩ := hy'.ex
  refine ⟨⟨L, h1, h2, fun b hf e => ?_, h4⟩, fun b e => e.1⟩
  rcases Nat.lt_or_ge b w.heap.size with hb | hb
  · exact h3 b hf ⟨hb, by have := e.2; rw [newcol_old hb] at this; exact this⟩
  · exact e.2 (newcol_new hb)

end Go.Proofs.YthfdgdfnflilfaaGreatDoor

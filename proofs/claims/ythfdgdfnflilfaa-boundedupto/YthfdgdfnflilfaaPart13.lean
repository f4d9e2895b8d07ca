/- Part 13: Keep2, Keep3, Keep4, Keep5, Keep6. -/
import Derived.Laws.StructEq
import Derived.Test.YthfdgdfnflilfaaPart12
/- A race as a caller sees it: its calls, and what they leave alone. -/
namespace Go.Proofs.Ythfdgdfnflilfaa
open Go.RowKit Go.Conc

theorem RaceAt.frame {L : Lay} {w w' : World} {N : Net} {R : Rc} (h : RaceAt L w N R) (hk : ∀ b, Foot L N b → w'.heap[b]? = w.heap[b]?) : RaceAt L w' N R := by
  obtain ⟨g, cap, hv, cs, hg, hcs⟩ := h.rowW
  refine ⟨by rw [hk _ (Or.inl rfl)]; exact h.blk, ?_, ⟨g, cap, hv, cs, by rw [hk g (Or.inr (Or.inr (Or.inl (by rw [hv]; rfl))))]; exact hg, hcs⟩,
    fun k hk' => (h.wk k hk').stays fun y hy => hk y (Or.inr (Or.inr (Or.inr (Or.inr ⟨k, hk', hy⟩)))), h.ch, h.injS, h.injW, h.lenW, h.lenS, h.ok⟩
  obtain ⟨g2, cap2, hv2, cs2, hg2, hcs2⟩ := h.env.along.form
  exact ⟨⟨⟨g2, cap2, hv2, cs2, by rw [hk g2 (Or.inr (Or.inl (by rw [hv2]; rfl)))]; exact hg2, hcs2⟩, h.env.along.small⟩, fun s hs => (h.env.at' s hs).stays fun y hy => hk y (Or.inr (Or.inr (Or.inr (Or.inl ⟨s, hs, hy⟩))))⟩

theorem RaceAt.foot_lt {L : Lay} {w : World} {N : Net} {R : Rc} (h : RaceAt L w N R) {b : Nat} (hb : Foot L N b) : b < w.heap.size := by
  rcases hb with rfl | hb | hb | ⟨s, hs, hb⟩ | ⟨j, hj, hb⟩
  · exact lt_of_blk h.blk
  · obtain ⟨g2, cap2, hv2, cs2, hg2, hcs2⟩ := h.env.along.form
    rw [hv2] at hb
    have : g2 = b := by simpa [Value.ownBlock] using hb
    subst this
    exact lt_of_blk hg2
  · obtain ⟨g, cap, hv, cs, hg, hcs⟩ := h.rowW
    rw [hv] at hb
    have : g = b := by simpa [Value.ownBlock] using hb
    subst this
    exact lt_of_blk hg
  · have hst := h.env.at' s hs
    rcases hb with rfl | hb | hb
    · exact lt_of_blk hst.blk
    · obtain ⟨cur, hc⟩ := own_block hst.own hb; exact lt_of_blk hc
    · obtain ⟨⟨s', r, h1⟩, _⟩ := hst.chan b hb; exact lt_of_blk h1
  · have hw := h.wk j hj
    rcases hb with rfl | hb
    · exact lt_of_blk hw.blk
    · obtain ⟨cur, hc⟩ := own_block hw.own hb; exact lt_of_blk hc

/-- A race at a pointer; what lies in A is none of it. -/
structure Has (A : Nat → Prop) (p : Nat) (N : Net) (R : Rc) (w : World) : Prop where
  ex : ∃ L, L.p = p ∧ RaceAt L w N R ∧ ∀ b, Foot L N b → ¬ A b
  lt : ∀ b, A b → b < w.heap.size

/-- What lies in A has stayed. -/
def Keeps (A : Nat → Prop) (w w' : World) : Prop := Fr (fun b => ¬ A b) w w'

theorem Keeps.below {A : Nat → Prop} {n : Nat} {w w' : World} (h : Keeps A w w') (hn : n ≤ w.heap.size) (hA : ∀ b, b < n → A b) : Below n w w' :=
  ⟨h.os, h.tape, h.output, h.size, fun k hk => h.block k (by omega) (fun e => e (hA k hk))⟩
theorem Keeps.of_below {A : Nat → Prop} {w w' : World} (h : Below w.heap.size w w') : Keeps A w w' := Fr.of_below h
theorem Keeps.trans {A : Nat → Prop} {a b c : World} (h : Keeps A a b) (k : Keeps A b c) : Keeps A a c := Fr.trans h k (fun _ _ e => e)

theorem Has.mono {A B : Nat → Prop} {p : Nat} {N : Net} {R : Rc} {w : World} (h : Has A p N R w) (hs : ∀ b, B b → A b) : Has B p N R w := by
  obtain ⟨L, h1, h2, h3⟩ := h.ex
  exact ⟨⟨L, h1, h2, fun b hb hB => h3 b hb (hs b hB)⟩, fun b hb => h.lt b (hs b hb)⟩

theorem Has.below {A : Nat → Prop} {p : Nat} {N : Net} {R : Rc} {w w' : World} (h : Has A p N R w) (hb : Below w.heap.size w w') : Has A p N R w' := by
  obtain ⟨L, h1, h2, h3⟩ := h.ex
  exact ⟨⟨L, h1, h2.below hb, h3⟩, fun b hA => Nat.lt_of_lt_of_le (h.lt b hA) hb.size⟩

/-- A block that came later, or none of the race's, may be added to A. -/
theorem Has.add {A : Nat → Prop} {p : Nat} {N : Net} {R : Rc} {w w' : World} (h : Has A p N R w) (hb : Below w.heap.size w w') : Has (fun b => A b ∨ (w.heap.size ≤ b ∧ b < w'.heap.size)) p N R w' := by
  obtain ⟨L, h1, h2, h3⟩ := h.ex
  refine ⟨⟨L, h1, h2.below hb, fun b hf hA => ?_⟩, fun b hA => ?_⟩
  · rcases hA with hA | hA
    · exact h3 b hf hA
    · have := h2.foot_lt hf; omega
  · rcases hA with hA | hA
    · have := h.lt b hA; have := hb.size; omega
    · exact hA.2

theorem Has.went {A : Nat → Prop} {L : Lay} {N : Net} {S : Rc} {w w' : World} (hA : ∀ b, Foot L N b → ¬ A b) (hlt : ∀ b, A b → b < w.heap.size) (h : Went L w N S w') : Has A L.p N S w' ∧ Keeps A w w' := by
  obtain ⟨L', r, g, f⟩ := h.at'
  refine ⟨⟨⟨L', g.1.1, r, fun b hb hAb => ?_⟩, fun b hAb => Nat.lt_of_lt_of_le (hlt b hAb) f.size⟩, f.mono fun k _ hk => hA k hk⟩
  rcases g.2 b hb with h1 | h1
  · exact hA b h1 hAb
  · have := hlt b hAb; omega

/-- The stream has a channel. -/
def heldB (N : Net) (s : Nat) : Bool := used N s && !srcd N s
theorem RaceAt.ch_iff {L : Lay} {w : World} {N : Net} {R : Rc} (h : RaceAt L w N R) {s : Nat} (hs : s < N.streams.length) : (L.CH s).isSome = heldB N s := by
  cases hq : srcd N s
  · have := h.ch s hs hq
    cases h1 : (L.CH s).isSome <;> cases h2 : used N s <;> simp [heldB, hq, h1, h2] at this ⊢
  · cases h1 : L.CH s with
    | none => simp [heldB, hq]
    | some c => have := (h.env.at' s hs).nosrc c h1; rw [hq] at this; cases this

/-! ### The calls -/
def stepR (N : Net) (R : Rc) (k : Nat) : Rc := if stateOf N R k = 1 then doStep N R k else R

theorem has_step {A : Nat → Prop} {p : Nat} {N : Net} {R : Rc} {w : World} (h : Has A p N R w) (k : Nat) (hk : k < N.workers.length) (hsm : SmallR N R) :
    Calls Try.prog 12 #[.pointer (some ⟨p, 0, none⟩), .int .i64 k] w fun e w' => e = .returned (.tuple #[.int .i64 (stateOf N R k), .int .i64 0]) ∧ Has A p N (stepR N R k) w' ∧ Keeps A w w' := by
  obtain ⟨L, rfl, h2, h3⟩ := h.ex
  refine (rstep_calls h2 k hk hsm).mono fun e w' ⟨h4, h5⟩ => ⟨h4, ?_⟩
  rcases h5 with ⟨h5, h6⟩ | ⟨h5, h6⟩
  · rw [stepR, if_neg h5]; exact ⟨h.below h6, Keeps.of_below h6⟩
  · rw [stepR, if_pos h5]; exact Has.went h3 h.lt ⟨h6⟩

theorem has_step_out {A : Nat → Prop} {p : Nat} {N : Net} {R : Rc} {w : World} (h : Has A p N R w) (k : Int) (hk : inB k N.workers.length = false) :
    Calls Try.prog 12 #[.pointer (some ⟨p, 0, none⟩), .int .i64 k] w fun e w' => e = .returned (.tuple #[.int .i64 0, .int .i64 2]) ∧ w' = w := by
  obtain ⟨L, rfl, h2, h3⟩ := h.ex
  exact rstep_out h2 k hk

theorem has_look {A : Nat → Prop} {p : Nat} {N : Net} {R : Rc} {w : World} (h : Has A p N R w) (k : Nat) (hk : k < N.workers.length) :
    Calls Try.prog 10 #[.pointer (some ⟨p, 0, none⟩), .int .i64 k] w fun e w' => e = .returned (.tuple #[lookVal (R.w k) (stateOf N R k), .int .i64 0]) ∧ Below w.heap.size w w' := by
  obtain ⟨L, rfl, h2, h3⟩ := h.ex
  exact rlook_calls h2 k hk

theorem has_grow {A : Nat → Prop} {p : Nat} {N : Net} {R : Rc} {w : World} (h : Has A p N R w) (hro : RoomR N R) :
    Calls Try.prog 13 #[.pointer (some ⟨p, 0, none⟩)] w fun e w' => ∃ a b o, Grows N R a b o ∧ e = .returned (.tuple #[.int .i64 a, .int .i64 b]) ∧ Has A p N (o.elim R (growS R)) w' ∧ Keeps A w w' := by
  obtain ⟨L, rfl, h2, h3⟩ := h.ex
  refine (rgrow_calls h2 hro).mono fun e w' ⟨a, b, o, h4, h5, h6⟩ => ⟨a, b, o, h4, h5, ?_⟩
  cases o with
  | none => exact ⟨h.below h6, Keeps.of_below h6⟩
  | some t => exact Has.went h3 h.lt ⟨h6⟩

theorem has_flow {A : Nat → Prop} {p : Nat} {N : Net} {R : Rc} {w : World} (h : Has A p N R w) (hro : RoomR N R) (hw : ∀ s, s < N.streams.length → (R.s s).words.length + 100000 < 4398046511104) (m : Nat) (hm : m ≤ 100000) :
    Calls Try.prog 22 #[.pointer (some ⟨p, 0, none⟩), .int .i64 m] w fun e w' => ∃ (d : Nat) (b : Int) (S : Rc), FlowEnd N R m d b S ∧ e = .returned (.tuple #[.int .i64 (d : Nat), .int .i64 b]) ∧ Has A p N S w' ∧ Keeps A w w' := by
  obtain ⟨L, rfl, h2, h3⟩ := h.ex
  exact (rflow_calls h2 hro hw m hm).mono fun e w' ⟨d, b, S, h4, h5, h6⟩ => ⟨d, b, S, h4, h5, Has.went h3 h.lt h6⟩

theorem has_history {A : Nat → Prop} {p : Nat} {N : Net} {R : Rc} {w : World} (h : Has A p N R w) (s : Nat) (hs : s < N.streams.length) :
    Calls Try.prog 16 #[.pointer (some ⟨p, 0, none⟩), .int .i64 s] w fun e w' => ∃ a' c', e = .returned (.tuple #[.slice a' (histOf (srcd N s) (R.s s)).length c', .int .i64 0]) ∧
      w'.ownsRow w.heap.size 3 1 (.slice a' (histOf (srcd N s) (R.s s)).length c') (histOf (srcd N s) (R.s s)).length (intRow (histOf (srcd N s) (R.s s))) ∧ Below w.heap.size w w' := by
  obtain ⟨L, rfl, h2, h3⟩ := h.ex
  exact rhistory_calls h2 s hs

theorem has_new {n : Net} {v : Value} {w : World} (h : NetAt w v n) (hok : validB n = true) :
    Calls Try.prog 9 #[v] w fun e w' => ∃ p, e = .returned (.tuple #[.pointer (some ⟨p, 0, none⟩), .int .i64 0]) ∧ Has (fun b => b < w.heap.size) p n (initR n n.streams) w' ∧ Below w.heap.size w w' :=
  (new_calls h hok).mono fun e w' ⟨L, h1, h2, h3, h4⟩ => ⟨L.p, h1, ⟨⟨L, rfl, h2, fun b hb hlt => by have := h3 b hb; omega⟩, fun b hb => Nat.lt_of_lt_of_le hb h4.size⟩, h4⟩

theorem has_len {A : Nat → Prop} {p : Nat} {N : Net} {R : Rc} {w : World} (h : Has A p N R w) : R.W.length = N.workers.length ∧ R.S.length = N.streams.length ∧ validB N = true := by
  obtain ⟨L, rfl, h2, h3⟩ := h.ex
  exact ⟨h2.lenW, h2.lenS, h2.ok⟩

/-- The numbers of a row that is owned. -/
theorem own_get {w : World} {n : Nat} {a : Option Addr} {cap : Nat} {l : List Int} (h : w.ownsRow n 3 1 (.slice a l.length cap) l.length (intRow l)) : ∀ i, i < l.length → ∃ g, a = some ⟨g, 0, none⟩ ∧ n ≤ g ∧ w.cell? ⟨g, i, none⟩ = some (.int .i64 (l.getD i 0)) := by
  obtain ⟨h1, h2⟩ := h
  rcases h2 with ⟨h3, h4⟩ | ⟨g, cap, cur, hv, hg, hh, hn, hm, hs, ht⟩
  · intro i hi; omega
  · intro i hi
    cases hv
    refine ⟨g, rfl, hg, ?_⟩
    have e : (intRow l)[i]? = some (.int .i64 (l.getD i 0)) := by rw [intRow_get _ _ hi, getD_eq _ _ _ hi]
    rw [← ht] at e
    simp only [Nat.mul_one] at e
    rw [List.getElem?_take_of_lt hi] at e
    simp [World.cell?, hh]
    simpa using e

end Go.Proofs.Ythfdgdfnflilfaa
/- millracekeep: sure. -/
namespace Go.Proofs.Ythfdgdfnflilfaa
open Go.RowKit Go.Conc

theorem netOne_at {w : World} {a b c d e : Nat} (h0 : w.heap[a]? = some (.cells #[.int .i64 2, .int .i64 1] 3 (0, 0))) (h1 : w.heap[b]? = some (.cells #[.int .i64 5, .int .i64 6] 3 (0, 0)))
    (h2 : w.heap[c]? = some (.cells #[.int .i64 0, .slice (some ⟨b, 0, none⟩) 2 2] 54 (0, 0)))
    (h3 : w.heap[d]? = some (.cells #[.int .i64 1, .int .i64 0, .int .i64 0, .int .i64 4, .int .i64 4, .int .i64 0, .int .i64 0, .int .i64 0, .int .i64 2, .int .i64 0, .int .i64 1, .int .i64 0, .int .i64 9, .int .i64 0, .int .i64 0, .int .i64 0] 56 (0, 0)))
    (h4 : w.heap[e]? = some (.cells #[.slice (some ⟨d, 0, none⟩) 4 4] 57 (0, 0))) :
    NetAt w (.agg #[.slice (some ⟨a, 0, none⟩) 2 2, .slice (some ⟨c, 0, none⟩) 1 1, .slice (some ⟨e, 0, none⟩) 1 1]) netOne := by
  refine ⟨_, _, _, rfl, ⟨some ⟨a, 0, none⟩, 2, rfl, by decide, by decide, Or.inr ⟨a, 0, rfl, fun i hi j hj => ?_⟩⟩, ⟨fun _ => .slice (some ⟨b, 0, none⟩) 2 2, ⟨some ⟨c, 0, none⟩, 1, rfl, by decide, by decide, Or.inr ⟨c, 0, rfl, fun i hi j hj => ?_⟩⟩, fun i hi => ?_⟩, ⟨fun _ => .slice (some ⟨d, 0, none⟩) 4 4, ⟨some ⟨e, 0, none⟩, 1, rfl, by decide, by decide, Or.inr ⟨e, 0, rfl, fun i hi j hj => ?_⟩⟩, fun i hi => ?_⟩⟩
  · have hi' : i < 2 := hi
    have hc : (i = 0 ∨ i = 1) ∧ j = 0 := by omega
    obtain ⟨rfl | rfl, rfl⟩ := hc <;> exact row_cell h0 rfl
  · have hi' : i < 1 := hi
    have hc : i = 0 ∧ (j = 0 ∨ j = 1) := by omega
    obtain ⟨rfl, rfl | rfl⟩ := hc <;> exact row_cell h2 rfl
  · have hi' : i < 1 := hi
    have hc : i = 0 := by omega
    subst hc
    refine ⟨some ⟨b, 0, none⟩, 2, rfl, by simp [netOne], by simp [netOne], Or.inr ⟨b, 0, rfl, fun i hi j hj => ?_⟩⟩
    have hi' : i < 2 := hi
    have hc : (i = 0 ∨ i = 1) ∧ j = 0 := by omega
    obtain ⟨rfl | rfl, rfl⟩ := hc <;> exact row_cell h1 rfl
  · have hi' : i < 1 := hi
    have hc : i = 0 ∧ j = 0 := by omega
    obtain ⟨rfl, rfl⟩ := hc
    exact row_cell h4 rfl
  · have hi' : i < 1 := hi
    have hc : i = 0 := by omega
    subst hc
    refine ⟨some ⟨d, 0, none⟩, 4, rfl, by simp [netOne], by simp [netOne], Or.inr ⟨d, 0, rfl, fun i hi j hj => ?_⟩⟩
    have hi' : i < 4 := hi
    have hc : (i = 0 ∨ i = 1 ∨ i = 2 ∨ i = 3) ∧ (j = 0 ∨ j = 1 ∨ j = 2 ∨ j = 3) := by omega
    obtain ⟨rfl | rfl | rfl | rfl, rfl | rfl | rfl | rfl⟩ := hc <;> exact row_cell h3 rfl

theorem netTwo_at {w : World} {a c d e : Nat} (h0 : w.heap[a]? = some (.cells #[.int .i64 1, .int .i64 1] 3 (0, 0)))
    (h2 : w.heap[c]? = some (.cells #[.int .i64 2, .int .i64 0, .int .i64 0, .int .i64 0, .int .i64 2, .int .i64 0, .int .i64 0, .int .i64 0, .int .i64 2, .int .i64 0, .int .i64 1, .int .i64 0] 56 (0, 0)))
    (h3 : w.heap[d]? = some (.cells #[.int .i64 1, .int .i64 0, .int .i64 1, .int .i64 0, .int .i64 1, .int .i64 0, .int .i64 0, .int .i64 0, .int .i64 1, .int .i64 0, .int .i64 0, .int .i64 0] 56 (0, 0)))
    (h4 : w.heap[e]? = some (.cells #[.slice (some ⟨c, 0, none⟩) 3 3, .slice (some ⟨d, 0, none⟩) 3 3] 57 (0, 0))) :
    NetAt w (.agg #[.slice (some ⟨a, 0, none⟩) 2 2, .slice none 0 0, .slice (some ⟨e, 0, none⟩) 2 2]) netTwo := by
  refine ⟨_, _, _, rfl, ⟨some ⟨a, 0, none⟩, 2, rfl, by decide, by decide, Or.inr ⟨a, 0, rfl, fun i hi j hj => ?_⟩⟩, ⟨fun _ => .bool false, ⟨none, 0, rfl, by decide, by decide, Or.inl rfl⟩, fun i hi => ?_⟩, ⟨fun i => if i = 0 then .slice (some ⟨c, 0, none⟩) 3 3 else .slice (some ⟨d, 0, none⟩) 3 3, ⟨some ⟨e, 0, none⟩, 2, rfl, by decide, by decide, Or.inr ⟨e, 0, rfl, fun i hi j hj => ?_⟩⟩, fun i hi => ?_⟩⟩
  · have hi' : i < 2 := hi
    have hc : (i = 0 ∨ i = 1) ∧ j = 0 := by omega
    obtain ⟨rfl | rfl, rfl⟩ := hc <;> exact row_cell h0 rfl
  · exact absurd hi (by have : netTwo.sources.length = 0 := rfl; omega)
  · have hi' : i < 2 := hi
    have hc : (i = 0 ∨ i = 1) ∧ j = 0 := by omega
    obtain ⟨rfl | rfl, rfl⟩ := hc <;> exact row_cell h4 rfl
  · have hi' : i < 2 := hi
    have hc : i = 0 ∨ i = 1 := by omega
    rcases hc with rfl | rfl
    · refine ⟨some ⟨c, 0, none⟩, 3, rfl, by simp [netTwo], by simp [netTwo], Or.inr ⟨c, 0, rfl, fun i hi j hj => ?_⟩⟩
      have hi' : i < 3 := hi
      have hc : (i = 0 ∨ i = 1 ∨ i = 2) ∧ (j = 0 ∨ j = 1 ∨ j = 2 ∨ j = 3) := by omega
      obtain ⟨rfl | rfl | rfl, rfl | rfl | rfl | rfl⟩ := hc <;> exact row_cell h2 rfl
    · refine ⟨some ⟨d, 0, none⟩, 3, rfl, by simp [netTwo], by simp [netTwo], Or.inr ⟨d, 0, rfl, fun i hi j hj => ?_⟩⟩
      have hi' : i < 3 := hi
      have hc : (i = 0 ∨ i = 1 ∨ i = 2) ∧ (j = 0 ∨ j = 1 ∨ j = 2 ∨ j = 3) := by omega
      obtain ⟨rfl | rfl | rfl, rfl | rfl | rfl | rfl⟩ := hc <;> exact row_cell h3 rfl

theorem small_init {N : Net} (h : validB N = true) : SmallR N (initR N N.streams) := fun s hs => by have := init_words h s hs; omega

end Go.Proofs.Ythfdgdfnflilfaa
/- millracekeep: sure, the walk. -/
namespace Go.Proofs.Ythfdgdfnflilfaa
open Go.RowKit Go.Conc

theorem heap_new' {w : World} {o : Obj} {k : Nat} (h : k = w.heap.size) : (w.alloc o).heap[k]? = some o := by subst h; exact heap_alloc_new _ _
theorem heap_old' {w : World} {o o' : Obj} {k : Nat} (h : k < w.heap.size) (hh : w.heap[k]? = some o') : (w.alloc o).heap[k]? = some o' := (Below.heap_alloc _ _ _ h).trans hh
theorem allocs5 (w : World) (o0 o1 o2 o3 o4 : Obj) : (((((w.alloc o0).alloc o1).alloc o2).alloc o3).alloc o4).heap[w.heap.size]? = some o0 ∧ (((((w.alloc o0).alloc o1).alloc o2).alloc o3).alloc o4).heap[w.heap.size + 1]? = some o1 ∧
    (((((w.alloc o0).alloc o1).alloc o2).alloc o3).alloc o4).heap[w.heap.size + 1 + 1]? = some o2 ∧ (((((w.alloc o0).alloc o1).alloc o2).alloc o3).alloc o4).heap[w.heap.size + 1 + 1 + 1]? = some o3 ∧ (((((w.alloc o0).alloc o1).alloc o2).alloc o3).alloc o4).heap[w.heap.size + 1 + 1 + 1 + 1]? = some o4 := by
  refine ⟨?_, ?_, ?_, ?_, ?_⟩
  all_goals (repeat (first | exact heap_new' (by simp) | refine heap_old' (by first | (simp; done) | (simp; omega)) ?_))
theorem allocs6 (w : World) (o0 o1 o2 o3 o4 o5 : Obj) : ((((((w.alloc o0).alloc o1).alloc o2).alloc o3).alloc o4).alloc o5).heap[w.heap.size]? = some o0 ∧ ((((((w.alloc o0).alloc o1).alloc o2).alloc o3).alloc o4).alloc o5).heap[w.heap.size + 1]? = some o1 ∧
    ((((((w.alloc o0).alloc o1).alloc o2).alloc o3).alloc o4).alloc o5).heap[w.heap.size + 1 + 1]? = some o2 ∧ ((((((w.alloc o0).alloc o1).alloc o2).alloc o3).alloc o4).alloc o5).heap[w.heap.size + 1 + 1 + 1]? = some o3 ∧ ((((((w.alloc o0).alloc o1).alloc o2).alloc o3).alloc o4).alloc o5).heap[w.heap.size + 1 + 1 + 1 + 1]? = some o4 := by
  refine ⟨?_, ?_, ?_, ?_, ?_⟩
  all_goals (repeat (first | exact heap_new' (by simp) | refine heap_old' (by first | (simp; done) | (simp; omega)) ?_))

set_option maxRecDepth 100000 in
set_option maxHeartbeats 4000000 in
theorem sure_calls (w : World) : Calls Try.prog 8 #[] w fun e w' => e = .returned (.bool true) ∧ Below w.heap.size w w' := by
  have HN1 : Hid (∀ wx, NetAt wx (.agg #[.slice (some ⟨w.heap.size, 0, none⟩) 2 2, .slice (some ⟨w.heap.size + 1 + 1, 0, none⟩) 1 1, .slice (some ⟨w.heap.size + 1 + 1 + 1 + 1, 0, none⟩) 1 1]) netOne → Calls Try.prog 9 #[.agg #[.slice (some ⟨w.heap.size, 0, none⟩) 2 2, .slice (some ⟨w.heap.size + 1 + 1, 0, none⟩) 1 1, .slice (some ⟨w.heap.size + 1 + 1 + 1 + 1, 0, none⟩) 1 1]] wx fun e w' => ∃ p, e = .returned (.tuple #[.pointer (some ⟨p, 0, none⟩), .int .i64 0]) ∧ Has (fun b => b < wx.heap.size) p netOne (initR netOne netOne.streams) w' ∧ Below wx.heap.size wx w') := fun wx hx => has_new hx netOne_ok
  have HF1 : Hid (∀ wx p, Has (fun b => b < w.heap.size) p netOne (initR netOne netOne.streams) wx → Calls Try.prog 22 #[.pointer (some ⟨p, 0, none⟩), .int .i64 100] wx fun e w' => e = .returned (.tuple #[.int .i64 9, .int .i64 3]) ∧ Has (fun b => b < w.heap.size) p netOne (oneAt 9) w' ∧ Keeps (fun b => b < w.heap.size) wx w') := fun wx p hx => by
    refine (has_flow hx (init_roomR netOne_ok) (fun s hs => by have := init_words netOne_ok s hs; omega) 100 (by decide)).mono fun e w' ⟨d, b, S, h1, h2, h3, h4⟩ => ?_
    obtain ⟨rfl, rfl, rfl⟩ := flow_one.unique h1
    exact ⟨h2, h3, h4⟩
  have HH1 : Hid (∀ wx p, Has (fun b => b < w.heap.size) p netOne (oneAt 9) wx → Calls Try.prog 16 #[.pointer (some ⟨p, 0, none⟩), .int .i64 1] wx fun e w' => ∃ g c', e = .returned (.tuple #[.slice (some ⟨g, 0, none⟩) 2 c', .int .i64 0]) ∧ w'.cell? ⟨g, 0, none⟩ = some (.int .i64 10) ∧ w'.cell? ⟨g, 1, none⟩ = some (.int .i64 12) ∧ Below wx.heap.size wx w') := fun wx p hx => by
    refine (has_history hx 1 (by decide)).mono fun e w' ⟨a', c', h1, h2, h3⟩ => ?_
    rw [oneAt_hist] at h1 h2
    obtain ⟨g, rfl, -, q0⟩ := own_get h2 0 (by decide)
    obtain ⟨g', hg', -, q1⟩ := own_get h2 1 (by decide)
    cases hg'
    exact ⟨g, c', h1, q0, q1, h3⟩
  have HN2 : Hid (∀ (n : Nat) wx, NetAt wx (.agg #[.slice (some ⟨n, 0, none⟩) 2 2, .slice none 0 0, .slice (some ⟨n + 1 + 1 + 1, 0, none⟩) 2 2]) netTwo → Calls Try.prog 9 #[.agg #[.slice (some ⟨n, 0, none⟩) 2 2, .slice none 0 0, .slice (some ⟨n + 1 + 1 + 1, 0, none⟩) 2 2]] wx fun e w' => ∃ p, e = .returned (.tuple #[.pointer (some ⟨p, 0, none⟩), .int .i64 0]) ∧ Has (fun b => b < wx.heap.size) p netTwo (initR netTwo netTwo.streams) w' ∧ Below wx.heap.size wx w') := fun n wx hx => has_new hx netTwo_ok
  have HS1 : Hid (∀ wx p, Has (fun b => b < w.heap.size) p netTwo (initR netTwo netTwo.streams) wx → Calls Try.prog 12 #[.pointer (some ⟨p, 0, none⟩), .int .i64 0] wx fun e w' => e = .returned (.tuple #[.int .i64 1, .int .i64 0]) ∧ Has (fun b => b < w.heap.size) p netTwo twoAt w' ∧ Keeps (fun b => b < w.heap.size) wx w') := fun wx p hx => by
    have := has_step hx 0 (by decide) (small_init netTwo_ok)
    rw [stepR, if_pos two_a, two_a] at this
    exact this
  have hsm2 : SmallR netTwo twoAt := fun s hs => by
    have h1 := (doStep_s (N := netTwo) (R := initR netTwo netTwo.streams) (k := 0) (s := s) (by simpa [initR] using hs)).2
    have h2 := init_words netTwo_ok s hs
    unfold twoAt
    omega
  have HS2 : Hid (∀ wx p, Has (fun b => b < w.heap.size) p netTwo twoAt wx → Calls Try.prog 12 #[.pointer (some ⟨p, 0, none⟩), .int .i64 0] wx fun e w' => e = .returned (.tuple #[.int .i64 3, .int .i64 0]) ∧ Has (fun b => b < w.heap.size) p netTwo twoAt w' ∧ Keeps (fun b => b < w.heap.size) wx w') := fun wx p hx => by
    have := has_step hx 0 (by decide) hsm2
    rw [stepR, if_neg (by rw [two_b]; decide), two_b] at this
    exact this
  have HS3 : Hid (∀ wx p, Has (fun b => b < w.heap.size) p netTwo twoAt wx → Calls Try.prog 12 #[.pointer (some ⟨p, 0, none⟩), .int .i64 1] wx fun e w' => e = .returned (.tuple #[.int .i64 2, .int .i64 0]) ∧ Has (fun b => b < w.heap.size) p netTwo twoAt w' ∧ Keeps (fun b => b < w.heap.size) wx w') := fun wx p hx => by
    have := has_step hx 1 (by decide) hsm2
    rw [stepR, if_neg (by rw [two_c]; decide), two_c] at this
    exact this
  have hro2 : RoomR netTwo twoAt := fun s hs => by
    rw [show twoAt = doStep netTwo (initR netTwo netTwo.streams) 0 from rfl, (doStep_s (by simpa [initR] using hs)).1]
    exact init_roomR netTwo_ok s hs
  have HG1 : Hid (∀ wx p, Has (fun b => b < w.heap.size) p netTwo twoAt wx → Calls Try.prog 13 #[.pointer (some ⟨p, 0, none⟩)] wx fun e w' => e = .returned (.tuple #[.int .i64 0, .int .i64 0]) ∧ Has (fun b => b < w.heap.size) p netTwo (growS twoAt 0) w' ∧ Keeps (fun b => b < w.heap.size) wx w') := fun wx p hx => by
    refine (has_grow hx hro2).mono fun e w' ⟨a, b, o, h1, h2, h3, h4⟩ => ?_
    obtain ⟨rfl, rfl, rfl⟩ := grows_one h1 two_d
    exact ⟨h2, h3, h4⟩
  have HG2 : Hid (∀ wx p, Has (fun b => b < w.heap.size) p netTwo (growS twoAt 0) wx → Calls Try.prog 13 #[.pointer (some ⟨p, 0, none⟩)] wx fun e w' => e = .returned (.tuple #[.int .i64 0, .int .i64 3]) ∧ Keeps (fun b => b < w.heap.size) wx w') := fun wx p hx => by
    have hro3 : RoomR netTwo (growS twoAt 0) := fun s hs => by
      have h1 : s = 0 ∨ s = 1 := by have : netTwo.streams.length = 2 := rfl; omega
      rcases h1 with rfl | rfl <;> decide +kernel
    refine (has_grow hx hro3).mono fun e w' ⟨a, b, o, h1, h2, h3, h4⟩ => ?_
    obtain ⟨rfl, rfl, rfl⟩ := grows_one h1 two_o
    exact ⟨h2, h4⟩
  clear hsm2 hro2
  go_enter Try.func8, Try.ntmps8
  go_wp2_with fail
  refine (unhide HN1 _ (netOne_at (allocs6 w _ _ _ _ _ _).1 (allocs6 w _ _ _ _ _ _).2.1 (allocs6 w _ _ _ _ _ _).2.2.1 (allocs6 w _ _ _ _ _ _).2.2.2.1 (allocs6 w _ _ _ _ _ _).2.2.2.2)).mono ?_
  rintro e w1 ⟨p, rfl, hr1, hb1⟩
  have hb0 : Below w.heap.size w w1 := by
    refine Below.trans ?_ (hb1.mono (by simp; omega))
    refine ((((((Below.refl _ _).alloc ?_ _).alloc ?_ _).alloc ?_ _).alloc ?_ _).alloc ?_ _).alloc ?_ _ <;> simp <;> omega
  have hr1' : Has (fun b => b < w.heap.size) p netOne (initR netOne netOne.streams) w1 := hr1.mono fun b hb => by simp; omega
  have HR1 := hide hr1'
  have HB0 := hide hb0
  clear hr1 hr1' hb1 hb0 HN1
  go_wp2_with fail
  refine (unhide HF1 _ _ HR1.out).mono ?_
  rintro e w2 ⟨rfl, hr2, hk2⟩
  have HR2 := hide hr2
  have HB2 : Hid (Below w.heap.size w w2) := HB0.out.trans (hk2.below HB0.out.size fun b hb => hb)
  clear hr2 hk2 HR1 HB0 HF1
  go_wp2_with fail
  refine (unhide HH1 _ _ HR2.out).mono ?_
  rintro e w3 ⟨g, c', rfl, d0, d1, hb3⟩
  have HB3 : Hid (Below w.heap.size w w3) := HB2.out.trans (hb3.mono HB2.out.size)
  clear hb3 HR2 HB2 HH1
  go_wp2_with fail
  refine (unhide HN2 w3.heap.size _ (netTwo_at (allocs5 w3 _ _ _ _ _).1 (allocs5 w3 _ _ _ _ _).2.1 (allocs5 w3 _ _ _ _ _).2.2.1 (allocs5 w3 _ _ _ _ _).2.2.2.1)).mono ?_
  rintro e w4 ⟨p2, rfl, hr4, hb4⟩
  have hb0 : Below w.heap.size w w4 := by
    have hs := HB3.out.size
    refine Below.trans ?_ (hb4.mono (by simp; omega))
    refine (((((HB3.out.alloc ?_ _).alloc ?_ _).alloc ?_ _).alloc ?_ _).alloc ?_ _) <;> first | omega | (simp; omega)
  have hr4' : Has (fun b => b < w.heap.size) p2 netTwo (initR netTwo netTwo.streams) w4 := hr4.mono fun b hb => by have := HB3.out.size; simp; omega
  have HR1 := hide hr4'
  have HB0 := hide hb0
  clear hr4 hr4' hb4 hb0 HN2 d0 d1 HB3
  go_wp2_with fail
  refine (unhide HS1 _ _ HR1.out).mono ?_
  rintro e w5 ⟨rfl, hr, hk⟩
  have HR2 := hide hr
  have HB2 : Hid (Below w.heap.size w w5) := HB0.out.trans (hk.below HB0.out.size fun b hb => hb)
  clear hr hk HR1 HB0 HS1
  go_wp2_with fail
  refine (unhide HS2 _ _ HR2.out).mono ?_
  rintro e w6 ⟨rfl, hr, hk⟩
  have HR1 := hide hr
  have HB0 : Hid (Below w.heap.size w w6) := HB2.out.trans (hk.below HB2.out.size fun b hb => hb)
  clear hr hk HR2 HB2 HS2
  go_wp2_with fail
  refine (unhide HS3 _ _ HR1.out).mono ?_
  rintro e w7 ⟨rfl, hr, hk⟩
  have HR2 := hide hr
  have HB2 : Hid (Below w.heap.size w w7) := HB0.out.trans (hk.below HB0.out.size fun b hb => hb)
  clear hr hk HR1 HB0 HS3
  go_wp2_with fail
  refine (unhide HG1 _ _ HR2.out).mono ?_
  rintro e w8 ⟨rfl, hr, hk⟩
  have HR1 := hide hr
  have HB0 : Hid (Below w.heap.size w w8) := HB2.out.trans (hk.below HB2.out.size fun b hb => hb)
  clear hr hk HR2 HB2 HG1
  go_wp2_with fail
  refine (unhide HG2 _ _ HR1.out).mono ?_
  rintro e w9 ⟨rfl, hk⟩
  have HB2 : Hid (Below w.heap.size w w9) := HB0.out.trans (hk.below HB0.out.size fun b hb => hb)
  clear hk HR1 HB0 HG2
  go_wp2
  go_ret
  exact ⟨rfl, HB2.out⟩

end Go.Proofs.Ythfdgdfnflilfaa
/- millracekeep: what Bounded keeps. -/
namespace Go.Proofs.Ythfdgdfnflilfaa
open Go.RowKit Go.Conc

theorem Has.set {A : Nat → Prop} {p : Nat} {N : Net} {R : Rc} {w : World} (h : Has A p N R w) {q : Addr} (hq : A q.block) (v : Value) : Has A p N R (w.setCell q v) := by
  obtain ⟨L, h1, h2, h3⟩ := h.ex
  refine ⟨⟨L, h1, h2.frame fun b hb => Below.heap_setCell _ _ _ _ (fun e => h3 b hb (e ▸ hq)), h3⟩, fun b hb => ?_⟩
  have := h.lt b hb
  simpa [World.setCell] using this

/-- Rooms are the net's and what they grew by. -/
def GrewH (N : Net) (R : Rc) (M : List Int) : Prop :=
  M.length = N.streams.length ∧ ∀ s (_ : s < N.streams.length), if heldB N s = true then ((R.s s).room : Int) = N.streams.getD s 0 + M.getD s 0 ∧ 1 ≤ (R.s s).room ∧ (R.s s).room ≤ 40 ∧ 0 ≤ M.getD s 0 else M.getD s 0 = 0

theorem has_holds {A : Nat → Prop} {p : Nat} {N : Net} {R : Rc} {w : World} {v vm : Value} {M : List Int} (h : Has A p N R w) (hn : NetAt w v N) (hm : IntsAt w vm M) (hg : GrewH N R M) :
    Calls Try.prog 14 #[.pointer (some ⟨p, 0, none⟩), v, vm] w fun e w' => e = .returned (.bool true) ∧ Below w.heap.size w w' := by
  obtain ⟨L, rfl, h2, h3⟩ := h.ex
  exact holds_calls h2 hn hm ⟨hg.1, fun s hs => by rw [h2.ch_iff hs]; exact hg.2 s hs⟩

structure BInv (N : Net) (R : Rc) (M : List Int) (k : Nat) : Prop where
  room : RoomR N R
  words : ∀ s, s < N.streams.length → (R.s s).words.length ≤ 50 + k
  grew : GrewH N R M

theorem BInv.init {N : Net} (h : validB N = true) : BInv N (initR N N.streams) (List.replicate N.streams.length 0) 0 := by
  refine ⟨init_roomR h, fun s hs => init_words h s hs, by simp, fun s hs => ?_⟩
  have hz : (List.replicate N.streams.length (0 : Int)).getD s 0 = 0 := by simp [List.getD, hs]
  rw [hz]
  obtain ⟨h1, h2, h3⟩ := init_room h s hs
  split
  · rw [h1, getD_eq _ _ _ hs]; omega
  · rfl

theorem BInv.mono {N : Net} {R : Rc} {M : List Int} {k : Nat} (h : BInv N R M k) : BInv N R M (k + 1) := ⟨h.room, fun s hs => by have := h.words s hs; omega, h.grew⟩

theorem BInv.step {N : Net} {R : Rc} {M : List Int} {k : Nat} (h : BInv N R M k) (hl : R.S.length = N.streams.length) (c : Nat) : BInv N (doStep N R c) M (k + 1) := by
  have hs' : ∀ s, s < N.streams.length → _ := fun s hs => doStep_s (N := N) (R := R) (k := c) (s := s) (by omega)
  refine ⟨fun s hs => by rw [(hs' s hs).1]; exact h.room s hs, fun s hs => by have := (hs' s hs).2; have := h.words s hs; omega, h.grew.1, fun s hs => ?_⟩
  rw [(hs' s hs).1]; exact h.grew.2 s hs

theorem growS_words (R : Rc) (t s : Nat) : ((growS R t).s s).words = (R.s s).words := by
  by_cases e : s = t
  · subst e
    rcases Nat.lt_or_ge s R.S.length with h | h
    · have : (growS R s).s s = { R.s s with room := (R.s s).room + 1 } := getD_set_self _ _ _ _ h
      rw [this]
    · simp [growS, Rc.s, List.set_eq_of_length_le h]
  · have : (growS R t).s s = R.s s := getD_set_ne _ _ _ _ _ (fun e' => e e'.symm)
    rw [this]

theorem BInv.grow {N : Net} {R : Rc} {M : List Int} {k t : Nat} (h : BInv N R M k) (hl : R.S.length = N.streams.length) (hv : validB N = true) {a b : Int} (hg : Grows N R a b (some t)) : BInv N (growS R t) (M.set t (M.getD t 0 + 1)) (k + 1) := by
  obtain ⟨-, -, ht, hr⟩ := grows_ok hg
  have hh : heldB N t = true := by
    cases hg with
    | grows h1 h2 h3 => obtain ⟨-, q1, q2⟩ := needs_stream hv h2.2.1; simp [heldB, q1, q2]
  refine ⟨fun s hs => ?_, fun s hs => by rw [growS_words]; have := h.words s hs; omega, by simp [h.grew.1], fun s hs => ?_⟩
  · rw [growS_s _ _ _ (by omega)]
    have := h.room s hs
    split
    · rename_i e; subst e; omega
    · omega
  · have hq := h.grew.2 s hs
    by_cases e : s = t
    · subst e
      rw [if_pos hh] at hq ⊢
      rw [growS_s _ _ _ (by omega), if_pos rfl, getD_set_self _ _ _ _ (by rw [h.grew.1]; exact hs)]
      omega
    · rw [growS_s _ _ _ (by omega), if_neg e, getD_set_ne _ _ _ _ _ (fun e' => e e'.symm)]
      exact hq

theorem doStep_steps {N : Net} {R : Rc} {c : Nat} (hc : c < R.W.length) (h : stateOf N R c = 1) : ((doStep N R c).w c).steps = wrap64 ((R.w c).steps + 1) := by
  cases hi : insAt N c (R.w c) with
  | none => simp [stateOf, hi] at h
  | some i =>
    have : (doStep N R c).w c = nextW (R.w c) i (R.s i.b.toNat).words[(R.s i.b.toNat).read]? := by
      rw [doStep_some hi]; exact getD_set_self _ _ _ _ hc
    rw [this]
    unfold nextW
    repeat' split
    all_goals rfl

theorem goesB_succ (N : Net) (R : Rc) (k : Nat) : goesB N R (k + 1) = (goesB N R k || stateOf N R k == 1) := range_any_succ _ _

theorem ints_of_blk {w : World} {g : Nat} {M : List Int} (h : w.heap[g]? = some (.cells (intRow M).toArray 3 (0, 0))) (hl : M.length ≤ 8) : IntsAt w (.slice (some ⟨g, 0, none⟩) M.length M.length) M := by
  refine ⟨some ⟨g, 0, none⟩, M.length, rfl, by omega, Nat.le_refl _, Or.inr ⟨g, 0, rfl, fun i hi j hj => ?_⟩⟩
  have hj0 : j = 0 := by omega
  subst hj0
  have := row_cell (i := i) (v := .int .i64 (M.getD i 0)) h (by rw [intRow_get _ _ hi, getD_eq _ _ _ hi])
  simpa using this

theorem intRow_set (l : List Int) (i : Nat) (x : Int) : intRow (l.set i x) = (intRow l).set i (.int .i64 x) := by simp [intRow, List.map_set]

/-- Bounded's memory between two rounds: A holds all that was there, the net's box, and the rooms' row. -/
structure BAt (w : World) (box : Obj) (p g : Nat) (N : Net) (R : Rc) (M : List Int) (k : Nat) (wr : World) : Prop where
  has : Has (fun b => b < w.heap.size + 1 ∨ b = g) p N R wr
  inv : BInv N R M k
  row : wr.heap[g]? = some (.cells (intRow M).toArray 3 (0, 0))
  bel : Below (w.heap.size + 1) (w.alloc box) wr
  gt : w.heap.size + 1 ≤ g

theorem BAt.below {w wr w' : World} {box : Obj} {p g : Nat} {N : Net} {R : Rc} {M : List Int} {k : Nat} (h : BAt w box p g N R M k wr) (hb : Below wr.heap.size wr w') : BAt w box p g N R M k w' :=
  ⟨h.has.below hb, h.inv, (hb.block g (lt_of_blk h.row)).trans h.row, h.bel.trans (hb.mono (by have := h.bel.size; simp at this; omega)), h.gt⟩

theorem BAt.keeps {w wr w' : World} {box : Obj} {p g : Nat} {N : Net} {R S : Rc} {M : List Int} {k : Nat} (h : BAt w box p g N R M k wr) (hs : Has (fun b => b < w.heap.size + 1 ∨ b = g) p N S w') (hk : Keeps (fun b => b < w.heap.size + 1 ∨ b = g) wr w') (hi : BInv N S M (k + 1)) : BAt w box p g N S M (k + 1) w' := by
  have hsz := h.bel.size
  simp at hsz
  refine ⟨hs, hi, (hk.block g (lt_of_blk h.row) (fun e => e (Or.inr rfl))).trans h.row, h.bel.trans (hk.below (by omega) fun b hb => Or.inl hb), h.gt⟩

theorem BAt.mono {w wr : World} {box : Obj} {p g : Nat} {N : Net} {R : Rc} {M : List Int} {k : Nat} (h : BAt w box p g N R M k wr) : BAt w box p g N R M (k + 1) wr := ⟨h.has, h.inv.mono, h.row, h.bel, h.gt⟩

end Go.Proofs.Ythfdgdfnflilfaa
/- millracekeep: Bounded, the walk. -/
namespace Go.Proofs.Ythfdgdfnflilfaa
open Go.RowKit Go.Conc

theorem below_box2 {w wr w' : World} {o : Obj} (h : Below (w.heap.size + 1) (w.alloc o) wr) (hb : Below wr.heap.size wr w') : Below (w.heap.size + 1) (w.alloc o) w' :=
  h.trans (hb.mono (by have := h.size; simp at this; omega))

theorem eqRegs (k : Nat) (a b c d a' b' c' d' : Int) (w : World) : (Op.equalIn (k + 2) 42 (.agg #[.int .i64 a, .int .i64 b, .int .i64 c, .int .i64 d]) (.agg #[.int .i64 a', .int .i64 b', .int .i64 c', .int .i64 d'])).run Try.prog w = .ok (a == a' && (b == b' && (c == c' && d == d'))) w := by
  have u3 := Try.underlying3
  have a3 := Try.isAgg3
  have z3 := Try.sizeOf3
  rw [Op.equalIn]
  simp only [Sem.run_bind, run_underlying Try.underlying42, Result.andThen_ok]
  simp only [Std.Legacy.Range.forIn_eq_forIn_range', Std.Legacy.Range.size, Nat.sub_zero, Nat.add_sub_cancel, Nat.div_one, List.range'_succ, List.range'_zero, List.forIn_cons, List.forIn_nil]
  go_simp
  by_cases h1 : a = a' <;> by_cases h2 : b = b' <;> by_cases h3 : c = c' <;> by_cases h4 : d = d' <;> simp [h1, h2, h3, h4]
theorem eqLook (a0 a1 a2 a3 a4 a5 a6 b0 b1 b2 b3 b4 b5 b6 : Int) (w : World) : (Op.equalIn 10000 44 (.agg #[.int .i64 a0, .int .i64 a1, .int .i64 a2, .int .i64 a3, .int .i64 a4, .int .i64 a5, .int .i64 a6]) (.agg #[.int .i64 b0, .int .i64 b1, .int .i64 b2, .int .i64 b3, .int .i64 b4, .int .i64 b5, .int .i64 b6])).run Try.prog w = .ok (a0 == b0 && ((a1 == b1 && (a2 == b2 && (a3 == b3 && a4 == b4))) && (a5 == b5 && a6 == b6))) w := by
  have u3 := Try.underlying3
  have i3 := Try.isAgg3
  have z3 := Try.sizeOf3
  have i42 := Try.isAgg42
  have z42 := Try.sizeOf42
  have hS : Try.prog.underlying 44 = some (.struct (Try.prog.fieldsOf 44)) := by kernel_rfl
  have hp : Try.prog.stoodInHeld 44 = false := Try.stoodInHeld44
  rw [show (10000 : Nat) = 9999 + 1 from rfl, run_equalIn_agg w 9999 44 _ _ hS hp]
  simp only [Program.fieldsOf, Try.underlying44]
  have er := fun (wx : World) => eqRegs 9997 a1 a2 a3 a4 b1 b2 b3 b4 wx
  go_simp
  by_cases h1 : a0 = b0 <;> by_cases h2 : a1 = b1 <;> by_cases h3 : a2 = b2 <;> by_cases h4 : a3 = b3 <;> by_cases h5 : a4 = b4 <;> by_cases h6 : a5 = b5 <;> by_cases h7 : a6 = b6 <;> simp [h1, h2, h3, h4, h5, h6, h7]
/-- A step, and what was there just ahead of it. -/
theorem bat_step {w : World} {box : Obj} {p g : Nat} {n : Net} {R : Rc} {M : List Int} {k : Nat} {wr wx : World} (h : BAt w box p g n R M k wr) (hx : Below wr.heap.size wr wx) (c : Nat) (hc : c < n.workers.length) (hk : k ≤ 1048576) :
    Calls Try.prog 12 #[.pointer (some ⟨p, 0, none⟩), .int .i64 c] wx fun e w' => e = .returned (.tuple #[.int .i64 (stateOf n R c), .int .i64 0]) ∧ BAt w box p g n (stepR n R c) M (k + 1) w' ∧ wx.heap.size ≤ w'.heap.size ∧ ∀ b, wr.heap.size ≤ b → b < wx.heap.size → w'.heap[b]? = wx.heap[b]? := by
  have hsm : SmallR n R := fun s hs => by have := h.inv.words s hs; omega
  refine (has_step (h.has.add hx) c hc hsm).mono fun e w' ⟨h1, h2, h3⟩ => ⟨h1, ?_, h3.size, fun b hb hb' => h3.block b hb' (fun e => e (Or.inr ⟨hb, hb'⟩))⟩
  refine (h.below hx).keeps (h2.mono fun b hb => Or.inl hb) (Fr.mono h3 fun b _ hb hA => hb (Or.inl hA)) ?_
  unfold stepR
  split
  · exact h.inv.step (has_len h.has).2.1 c
  · exact h.inv.mono

theorem bat_grow {w : World} {box : Obj} {p g : Nat} {n : Net} {R : Rc} {M : List Int} {k : Nat} {wr : World} (h : BAt w box p g n R M k wr) :
    Calls Try.prog 13 #[.pointer (some ⟨p, 0, none⟩)] wr fun e w' =>
      (∃ b : Int, (b = 3 ∨ b = 4) ∧ e = .returned (.tuple #[.int .i64 0, .int .i64 b]) ∧ BAt w box p g n R M (k + 1) w') ∨
      (∃ t : Nat, t < n.streams.length ∧ goesB n R n.workers.length = false ∧ e = .returned (.tuple #[.int .i64 (t : Nat), .int .i64 0]) ∧ 0 ≤ M.getD t 0 ∧ M.getD t 0 < 40 ∧ w'.cell? ⟨g, t, none⟩ = some (.int .i64 (M.getD t 0)) ∧ w'.frozen? ⟨g, t, none⟩ = false ∧ BAt w box p g n (growS R t) (M.set t (M.getD t 0 + 1)) (k + 1) (w'.setCell ⟨g, t, none⟩ (.int .i64 (M.getD t 0 + 1)))) := by
  refine (has_grow h.has h.inv.room).mono fun e w' ⟨a, b, o, h1, h2, h3, h4⟩ => ?_
  have hlen := has_len h.has
  cases o with
  | none =>
    have hb := grows_err h1
    have ha : a = 0 := by cases h1 <;> rfl
    subst ha
    exact Or.inl ⟨b, hb, h2, h.keeps h3 h4 h.inv.mono⟩
  | some t =>
    obtain ⟨rfl, rfl, ht, hr⟩ := grows_ok h1
    have hgo : goesB n R n.workers.length = false := by cases h1; assumption
    have hi := h.inv.grow hlen.2.1 hlen.2.2 h1
    have hh : heldB n t = true := by
      cases h1 with
      | grows h1 h2 h3 => obtain ⟨-, q1, q2⟩ := needs_stream hlen.2.2 h2.2.1; simp [heldB, q1, q2]
    have hq := h.inv.grew.2 t ht
    rw [if_pos hh] at hq
    have hv := valid_room hlen.2.2 t ht
    rw [getD_eq _ _ _ ht] at hq
    have hrow : w'.heap[g]? = some (.cells (intRow M).toArray 3 (0, 0)) := (h4.block g (lt_of_blk h.row) (fun e => e (Or.inr rfl))).trans h.row
    have htM : t < M.length := by rw [h.inv.grew.1]; exact ht
    have hsz := h.bel.size
    simp at hsz
    refine Or.inr ⟨t, ht, hgo, h2, hq.2.2.2, by omega, ?_, row_frozen hrow t, ⟨h3.set (Or.inr rfl) _, hi, ?_, ?_, h.gt⟩⟩
    · exact row_cell hrow (by rw [intRow_get _ _ htM, getD_eq _ _ _ htM])
    · rw [blk_set hrow, intRow_set]
    · exact (h.bel.trans (Keeps.below h4 (by omega) fun b hb => Or.inl hb)).setCell (p := ⟨g, t, none⟩) h.gt _

set_option maxRecDepth 100000 in
set_option maxHeartbeats 8000000 in
theorem bounded_out {n : Net} {v vl : Value} {l : List Int} {w : World} (hn : NetAt w v n) (hl : IntsAt w vl l) (hok : validB n = false) :
    Calls Try.prog 4 #[v, vl] w fun e w' => e = .returned (.bool true) ∧ Below w.heap.size w w' := by
  have HS : Hid (∀ wx, Calls Try.prog 8 #[] wx fun e w' => e = .returned (.bool true) ∧ Below wx.heap.size wx w') := sure_calls
  have HNet : Hid (∀ wx, Below w.heap.size w wx → NetAt wx v n) := fun wx hx => hn.below hx
  obtain ⟨vs, vr, vw, rfl, h1, h2, h3⟩ := hn
  obtain ⟨sa, sc, rfl, hsn, -, -⟩ := h1.open
  obtain ⟨ar, cr, rfl⟩ := h2.form
  obtain ⟨aw, cw, rfl⟩ := h3.form
  obtain ⟨la, lc, rfl, hln, -, -⟩ := hl.open
  have HN : Hid (∀ wx, Below w.heap.size w wx → Calls Try.prog 9 #[.agg #[.slice sa n.streams.length sc, .slice ar n.sources.length cr, .slice aw n.workers.length cw]] wx fun e w' => e = .returned (.tuple #[.pointer none, .int .i64 1]) ∧ Below wx.heap.size wx w') := fun wx hx => new_out (HNet.out wx hx) hok
  have hb0 : Below (w.heap.size + 1) (w.alloc (.cells #[.slice sa n.streams.length sc, .slice ar n.sources.length cr, .slice aw n.workers.length cw] 26)) (w.alloc (.cells #[.slice sa n.streams.length sc, .slice ar n.sources.length cr, .slice aw n.workers.length cw] 26)) := Below.refl _ _
  have t0 : (w.alloc (.cells #[.slice sa n.streams.length sc, .slice ar n.sources.length cr, .slice aw n.workers.length cw] 26)).heap[w.heap.size]? = some (.cells #[.slice sa n.streams.length sc, .slice ar n.sources.length cr, .slice aw n.workers.length cw] 26 (0, 0)) := heap_alloc_new _ _
  clear h1 h2 h3 hl HNet
  generalize n.streams.length = sl at *
  generalize n.sources.length = rl at *
  generalize n.workers.length = wl at *
  go_enter Try.func4, Try.ntmps4
  go_wp2_with fail
  refine (unhide HS _).mono ?_
  rintro e w1 ⟨rfl, hb1⟩
  have hb01 := below_box2 hb0 hb1
  have t1 : w1.heap[w.heap.size]? = some (.cells #[.slice sa sl sc, .slice ar rl cr, .slice aw wl cw] 26 (0, 0)) := by rw [hb1.block _ (by simp)]; exact t0
  have z0 := (blk_cell t1 0 _ rfl).1
  have z1 := (blk_cell t1 1 _ rfl).1
  have z2 := (blk_cell t1 2 _ rfl).1
  have HB1 := hide hb01
  clear hb01 hb1 t0 t1 hb0 HS
  go_wp2_with fail
  refine (unhide HN _ (below_box HB1.out)).mono ?_
  rintro e w2 ⟨rfl, hb2⟩
  have HB2 := hide (below_box (below_box2 HB1.out hb2))
  clear hb2 HB1 z0 z1 z2 HN
  go_wp2
  go_ret
  exact ⟨rfl, HB2.out⟩

end Go.Proofs.Ythfdgdfnflilfaa

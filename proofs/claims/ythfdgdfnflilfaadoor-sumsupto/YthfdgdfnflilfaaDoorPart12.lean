/- Part 12: KeepH, KeepI, KeepJ, Keep6, KeepK. -/
import Derived.Deep.RegionHeld3
import Derived.Laws.StructEq
import Derived.Test.YthfdgdfnflilfaaDoorPart11
/- millracekeep: beginning, goes. -/
namespace Go.Proofs.YthfdgdfnflilfaaDoor
open Go.RowKit Go.Conc

/-! ### beginning -/
def beginB (a b : List Int) : Bool := (List.range (min a.length b.length)).all fun i => a.getD i 0 == b.getD i 0

theorem begin_of_cmp {a b : List Int} (h : Cmp a b) : beginB a b = true := by
  refine List.all_eq_true.2 fun i hi => ?_
  have hi' := List.mem_range.1 hi
  have ha : i < a.length := by omega
  have hb : i < b.length := by omega
  have := h.get (List.getElem?_eq_getElem ha) (List.getElem?_eq_getElem hb)
  rw [getD_eq _ _ _ ha, getD_eq _ _ _ hb, this]; simp

set_option maxRecDepth 100000 in
set_option maxHeartbeats 2000000 in
theorem beginning_calls {a b : List Int} {va vb : Value} {w : World} (ha : IntsAt w va a) (hb : IntsAt w vb b) (hc : beginB a b = true) :
    Calls Tryd.prog 15 #[va, vb] w fun e w' => e = .returned (.bool true) ∧ Below w.heap.size w w' := by
  obtain ⟨xa, ka, rfl, hna, -, hca⟩ := ha.open
  obtain ⟨xb, kb, rfl, hnb, -, hcb⟩ := hb.open
  have HE : Hid (∀ i (h1 : i < a.length) (h2 : i < b.length), a[i] = b[i]) := fun i h1 h2 => by
    have := List.all_eq_true.1 hc i (List.mem_range.2 (by omega))
    rw [getD_eq _ _ _ h1, getD_eq _ _ _ h2] at this
    simpa using this
  have HA := hide hca
  have HB := hide hcb
  clear hca hcb hc ha hb
  go_enter Tryd.func15, Tryd.ntmps15
  go_wp2
  go_loopw [5] (fun i wr => ∃ k : Nat, k ≤ a.length ∧ i = .int .i64 k ∧ Below w.heap.size w wr) (fun i _ => a.length - (intOf i).toNat)
  case atStart => exact ⟨0, Nat.zero_le _, rfl, Below.refl _ _⟩
  case round =>
    obtain ⟨k, hk, rfl, hbl⟩ := hrel
    by_cases h1 : k < a.length
    · by_cases h2 : k < b.length
      · obtain ⟨ba, oa, rfl, d0⟩ := HA.out wr hbl k h1
        obtain ⟨bb, ob, rfl, d1⟩ := HB.out wr hbl k h2
        have he := HE.out k h1 h2
        rw [← he] at d1
        have hk0 : (0 : Int) ≤ (k : Int) := by omega
        have hk1 : (k : Int) < (a.length : Int) := by omega
        have hk2 : (k : Int) < (b.length : Int) := by omega
        have e1 : (a[k] != a[k]) = false := by simp
        clear HA HB HE he
        generalize a[k] = x at *
        go_wp2
        go_quiet (fail)
        go_wp2
        go_roundw
        case rel => exact ⟨k + 1, by omega, by go_num, below_drewN hbl _⟩
        case measure => simp [intOf]; omega
      · have e2 : decide ((k : Int) < (b.length : Int)) = false := by simp; omega
        clear HA HB HE
        go_wp2
        go_ret
        exact ⟨rfl, hbl⟩
    · clear HA HB HE
      go_wp2
      go_ret
      exact ⟨rfl, hbl⟩

/-! ### goes -/
/-- What one raw number does to a race. -/
def Go1 (N : Net) (c : Nat) (R S : Rc) : Prop :=
  (c = 6 ∧ ∃ a b o, Grows N R a b o ∧ S = o.elim R (growS R)) ∨ (c = 7 ∧ S = R) ∨ (c < 6 ∧ c < N.workers.length ∧ S = stepR N R c) ∨ (c < 6 ∧ N.workers.length ≤ c ∧ S = R)

inductive GoesTo (N : Net) (R : Rc) : List Int → Rc → Prop
  | nil : GoesTo N R [] R
  | snoc {l : List Int} {x : Int} {S T : Rc} : GoesTo N R l S → Go1 N (pickN x 8) S T → GoesTo N R (l ++ [x]) T

theorem Go1.unique {N : Net} {c : Nat} {R S T : Rc} (h : Go1 N c R S) (k : Go1 N c R T) : S = T := by
  rcases h with ⟨h0, a, b, o, h1, h2⟩ | ⟨h0, h1⟩ | ⟨h0, h1, h2⟩ | ⟨h0, h1, h2⟩
  · rcases k with ⟨k0, a', b', o', k1, k2⟩ | ⟨k0, k1⟩ | ⟨k0, k1, k2⟩ | ⟨k0, k1, k2⟩
    · obtain ⟨-, -, rfl⟩ := grows_one h1 k1
      rw [h2, k2]
    · omega
    · omega
    · omega
  · rcases k with ⟨k0, a', b', o', k1, k2⟩ | ⟨k0, k1⟩ | ⟨k0, k1, k2⟩ | ⟨k0, k1, k2⟩
    · omega
    · rw [h1, k1]
    · omega
    · omega
  · rcases k with ⟨k0, a', b', o', k1, k2⟩ | ⟨k0, k1⟩ | ⟨k0, k1, k2⟩ | ⟨k0, k1, k2⟩
    · omega
    · omega
    · rw [h2, k2]
    · omega
  · rcases k with ⟨k0, a', b', o', k1, k2⟩ | ⟨k0, k1⟩ | ⟨k0, k1, k2⟩ | ⟨k0, k1, k2⟩
    · omega
    · omega
    · omega
    · rw [h2, k2]

theorem GoesTo.unique {N : Net} {R S : Rc} {l : List Int} (h : GoesTo N R l S) : ∀ {l' : List Int} {T : Rc}, GoesTo N R l' T → l = l' → S = T := by
  induction h with
  | nil =>
    intro l' T k e
    cases k with
    | nil => rfl
    | snoc k1 k2 => simp at e
  | snoc h1 h2 ih =>
    intro l' T k e
    cases k with
    | nil => simp at e
    | snoc k1 k2 =>
      obtain ⟨e1, e2⟩ := List.append_inj' e rfl
      have := ih k1 e1
      subst this
      have e3 := (List.cons.inj e2).1
      subst e3
      exact h2.unique k2

theorem bytes_of_sv {B : Nat} {w : World} {v : Value} {s : List Int} (h : SvAt B w v s) (hs : s.length ≤ 140737488355328) : BytesAt w v s := by
  obtain ⟨h1, h2 | ⟨g, cap, cur, hv, hg, hh, hn, hm, hsz, ht⟩⟩ := h
  · exact ⟨none, 0, by rw [h2.1, h2.2], hs, by omega, Or.inl h2.2⟩
  · refine ⟨_, cap, hv, hs, hn, Or.inr ⟨g, 0, rfl, fun i hi j hj => ?_⟩⟩
    have hj0 : j = 0 := by omega
    subst hj0
    have e : (byteRow s)[i]? = some (.int .u8 (s.getD i 0)) := by simp [byteRow, List.getD, hi]
    rw [← ht] at e
    simp only [Nat.mul_one] at e
    rw [List.getElem?_take_of_lt hi] at e
    simp [World.cell?, hh]
    simpa using e

theorem saveNums_length {N : Net} {R : Rc} (hv : validB N = true) (hs : Saves N R) : (saveNums N R).length ≤ 3000000000 := by
  obtain ⟨-, h8, -, h6⟩ := valid_counts hv
  rw [saveNums, List.length_append, saveW_length]
  have h1 := saveS_length N R N.streams.length 268435456 hs.words
  have h2 : N.streams.length * (3 + 268435456) ≤ 8 * (3 + 268435456) := Nat.mul_le_mul_right _ (by omega)
  omega

theorem has_save {A : Nat → Prop} {p : Nat} {N : Net} {R : Rc} {w : World} (h : Has A p N R w) (hs : Saves N R) :
    Calls Tryd.prog 18 #[.pointer (some ⟨p, 0, none⟩)] w fun e w' => ∃ v', e = .returned v' ∧ SvAt w.heap.size w' v' (bytesOf (saveNums N R)) ∧ Below w.heap.size w w' := by
  obtain ⟨L, rfl, h2, h3⟩ := h.ex
  exact rsave_calls h2 hs

/-- Where a race is, that goes on by raw numbers. -/
structure Going (A : Nat → Prop) (w : World) (box : Obj) (N : Net) (R : Rc) (l : List Int) (c k : Nat) (p : Nat) (wr : World) : Prop where
  ex : ∃ S, Has (fun b => A b ∨ (w.heap.size ≤ b ∧ b < (w.alloc box).heap.size)) p N S wr ∧ Good N S (c + k) ∧ GoesTo N R (l.take k) S
  keeps : Keeps A w wr
  box' : wr.heap[w.heap.size]? = some box


theorem Going.below {A : Nat → Prop} {w : World} {box : Obj} {N : Net} {R : Rc} {l : List Int} {c k p : Nat} {wr w' : World} (h : Going A w box N R l c k p wr) (hb : Below wr.heap.size wr w') : Going A w box N R l c k p w' := by
  obtain ⟨S, h1, h2, h3⟩ := h.ex
  exact ⟨⟨S, h1.below hb, h2, h3⟩, h.keeps.trans (Keeps.of_below hb), (hb.block _ (lt_of_blk h.box')).trans h.box'⟩

theorem going_next {A : Nat → Prop} {w : World} {box : Obj} {N : Net} {R S T : Rc} {l : List Int} {c k p : Nat} {wr w' : World} (h : Going A w box N R l c k p wr) (hk : k < l.length) (h3 : GoesTo N R (l.take k) S)
    (hT : Has (fun b => A b ∨ (w.heap.size ≤ b ∧ b < (w.alloc box).heap.size)) p N T w') (hg : Good N T (c + k + 1)) (hkp : Keeps (fun b => A b ∨ (w.heap.size ≤ b ∧ b < (w.alloc box).heap.size)) wr w') (h1 : Go1 N (pickN l[k] 8) S T) : Going A w box N R l c (k + 1) p w' := by
  refine ⟨⟨T, hT, hg, ?_⟩, h.keeps.trans (Fr.mono hkp fun b _ hb hA => hb (Or.inl hA)), ?_⟩
  · rw [List.take_succ_eq_append_getElem hk]; exact GoesTo.snoc h3 h1
  · rw [hkp.block _ (lt_of_blk h.box') (fun e => e (Or.inr ⟨Nat.le_refl _, by simp⟩))]; exact h.box'

theorem going_grow {A : Nat → Prop} {w : World} {box : Obj} {N : Net} {R : Rc} {l : List Int} {c k p : Nat} {wr : World} (h : Going A w box N R l c k p wr) (hk : k < l.length) (h6 : pickN l[k] 8 = 6) :
    Calls Tryd.prog 20 #[.pointer (some ⟨p, 0, none⟩)] wr fun e w' => ∃ a b : Int, e = .returned (.tuple #[.int .i64 a, .int .i64 b]) ∧ Going A w box N R l c (k + 1) p w' := by
  obtain ⟨S, h1, h2, h3⟩ := h.ex
  have hv := (has_len h1).2.2
  refine (has_grow h1 h2.room).mono fun e w' ⟨a, b, o, q1, q2, q3, q4⟩ => ⟨a, b, q2, ?_⟩
  refine going_next h hk h3 q3 ?_ q4 (Or.inl ⟨h6, a, b, o, q1, rfl⟩)
  cases o with
  | none => exact h2.mono
  | some t => exact h2.grow hv q1

theorem going_step {A : Nat → Prop} {w : World} {box : Obj} {N : Net} {R : Rc} {l : List Int} {c k p : Nat} {wr : World} (h : Going A w box N R l c k p wr) (hf : NetFits N) (hk : k < l.length) (hck : c + k ≤ 200000000) (h6 : pickN l[k] 8 < 6) :
    Calls Tryd.prog 17 #[.pointer (some ⟨p, 0, none⟩), .int .i64 (pickN l[k] 8)] wr fun e w' => ∃ a b : Int, e = .returned (.tuple #[.int .i64 a, .int .i64 b]) ∧ Going A w box N R l c (k + 1) p w' := by
  obtain ⟨S, h1, h2, h3⟩ := h.ex
  have hv := (has_len h1).2.2
  by_cases hc : pickN l[k] 8 < N.workers.length
  · refine (has_step h1 _ hc fun s hs => by have := h2.words s hs; omega).mono fun e w' ⟨q1, q2, q3⟩ => ⟨_, _, q1, ?_⟩
    refine going_next h hk h3 q2 ?_ q3 (Or.inr (Or.inr (Or.inl ⟨h6, hc, rfl⟩)))
    unfold stepR
    split
    · rename_i hst; exact h2.step hv hf hc hst
    · exact h2.mono
  · refine (has_step_out h1 _ (by simp [inB]; omega)).mono fun e w' ⟨q1, q2⟩ => ⟨_, _, q1, ?_⟩
    subst q2
    exact going_next h hk h3 h1 h2.mono (Fr.refl _ _) (Or.inr (Or.inr (Or.inr ⟨h6, by omega, rfl⟩)))

theorem going_save {A : Nat → Prop} {w : World} {box : Obj} {N : Net} {R : Rc} {l : List Int} {c k p : Nat} {wr : World} {v : Value} (h : Going A w box N R l c k p wr) (hk : k < l.length) (hck : c + k ≤ 199999999) (h7 : pickN l[k] 8 = 7) (hn : ∀ wx, Keeps A w wx → NetAt wx v N) :
    Calls Tryd.prog 18 #[.pointer (some ⟨p, 0, none⟩)] wr fun e w1 => ∃ a n cap, e = .returned (.slice a n cap) ∧ w1.heap[w.heap.size]? = some box ∧
      ∀ wx, Below w1.heap.size w1 wx → Calls Tryd.prog 19 #[v, .slice a n cap] wx fun e w2 => ∃ p', e = .returned (.tuple #[.pointer (some ⟨p', 0, none⟩), .int .i64 0]) ∧ Going A w box N R l c (k + 1) p' w2 := by
  obtain ⟨S, h1, h2, h3⟩ := h.ex
  have hv := (has_len h1).2.2
  have hsv := h2.saves hv (by omega)
  refine (has_save h1 hsv).mono fun e w1 ⟨v1, q1, q2, q3⟩ => ?_
  obtain ⟨a, cap, rfl⟩ := own_slice q2
  have hg1 := h.below q3
  refine ⟨a, _, cap, q1, hg1.box', fun wx hx => ?_⟩
  have hgx := hg1.below hx
  have hlen := saveNums_length hv hsv
  have hby : BytesAt wx (.slice a (bytesOf (saveNums N S)).length cap) (bytesOf (saveNums N S)) := Sl.below (bytes_of_sv q2 (by rw [bytesOf_length]; omega)) hx
  refine (load_calls (hn wx hgx.keeps) hv hby (h2.loads h1 (by omega)) (by omega)).mono fun e w2 ⟨p', r1, r2, r3⟩ => ⟨p', r1, ?_⟩
  refine ⟨⟨S, r2.mono fun b hb => ?_, h2.mono, ?_⟩, hgx.keeps.trans (Keeps.of_below r3), (r3.block _ (lt_of_blk hgx.box')).trans hgx.box'⟩
  · have := (h1.below (q3)).lt b hb
    have := hx.size
    omega
  · rw [List.take_succ_eq_append_getElem hk]; exact GoesTo.snoc h3 (Or.inr (Or.inl ⟨h7, rfl⟩))

end Go.Proofs.YthfdgdfnflilfaaDoor
/- millracekeep: goes, the walk. -/
namespace Go.Proofs.YthfdgdfnflilfaaDoor
open Go.RowKit Go.Conc

set_option maxRecDepth 100000 in
set_option maxHeartbeats 4000000 in
theorem goes_calls {A : Nat → Prop} {p : Nat} {N : Net} {R : Rc} {c : Nat} {w : World} {v vl : Value} {l : List Int} (ha : Has A p N R w) (hg : Good N R c) (hf : NetFits N) (hn : ∀ wx, Keeps A w wx → NetAt wx v N) (hl : ∀ wx, Keeps A w wx → IntsAt wx vl l) (hr : ∀ x ∈ l, InR x) (hc : c + l.length ≤ 199999999) :
    Calls Tryd.prog 11 #[.pointer (some ⟨p, 0, none⟩), v, vl] w fun e w' => ∃ p' S, e = .returned (.pointer (some ⟨p', 0, none⟩)) ∧ Has A p' N S w' ∧ Good N S (c + l.length) ∧ GoesTo N R l S ∧ Keeps A w w' := by
  obtain ⟨vs, vr, vw, hv, h1, h2, h3⟩ := hn w (Fr.refl _ _)
  obtain ⟨sa, sc, rfl⟩ := h1.form
  obtain ⟨ar, cr, rfl⟩ := h2.form
  obtain ⟨aw, cw, rfl⟩ := h3.form
  obtain ⟨la, lc, hvl, hln, -, -⟩ := (hl w (Fr.refl _ _)).open
  subst hv hvl
  have HC : Hid (∀ wx, Keeps A w wx → ∀ k (hk : k < l.length), ∃ b off, la = some ⟨b, off, none⟩ ∧ wx.cell? ⟨b, off + k, none⟩ = some (.int .i64 l[k]) ∧ ∀ wy, Calls Tryd.prog 21 #[.int .i64 l[k], .int .i64 8] wy fun e w' => e = .returned (.int .i64 (pickN l[k] 8)) ∧ w' = wy) := fun wx hx k hk => by
    obtain ⟨a', c', e, -, -, hc'⟩ := (hl wx hx).open
    cases e
    obtain ⟨b, off, e1, e2⟩ := hc' wx (Below.refl _ _) k hk
    exact ⟨b, off, e1, e2, fun wy => pick_calls l[k] 8 wy (hr _ (List.getElem_mem hk)) (by decide) (by decide)⟩
  obtain ⟨box, hbox⟩ : ∃ box, box = Obj.cells #[.slice sa N.streams.length sc, .slice ar N.sources.length cr, .slice aw N.workers.length cw] 29 (0, 0) := ⟨_, rfl⟩
  have H0 : Hid (Going A w box N R l c 0 p (w.alloc box)) := by
    have hb : Below w.heap.size w (w.alloc box) := (Below.refl _ _).alloc (Nat.le_refl _) _
    exact ⟨⟨R, ha.add hb, hg, GoesTo.nil⟩, Keeps.of_below hb, heap_alloc_new _ _⟩
  have HG : Hid (∀ k (hk : k < l.length) p wr, Going A w box N R l c k p wr → pickN l[k] 8 = 6 → Calls Tryd.prog 20 #[.pointer (some ⟨p, 0, none⟩)] wr fun e w' => ∃ a b : Int, e = .returned (.tuple #[.int .i64 a, .int .i64 b]) ∧ Going A w box N R l c (k + 1) p w') := fun k hk p wr h h6 => going_grow h hk h6
  have HT : Hid (∀ k (hk : k < l.length) p wr, Going A w box N R l c k p wr → pickN l[k] 8 < 6 → Calls Tryd.prog 17 #[.pointer (some ⟨p, 0, none⟩), .int .i64 (pickN l[k] 8)] wr fun e w' => ∃ a b : Int, e = .returned (.tuple #[.int .i64 a, .int .i64 b]) ∧ Going A w box N R l c (k + 1) p w') := fun k hk p wr h h6 => going_step h hf hk (by omega) h6
  have HB : Hid (∀ k p wr, Going A w box N R l c k p wr → wr.cell? ⟨w.heap.size, 0, none⟩ = some (.slice sa N.streams.length sc) ∧ wr.cell? ⟨w.heap.size, 1, none⟩ = some (.slice ar N.sources.length cr) ∧ wr.cell? ⟨w.heap.size, 2, none⟩ = some (.slice aw N.workers.length cw)) := fun k p wr h => by
    have := h.box'
    rw [hbox] at this
    exact ⟨row_cell this rfl, row_cell this rfl, row_cell this rfl⟩
  have HSv : Hid (∀ k (hk : k < l.length) p wr, Going A w box N R l c k p wr → pickN l[k] 8 = 7 → Calls Tryd.prog 18 #[.pointer (some ⟨p, 0, none⟩)] wr fun e w1 => ∃ a n cap, e = .returned (.slice a n cap) ∧ (w1.cell? ⟨w.heap.size, 0, none⟩ = some (.slice sa N.streams.length sc) ∧ w1.cell? ⟨w.heap.size, 1, none⟩ = some (.slice ar N.sources.length cr) ∧ w1.cell? ⟨w.heap.size, 2, none⟩ = some (.slice aw N.workers.length cw)) ∧
      ∀ wx, Below w1.heap.size w1 wx → Calls Tryd.prog 19 #[.agg #[.slice sa N.streams.length sc, .slice ar N.sources.length cr, .slice aw N.workers.length cw], .slice a n cap] wx fun e w2 => ∃ p', e = .returned (.tuple #[.pointer (some ⟨p', 0, none⟩), .int .i64 0]) ∧ (w2.cell? ⟨w.heap.size, 0, none⟩ = some (.slice sa N.streams.length sc) ∧ w2.cell? ⟨w.heap.size, 1, none⟩ = some (.slice ar N.sources.length cr) ∧ w2.cell? ⟨w.heap.size, 2, none⟩ = some (.slice aw N.workers.length cw)) ∧ Going A w box N R l c (k + 1) p' w2) := fun k hk p wr h h7 => by
    refine (going_save h hk (by omega) h7 hn).mono fun e w1 ⟨a, n, cap, q1, q2, q3⟩ => ⟨a, n, cap, q1, ?_, fun wx hx => (q3 wx hx).mono fun e w2 ⟨p', r1, r2⟩ => ⟨p', r1, HB.out _ _ _ r2, r2⟩⟩
    rw [hbox] at q2
    exact ⟨row_cell q2 rfl, row_cell q2 rfl, row_cell q2 rfl⟩
  have HK : Hid (∀ k p wr, Going A w box N R l c k p wr → Keeps A w wr) := fun k p wr h => h.keeps
  have HR : Hid (∀ p wr, Going A w box N R l c l.length p wr → ∃ S, Has A p N S wr ∧ Good N S (c + l.length) ∧ GoesTo N R l S ∧ Keeps A w wr) := fun p wr h => by
    obtain ⟨S, h1, h2, h3⟩ := h.ex
    rw [List.take_length] at h3
    exact ⟨S, h1.mono fun b hb => Or.inl hb, h2, h3, h.keeps⟩
  clear h1 h2 h3 ha hg hn hl hr
  generalize N.streams.length = sl at *
  generalize N.sources.length = rl at *
  generalize N.workers.length = wl at *
  rw [hbox] at H0
  go_enter Tryd.func11, Tryd.ntmps11
  go_wp2
  go_loopw [0, 7] (fun x i wr => ∃ (k p : Nat), k ≤ l.length ∧ i = .int .i64 k ∧ x = .pointer (some ⟨p, 0, none⟩) ∧ Going A w box N R l c k p wr) (fun _ i _ => l.length - (intOf i).toNat)
  case atStart => exact ⟨0, p, Nat.zero_le _, rfl, rfl, by rw [hbox]; exact H0.out⟩
  case round =>
    clear H0 hbox
    obtain ⟨k, p1, hk, rfl, rfl, hgo⟩ := hrel
    have HGo := hide hgo
    by_cases hlt : k < l.length
    · obtain ⟨b, off, rfl, d0, hpk⟩ := HC.out wr (HK.out _ _ _ hgo) k hlt
      have HPk := hide hpk
      have hk0 : (0 : Int) ≤ (k : Int) := by omega
      have hk1 : (k : Int) < (l.length : Int) := by omega
      have hp8 := pickN_lt l[k] 8 (by decide)
      clear hpk HC HK HR
      go_wp2_with fail
      refine (unhide HPk _).mono ?_
      rintro e w1 ⟨rfl, rfl⟩
      clear HPk d0
      by_cases h6 : pickN l[k] 8 = 6
      · have HG1 := hide (HG.out k hlt p1 _ HGo.out h6)
        have e6 : (((pickN l[k] 8 : Nat) : Int) == 6) = true := by simp [h6]
        clear HG HT HSv hgo HGo HB
        generalize ((pickN l[k] 8 : Nat) : Int) = pk at *
        go_wp2_with fail
        refine (unhide HG1).mono ?_
        rintro e w2 ⟨a, b', rfl, h1⟩
        have H1 := hide h1
        clear h1 HG1
        go_wp2
        go_roundw
        case rel => exact ⟨k + 1, p1, by omega, by go_num, rfl, H1.out⟩
        case measure => simp [intOf]; omega
      · have e6 : (((pickN l[k] 8 : Nat) : Int) == 6) = false := by simp; omega
        by_cases h7 : pickN l[k] 8 = 7
        · have HS1 : Hid (∀ q, Calls Tryd.prog 18 #[.pointer (some ⟨p1, 0, none⟩)] (w1.drewN q) fun e w1 => ∃ a n cap, e = .returned (.slice a n cap) ∧ (w1.cell? ⟨w.heap.size, 0, none⟩ = some (.slice sa sl sc) ∧ w1.cell? ⟨w.heap.size, 1, none⟩ = some (.slice ar rl cr) ∧ w1.cell? ⟨w.heap.size, 2, none⟩ = some (.slice aw wl cw)) ∧
              ∀ wx, Below w1.heap.size w1 wx → Calls Tryd.prog 19 #[.agg #[.slice sa sl sc, .slice ar rl cr, .slice aw wl cw], .slice a n cap] wx fun e w2 => ∃ p', e = .returned (.tuple #[.pointer (some ⟨p', 0, none⟩), .int .i64 0]) ∧ (w2.cell? ⟨w.heap.size, 0, none⟩ = some (.slice sa sl sc) ∧ w2.cell? ⟨w.heap.size, 1, none⟩ = some (.slice ar rl cr) ∧ w2.cell? ⟨w.heap.size, 2, none⟩ = some (.slice aw wl cw)) ∧ Going A w box N R l c (k + 1) p' w2) := fun q => HSv.out k hlt p1 _ (HGo.out.below (below_drewN (Below.refl _ _) q)) h7
          obtain ⟨z0, z1, z2⟩ := HB.out _ _ _ hgo
          have e7 : (((pickN l[k] 8 : Nat) : Int) == 7) = true := by simp [h7]
          clear HG HT HSv hgo HGo HB
          generalize ((pickN l[k] 8 : Nat) : Int) = pk at *
          go_wp2
          go_region_held3 (fun w' => w'.cell? ⟨w.heap.size, 0, none⟩ = some (.slice sa sl sc) ∧ w'.cell? ⟨w.heap.size, 1, none⟩ = some (.slice ar rl cr) ∧ w'.cell? ⟨w.heap.size, 2, none⟩ = some (.slice aw wl cw)) (go_keep)
            (first
              | (go_at_call 18; refine (unhide HS1 _).mono ?_; rintro e w2 ⟨av, nv, cv, rfl, ⟨s0, s1, s2⟩, hld⟩; have HLd := hide hld; clear hld)
              | (go_at_call 19; refine (unhide HLd _ ?_).mono ?_; (repeat (first | exact Below.refl _ _ | apply Below.drew | apply below_drewN)); rintro e w3 ⟨p', rfl, ⟨t0, t1, t2⟩, h1⟩; have H1 := hide h1; clear h1))
          go_wp2
          go_roundw
          case rel => exact ⟨k + 1, p', by omega, by go_num, rfl, H1.out⟩
          case measure => simp [intOf]; omega
        · have e7 : (((pickN l[k] 8 : Nat) : Int) == 7) = false := by simp; omega
          have HT1 := hide (HT.out k hlt p1 _ HGo.out (by omega))
          clear HG HT HSv hgo HGo HB
          generalize ((pickN l[k] 8 : Nat) : Int) = pk at *
          go_wp2_with fail
          refine (unhide HT1).mono ?_
          rintro e w2 ⟨a, b', rfl, h1⟩
          have H1 := hide h1
          clear h1 HT1
          go_wp2
          go_roundw
          case rel => exact ⟨k + 1, p1, by omega, by go_num, rfl, H1.out⟩
          case measure => simp [intOf]; omega
    · have hkl : k = l.length := by omega
      subst hkl
      obtain ⟨S, q1, q2, q3, q4⟩ := HR.out p1 wr hgo
      have Q1 := hide q1
      have Q2 := hide q2
      have Q3 := hide q3
      have Q4 := hide q4
      clear hgo HGo HC HK HR HG HT HSv HB q1 q2 q3 q4
      go_wp2
      go_ret
      exact ⟨p1, S, rfl, Q1.out, Q2.out, Q3.out, Q4.out⟩

end Go.Proofs.YthfdgdfnflilfaaDoor
/- millracekeep: roomy. -/
namespace Go.Proofs.YthfdgdfnflilfaaDoor
open Go.RowKit Go.Conc

def roomAt (st rooms : List Int) (i : Nat) : Int := if i < rooms.length then 1 + (pickN (rooms.getD i 0) 6 : Int) else st.getD i 0
def roomsOf (st rooms : List Int) : List Int := (List.range st.length).map (roomAt st rooms)
def roomyN (N : Net) (rooms : List Int) : Net := ⟨roomsOf N.streams rooms, N.sources, N.workers⟩

theorem roomsOf_length (st rooms : List Int) : (roomsOf st rooms).length = st.length := by simp [roomsOf]
theorem roomsOf_getD (st rooms : List Int) (i : Nat) (h : i < st.length) : (roomsOf st rooms).getD i 0 = roomAt st rooms i := by simp [roomsOf, List.getD, h]

theorem roomy_valid {N : Net} (h : validB N = true) (rooms : List Int) : validB (roomyN N rooms) = true := by
  have hl := roomsOf_length N.streams rooms
  have hr : ∀ s (hs : s < N.streams.length), 1 ≤ N.streams[s] ∧ N.streams[s] ≤ 6 := fun s hs => valid_room h s hs
  have h0 := h
  simp only [validB, validStreamsB, Bool.and_eq_true, decide_eq_true_eq] at h0
  obtain ⟨⟨⟨⟨⟨h1, h2⟩, h3⟩, h4⟩, h5⟩, h6⟩ := h0
  simp only [validB, validStreamsB, Bool.and_eq_true, decide_eq_true_eq, roomyN, hl]
  refine ⟨⟨⟨⟨⟨h1, h2⟩, ?_⟩, h4⟩, h5⟩, ?_⟩
  · refine List.all_eq_true.2 fun x hx => ?_
    obtain ⟨i, hi, rfl⟩ := List.mem_map.1 hx
    have hi' := List.mem_range.1 hi
    unfold roomAt
    split
    · have := pickN_lt (rooms.getD i 0) 6 (by decide)
      rw [Bool.and_eq_true, decide_eq_true_eq, decide_eq_true_eq]; omega
    · have := hr i hi'
      rw [getD_eq _ _ _ hi']
      simpa using this
  · simpa [validEndsB, hl] using h6

theorem ints_own {B : Nat} {w : World} {v : Value} {l : List Int} (h : w.ownsRow B 3 1 v l.length (intRow l)) (hl : l.length ≤ 140737488355328) : IntsAt w v l := by
  obtain ⟨a, cap, rfl⟩ := own_slice h
  rcases Nat.eq_zero_or_pos l.length with h0 | h0
  · exact ⟨a, cap, rfl, hl, by
      rcases h with ⟨-, e | ⟨g, c, cur, e, -, -, hn, -⟩⟩
      · omega
      · cases e; exact hn, Or.inl h0⟩
  · obtain ⟨g, rfl, -, -⟩ := own_get h 0 h0
    refine ⟨_, cap, rfl, hl, by
      rcases h with ⟨-, e | ⟨g', c, cur, e, -, -, hn, -⟩⟩
      · cases e.1
      · cases e; exact hn, Or.inr ⟨g, 0, rfl, fun i hi j hj => ?_⟩⟩
    have hj0 : j = 0 := by omega
    subst hj0
    obtain ⟨g', e, -, d⟩ := own_get h i hi
    cases e
    simpa using d

theorem net_roomy {B : Nat} {wx : World} {vs vr vw : Value} {a : Option Addr} {cap : Nat} {N : Net} {rooms : List Int} (h : NetAt wx (.agg #[vs, vr, vw]) N) (hl : N.streams.length ≤ 8) (ho : wx.ownsRow B 3 1 (.slice a N.streams.length cap) N.streams.length (intRow (roomsOf N.streams rooms))) : NetAt wx (.agg #[.slice a N.streams.length cap, vr, vw]) (roomyN N rooms) := by
  obtain ⟨vs', vr', vw', e, h1, h2, h3⟩ := h
  cases e
  have hlr := roomsOf_length N.streams rooms
  refine ⟨_, _, _, rfl, ?_, h2, h3⟩
  rw [← hlr] at ho
  have := ints_own ho (by rw [hlr]; omega)
  rw [hlr] at this
  exact this

set_option maxRecDepth 100000 in
set_option maxHeartbeats 4000000 in
theorem roomy_calls {N : Net} {v v0 v1 vr' : Value} {rooms : List Int} {w : World} (hn : NetAt w (.agg #[v, v0, v1]) N) (hr : IntsAt w vr' rooms) (hrr : ∀ x ∈ rooms, InR x) (hl8 : N.streams.length ≤ 8) :
    Calls Tryd.prog 9 #[.agg #[v, v0, v1], vr'] w fun e w' => ∃ a cap, e = .returned (.agg #[.slice a N.streams.length cap, v0, v1]) ∧ w'.ownsRow w.heap.size 3 1 (.slice a N.streams.length cap) N.streams.length (intRow (roomsOf N.streams rooms)) ∧ Below w.heap.size w w' := by
  obtain ⟨i0, hi, hz0, hz1, hz2⟩ := info_parts Tryd.info3
  obtain ⟨vs, vr, vw, e0, h1, h2, h3⟩ := hn
  cases e0
  obtain ⟨sa, sc, rfl, hsn, -, hcs⟩ := h1.open
  obtain ⟨ar, cr, rfl⟩ := h2.form
  obtain ⟨aw, cw, rfl⟩ := h3.form
  obtain ⟨ra, rc, rfl, hrn, -, hcr⟩ := hr.open
  have HS : Hid (∀ wx, Below w.heap.size w wx → ∀ k, k < N.streams.length → ∃ b off, sa = some ⟨b, off, none⟩ ∧ wx.cell? ⟨b, off + k, none⟩ = some (.int .i64 (N.streams.getD k 0))) := fun wx hx k hk => by
    obtain ⟨b, off, e1, e2⟩ := hcs wx hx k hk
    exact ⟨b, off, e1, by rw [getD_eq _ _ _ hk]; exact e2⟩
  have HRm : Hid (∀ wx, Below w.heap.size w wx → ∀ k, k < rooms.length → ∃ b off, ra = some ⟨b, off, none⟩ ∧ wx.cell? ⟨b, off + k, none⟩ = some (.int .i64 (rooms.getD k 0)) ∧ ∀ wy, Calls Tryd.prog 21 #[.int .i64 (rooms.getD k 0), .int .i64 6] wy fun e w' => e = .returned (.int .i64 (pickN (rooms.getD k 0) 6)) ∧ w' = wy) := fun wx hx k hk => by
    obtain ⟨b, off, e1, e2⟩ := hcr wx hx k hk
    exact ⟨b, off, e1, by rw [getD_eq _ _ _ hk]; exact e2, fun wy => pick_calls _ 6 wy (by rw [getD_eq _ _ _ hk]; exact hrr _ (List.getElem_mem hk)) (by decide) (by decide)⟩
  have HT : Hid (∀ k, k < N.streams.length → intRow ((roomsOf N.streams rooms).take (k + 1)) = intRow ((roomsOf N.streams rooms).take k) ++ [.int .i64 (roomAt N.streams rooms k)]) := fun k hk => by
    have hk' : k < (roomsOf N.streams rooms).length := by rw [roomsOf_length]; exact hk
    rw [List.take_succ_eq_append_getElem hk', intRow_snoc, ← getD_eq _ _ 0 hk', roomsOf_getD _ _ _ hk]
  have HE : Hid ((roomsOf N.streams rooms).take N.streams.length = roomsOf N.streams rooms) := List.take_of_length_le (by rw [roomsOf_length]; exact Nat.le_refl _)
  have HA : Hid (∀ k, roomAt N.streams rooms k = if k < rooms.length then 1 + (pickN (rooms.getD k 0) 6 : Int) else N.streams.getD k 0) := fun _ => rfl
  clear h1 h2 h3 hcs hcr hr hrr
  generalize roomAt N.streams rooms = rmAt at *
  generalize roomsOf N.streams rooms = rms at *
  generalize hsl : N.streams.length = sl at *
  generalize N.sources.length = rl at *
  generalize N.workers.length = wl at *
  clear hsl
  go_enter Tryd.func9, Tryd.ntmps9
  go_wp2
  have hb0 : Below (w.heap.size + 2) ((w.alloc (.cells #[.slice sa sl sc, .slice ar rl cr, .slice aw wl cw] 29)).alloc (.cells #[.slice none 0 0, .slice none 0 0, .slice none 0 0] 29)) ((w.alloc (.cells #[.slice sa sl sc, .slice ar rl cr, .slice aw wl cw] 29)).alloc (.cells #[.slice none 0 0, .slice none 0 0, .slice none 0 0] 29)) := Below.refl _ _
  go_loopw [5, 6] (fun st i wr => ∃ (k : Nat) (v' : Value), k ≤ sl ∧ i = .int .i64 k ∧ v' = st ∧ wr.ownsRow (w.heap.size + 2) 3 1 v' k (intRow (rms.take k)) ∧ Below (w.heap.size + 2) ((w.alloc (.cells #[.slice sa sl sc, .slice ar rl cr, .slice aw wl cw] 29)).alloc (.cells #[.slice none 0 0, .slice none 0 0, .slice none 0 0] 29)) wr) (fun _ i _ => sl - (intOf i).toNat)
  case atStart => exact ⟨0, _, Nat.zero_le _, rfl, rfl, ⟨rfl, Or.inl ⟨rfl, rfl⟩⟩, hb0⟩
  case round =>
    clear hb0
    obtain ⟨k, v1, hk, rfl, rfl, hown, hbl⟩ := hrel
    have hsz : w.heap.size + 2 ≤ wr.heap.size := by have := hbl.size; simpa using this
    have hbw : Below w.heap.size w wr := (((Below.refl _ _).alloc (Nat.le_refl _) _).alloc (by simp) _).trans (hbl.mono (by omega))
    have t0 : wr.heap[w.heap.size]? = some (.cells #[.slice sa sl sc, .slice ar rl cr, .slice aw wl cw] 29 (0, 0)) := by
      rw [hbl.block _ (by omega)]; exact heap_old' (by simp) (heap_alloc_new _ _)
    have t1 : wr.heap[w.heap.size + 1]? = some (.cells #[.slice none 0 0, .slice none 0 0, .slice none 0 0] 29 (0, 0)) := by
      rw [hbl.block _ (by omega)]; exact heap_new' (by simp)
    have z0 := (blk_cell t0 0 _ rfl).1
    have z1 := (blk_cell t0 1 _ rfl).1
    have z2 := (blk_cell t0 2 _ rfl).1
    have HO := hide hown
    have HB := hide hbl
    have HT1 := hide t1
    by_cases hlt : k < sl
    · obtain ⟨b, off, rfl, d0⟩ := HS.out wr hbw k hlt
      have hk0 : (0 : Int) ≤ (k : Int) := by omega
      have hk1 : (k : Int) < (sl : Int) := by omega
      obtain ⟨a2, cap2, rfl⟩ := own_slice hown
      have HT2 := hide (HT.out k hlt)
      have hak := HA.out k
      have h63 : k + 1 ≤ maxLen := by unfold maxLen; omega
      have hbytes : (k + 1) * 8 ≤ 140737488355328 := by omega
      have HNx : Hid (∀ g gcap w1, w1.ownsRow (w.heap.size + 2) 3 1 (.slice (some ⟨g, 0, none⟩) (k + 1) gcap) (k + 1) (intRow (rms.take k) ++ [.int .i64 (rmAt k)]) → ∀ o, (wr.alloc o).grownBy w1 (Value.slice a2 k cap2).ownBlock → w1.ownsRow (w.heap.size + 2) 3 1 (.slice (some ⟨g, 0, none⟩) (k + 1) gcap) (k + 1) (intRow (rms.take (k + 1))) ∧ Below (w.heap.size + 2) ((w.alloc (.cells #[.slice (some ⟨b, off, none⟩) sl sc, .slice ar rl cr, .slice aw wl cw] 29)).alloc (.cells #[.slice none 0 0, .slice none 0 0, .slice none 0 0] 29)) w1) := fun g gcap w1 ho o hgr => by
        refine ⟨by rw [HT2.out]; exact ho, ?_⟩
        exact (HB.out.alloc hsz o).grown hgr (by simp; omega) fun y hy => own_baseB HO.out hy
      clear hown hbl HT hbw t0 t1
      by_cases hr : k < rooms.length
      · obtain ⟨rb, ro, rfl, d1, hpk⟩ := HRm.out wr (by exact (((Below.refl _ _).alloc (Nat.le_refl _) _).alloc (by simp) _).trans (HB.out.mono (by omega))) k hr
        rw [if_pos hr] at hak
        have hk2 : (k : Int) < (rooms.length : Int) := by omega
        have HPk := hide hpk
        have hp6 := pickN_lt (rooms.getD k 0) 6 (by decide)
        have HAK := hide hak
        clear hpk HRm HS HA hak
        generalize N.streams.getD k 0 = sk at *
        generalize rooms.getD k 0 = rk at *
        generalize pickN rk 6 = pk at *
        go_wp2_with fail
        refine (unhide HPk _).mono ?_
        rintro e w1 ⟨rfl, rfl⟩
        have hak := HAK.out
        clear HPk d1 d0
        rw [hak] at HNx
        clear hak HAK
        go_wp2_with (at_builtin; refine wpList_append_lies _ rfl (.tmp 30) (.tmp 32) 22 rfl (w.heap.size + 2) 3 i0 (.int .i64 0) 1 8 Tryd.underlying22 hi hz0 hz1 hz2 rfl (by decide) (.slice a2 k cap2) k (intRow (rms.take k)) rfl (HO.out.alloc _) ⟨w1.heap.size, 0, none⟩ 1 1 [.int .i64 (1 + (pk : Int))] rfl rfl ?c1 ?c2 (by decide) h63 hbytes (by simp; omega) (w1.heap.size + 1) (by simp) ?_)
        case c1 => exact cell_one_new _ _ _
        case c2 => intro u hu; simp at hu; subst hu; rfl
        intro g gcap w2 ho2 hgr hor hglt
        obtain ⟨q1, q2⟩ := HNx.out g gcap w2 ho2 _ hgr
        have Q1 := hide q1
        have Q2 := hide q2
        clear q1 q2 ho2 hgr hor HNx HO HB z0 z1 z2
        go_wp2
        go_roundw
        case rel => exact ⟨k + 1, _, by omega, by go_num, rfl, Q1.out, Q2.out⟩
        case measure => simp [intOf]; omega
      · rw [if_neg hr] at hak
        have hk2 : decide ((k : Int) < (rooms.length : Int)) = false := by simp; omega
        clear HRm HS HA
        rw [hak] at HNx
        clear hak
        generalize N.streams.getD k 0 = sk at *
        go_wp2_with (at_builtin; refine wpList_append_lies _ rfl (.tmp 30) (.tmp 32) 22 rfl (w.heap.size + 2) 3 i0 (.int .i64 0) 1 8 Tryd.underlying22 hi hz0 hz1 hz2 rfl (by decide) (.slice a2 k cap2) k (intRow (rms.take k)) rfl (HO.out.alloc _) ⟨wr.heap.size, 0, none⟩ 1 1 [.int .i64 sk] rfl rfl ?c1 ?c2 (by decide) h63 hbytes (by simp; omega) (wr.heap.size + 1) (by simp) ?_)
        case c1 => exact cell_one_new _ _ _
        case c2 => intro u hu; simp at hu; subst hu; rfl
        intro g gcap w2 ho2 hgr hor hglt
        obtain ⟨q1, q2⟩ := HNx.out g gcap w2 ho2 _ hgr
        have Q1 := hide q1
        have Q2 := hide q2
        clear q1 q2 ho2 hgr hor HNx HO HB z0 z1 z2 d0
        go_wp2
        go_roundw
        case rel => exact ⟨k + 1, _, by omega, by go_num, rfl, Q1.out, Q2.out⟩
        case measure => simp [intOf]; omega
    · have hkl : k = sl := by omega
      subst hkl
      obtain ⟨a2, cap2, rfl⟩ := own_slice hown
      obtain ⟨y0, yf0⟩ := blk_cell t1 0 _ rfl
      obtain ⟨y1, yf1⟩ := blk_cell t1 1 _ rfl
      obtain ⟨y2, yf2⟩ := blk_cell t1 2 _ rfl
      rw [HE.out] at HO
      have HW := hide hbw
      clear hown hbl HT t0 t1 HS HRm hbw HA
      go_wp2
      have hbW : Below w.heap.size w (((wr.setCell ⟨w.heap.size + 1, 0, none⟩ (.slice a2 k cap2)).setCell ⟨w.heap.size + 1, 1, none⟩ (.slice ar rl cr)).setCell ⟨w.heap.size + 1, 2, none⟩ (.slice aw wl cw)) :=
        ((HW.out.setCell (p := ⟨w.heap.size + 1, 0, none⟩) (by dsimp only; omega) _).setCell (p := ⟨w.heap.size + 1, 1, none⟩) (by dsimp only; omega) _).setCell (p := ⟨w.heap.size + 1, 2, none⟩) (by dsimp only; omega) _
      have hoW : (((wr.setCell ⟨w.heap.size + 1, 0, none⟩ (.slice a2 k cap2)).setCell ⟨w.heap.size + 1, 1, none⟩ (.slice ar rl cr)).setCell ⟨w.heap.size + 1, 2, none⟩ (.slice aw wl cw)).ownsRow w.heap.size 3 1 (.slice a2 k cap2) k (intRow rms) := by
        have h0 : wr.ownsRow w.heap.size 3 1 (.slice a2 k cap2) k (intRow rms) := by
          rcases HO.out with ⟨e1, e2 | ⟨g, cap, cur, e2, e3, e4⟩⟩
          · exact ⟨e1, Or.inl e2⟩
          · exact ⟨e1, Or.inr ⟨g, cap, cur, e2, by omega, e4⟩⟩
        refine own_of_blockB h0 fun g hg => ?_
        have := own_baseB HO.out hg
        rw [Below.heap_setCell _ _ _ _ (by dsimp only; omega), Below.heap_setCell _ _ _ _ (by dsimp only; omega), Below.heap_setCell _ _ _ _ (by dsimp only; omega)]
      refine bodyPost_ret (v := .agg #[.slice a2 k cap2, .slice ar rl cr, .slice aw wl cw]) ?_ rfl ⟨a2, cap2, rfl, hoW, hbW⟩
      simp [results, Tryd.results9, go_sem, y0, y1, y2]

end Go.Proofs.YthfdgdfnflilfaaDoor
/- millracekeep: Bounded, the walk. -/
namespace Go.Proofs.YthfdgdfnflilfaaDoor
open Go.RowKit Go.Conc

theorem below_box2 {w wr w' : World} {o : Obj} (h : Below (w.heap.size + 1) (w.alloc o) wr) (hb : Below wr.heap.size wr w') : Below (w.heap.size + 1) (w.alloc o) w' :=
  h.trans (hb.mono (by have := h.size; simp at this; omega))

theorem eqRegs (k : Nat) (a b c d a' b' c' d' : Int) (w : World) : (Op.equalIn (k + 2) 48 (.agg #[.int .i64 a, .int .i64 b, .int .i64 c, .int .i64 d]) (.agg #[.int .i64 a', .int .i64 b', .int .i64 c', .int .i64 d'])).run Tryd.prog w = .ok (a == a' && (b == b' && (c == c' && d == d'))) w := by
  have u3 := Tryd.underlying3
  have a3 := Tryd.isAgg3
  have z3 := Tryd.sizeOf3
  rw [Op.equalIn]
  simp only [Sem.run_bind, run_underlying Tryd.underlying48, Result.andThen_ok]
  simp only [Std.Legacy.Range.forIn_eq_forIn_range', Std.Legacy.Range.size, Nat.sub_zero, Nat.add_sub_cancel, Nat.div_one, List.range'_succ, List.range'_zero, List.forIn_cons, List.forIn_nil]
  go_simp
  by_cases h1 : a = a' <;> by_cases h2 : b = b' <;> by_cases h3 : c = c' <;> by_cases h4 : d = d' <;> simp [h1, h2, h3, h4]
theorem eqLook (a0 a1 a2 a3 a4 a5 a6 b0 b1 b2 b3 b4 b5 b6 : Int) (w : World) : (Op.equalIn 10000 50 (.agg #[.int .i64 a0, .int .i64 a1, .int .i64 a2, .int .i64 a3, .int .i64 a4, .int .i64 a5, .int .i64 a6]) (.agg #[.int .i64 b0, .int .i64 b1, .int .i64 b2, .int .i64 b3, .int .i64 b4, .int .i64 b5, .int .i64 b6])).run Tryd.prog w = .ok (a0 == b0 && ((a1 == b1 && (a2 == b2 && (a3 == b3 && a4 == b4))) && (a5 == b5 && a6 == b6))) w := by
  have u3 := Tryd.underlying3
  have i3 := Tryd.isAgg3
  have z3 := Tryd.sizeOf3
  have i42 := Tryd.isAgg48
  have z42 := Tryd.sizeOf48
  have hS : Tryd.prog.underlying 50 = some (.struct (Tryd.prog.fieldsOf 50)) := by kernel_rfl
  have hp : Tryd.prog.stoodInHeld 50 = false := Tryd.stoodInHeld50
  rw [show (10000 : Nat) = 9999 + 1 from rfl, run_equalIn_agg w 9999 50 _ _ hS hp]
  simp only [Program.fieldsOf, Tryd.underlying50]
  have er := fun (wx : World) => eqRegs 9997 a1 a2 a3 a4 b1 b2 b3 b4 wx
  go_simp
  by_cases h1 : a0 = b0 <;> by_cases h2 : a1 = b1 <;> by_cases h3 : a2 = b2 <;> by_cases h4 : a3 = b3 <;> by_cases h5 : a4 = b4 <;> by_cases h6 : a5 = b5 <;> by_cases h7 : a6 = b6 <;> simp [h1, h2, h3, h4, h5, h6, h7]
/-- A step, and what was there just ahead of it. -/
theorem bat_step {w : World} {box : Obj} {p g : Nat} {n : Net} {R : Rc} {M : List Int} {k : Nat} {wr wx : World} (h : BAt w box p g n R M k wr) (hx : Below wr.heap.size wr wx) (c : Nat) (hc : c < n.workers.length) (hk : k ≤ 1048576) :
    Calls Tryd.prog 17 #[.pointer (some ⟨p, 0, none⟩), .int .i64 c] wx fun e w' => e = .returned (.tuple #[.int .i64 (stateOf n R c), .int .i64 0]) ∧ BAt w box p g n (stepR n R c) M (k + 1) w' ∧ wx.heap.size ≤ w'.heap.size ∧ ∀ b, wr.heap.size ≤ b → b < wx.heap.size → w'.heap[b]? = wx.heap[b]? := by
  have hsm : SmallR n R := fun s hs => by have := h.inv.words s hs; omega
  refine (has_step (h.has.add hx) c hc hsm).mono fun e w' ⟨h1, h2, h3⟩ => ⟨h1, ?_, h3.size, fun b hb hb' => h3.block b hb' (fun e => e (Or.inr ⟨hb, hb'⟩))⟩
  refine (h.below hx).keeps (h2.mono fun b hb => Or.inl hb) (Fr.mono h3 fun b _ hb hA => hb (Or.inl hA)) ?_
  unfold stepR
  split
  · exact h.inv.step (has_len h.has).2.1 c
  · exact h.inv.mono

theorem bat_grow {w : World} {box : Obj} {p g : Nat} {n : Net} {R : Rc} {M : List Int} {k : Nat} {wr : World} (h : BAt w box p g n R M k wr) :
    Calls Tryd.prog 20 #[.pointer (some ⟨p, 0, none⟩)] wr fun e w' =>
      (∃ b : Int, (b = 3 ∨ b = 4) ∧ e = .returned (.tuple #[.int .i64 0, .int .i64 b]) ∧ BAt w box p g n R M (k + 1) w') ∨
      (∃ t : Nat, t < n.streams.length ∧ goesB n R n.workers.length = false ∧ e = .returned (.tuple #[.int .i64 (t : Nat), .int .i64 0]) ∧ 0 ≤ M.getD t 0 ∧ M.getD t 0 < 40 ∧ w'.cell? ⟨g, t, none⟩ = some (.int .i64 (M.getD t 0)) ∧ w'.frozen? ⟨g, t, none⟩ = false ∧ BAt w box p g n (growS R t) (M.set t (M.getD t 0 + 1)) (k + 1) (w'.setCell ⟨g, t, none⟩ (.int .i64 (M.getD t 0 + 1)))) := by
  refine (has_grow h.has h.inv.room).mono fun e w' ⟨a, b, o, h1, h2, h3, h4⟩ => ?_
  have hlen := has_len h.has
  cases o with
  | none =>
    have hb := grows_err h1
    have ha : a = 0 := by cases h1 <;> rfl
    subst ha
    exact Or.inl ⟨b, hb, h2, h.keeps h3 h4 h.inv.mono⟩
  | some t =>
    obtain ⟨rfl, rfl, ht, hr⟩ := grows_ok h1
    have hgo : goesB n R n.workers.length = false := by cases h1; assumption
    have hi := h.inv.grow hlen.2.1 hlen.2.2 h1
    have hh : heldB n t = true := by
      cases h1 with
      | grows h1 h2 h3 => obtain ⟨-, q1, q2⟩ := needs_stream hlen.2.2 h2.2.1; simp [heldB, q1, q2]
    have hq := h.inv.grew.2 t ht
    rw [if_pos hh] at hq
    have hv := valid_room hlen.2.2 t ht
    rw [getD_eq _ _ _ ht] at hq
    have hrow : w'.heap[g]? = some (.cells (intRow M).toArray 3 (0, 0)) := (h4.block g (lt_of_blk h.row) (fun e => e (Or.inr rfl))).trans h.row
    have htM : t < M.length := by rw [h.inv.grew.1]; exact ht
    have hsz := h.bel.size
    simp at hsz
    refine Or.inr ⟨t, ht, hgo, h2, hq.2.2.2, by omega, ?_, row_frozen hrow t, ⟨h3.set (Or.inr rfl) _, hi, ?_, ?_, h.gt⟩⟩
    · exact row_cell hrow (by rw [intRow_get _ _ htM, getD_eq _ _ _ htM])
    · rw [blk_set hrow, intRow_set]
    · exact (h.bel.trans (Keeps.below h4 (by omega) fun b hb => Or.inl hb)).setCell (p := ⟨g, t, none⟩) h.gt _

end Go.Proofs.YthfdgdfnflilfaaDoor
/- millracekeep: both. -/
namespace Go.Proofs.YthfdgdfnflilfaaDoor
open Go.RowKit Go.Conc

/-- Two races beside one another, and what is none of theirs. -/
structure Two (P : Nat → Prop) (p q : Nat) (N M : Net) (S T : Rc) (w : World) : Prop where
  ex : ∃ L K, L.p = p ∧ K.p = q ∧ RaceAt L w N S ∧ RaceAt K w M T ∧ (∀ b, Foot L N b → ¬ P b ∧ ¬ Foot K M b) ∧ (∀ b, Foot K M b → ¬ P b)
  lt : ∀ b, P b → b < w.heap.size

theorem Two.swap {P : Nat → Prop} {p q : Nat} {N M : Net} {S T : Rc} {w : World} (h : Two P p q N M S T w) : Two P q p M N T S w := by
  obtain ⟨L, K, h1, h2, h3, h4, h5, h6⟩ := h.ex
  exact ⟨⟨K, L, h2, h1, h4, h3, fun b hb => ⟨h6 b hb, fun hl => (h5 b hl).2 hb⟩, fun b hb => (h5 b hb).1⟩, h.lt⟩

theorem Two.left {P : Nat → Prop} {p q : Nat} {N M : Net} {S T : Rc} {w : World} (h : Two P p q N M S T w) :
    ∃ A : Nat → Prop, Has A p N S w ∧ (∀ b, P b → A b) ∧ ∀ p' S' w', Has A p' N S' w' → Keeps A w w' → Two P p' q N M S' T w' := by
  obtain ⟨L, K, h1, h2, h3, h4, h5, h6⟩ := h.ex
  refine ⟨fun b => P b ∨ Foot K M b, ⟨⟨L, h1, h3, fun b hb hA => hA.elim (h5 b hb).1 (h5 b hb).2⟩, fun b hb => hb.elim (h.lt b) fun hk => h4.foot_lt hk⟩, fun b hb => Or.inl hb, fun p' S' w' ha hk => ?_⟩
  obtain ⟨L', g1, g2, g3⟩ := ha.ex
  refine ⟨⟨L', K, g1, h2, g2, h4.frame fun b hb => hk.block b (h4.foot_lt hb) fun e => e (Or.inr hb), fun b hb => ⟨fun e => g3 b hb (Or.inl e), fun e => g3 b hb (Or.inr e)⟩, h6⟩, fun b hb => Nat.lt_of_lt_of_le (h.lt b hb) hk.size⟩

theorem Two.below {P : Nat → Prop} {p q : Nat} {N M : Net} {S T : Rc} {w w' : World} (h : Two P p q N M S T w) (hb : Below w.heap.size w w') : Two P p q N M S T w' := by
  obtain ⟨L, K, h1, h2, h3, h4, h5, h6⟩ := h.ex
  exact ⟨⟨L, K, h1, h2, h3.below hb, h4.below hb, h5, h6⟩, fun b h' => Nat.lt_of_lt_of_le (h.lt b h') hb.size⟩

/-- A second race that was made later. -/
theorem Two.make {A P : Nat → Prop} {p q : Nat} {N M : Net} {S T : Rc} {w w' : World} (hx : Has A p N S w) (hb : Below w.heap.size w w') (hy : Has (fun b => b < w.heap.size) q M T w') (hP : ∀ b, P b → A b) : Two P p q N M S T w' := by
  obtain ⟨L, h1, h2, h3⟩ := hx.ex
  obtain ⟨K, k1, k2, k3⟩ := hy.ex
  refine ⟨⟨L, K, h1, k1, h2.below hb, k2, fun b hl => ⟨fun e => h3 b hl (hP b e), fun e => k3 b e (h2.foot_lt hl)⟩, fun b hk e => k3 b hk (hx.lt b (hP b e))⟩, fun b hp => Nat.lt_of_lt_of_le (hx.lt b (hP b hp)) hb.size⟩

theorem roomy_fits {N : Net} (h : NetFits N) (rooms : List Int) : NetFits (roomyN N rooms) := ⟨h.c, h.words⟩

set_option maxRecDepth 100000 in
set_option maxHeartbeats 4000000 in
theorem both_calls {N : Net} {v vr v1 v2 : Value} {rooms one two : List Int} {w : World} (hn : NetAt w v N) (hr : IntsAt w vr rooms) (h1 : IntsAt w v1 one) (h2 : IntsAt w v2 two) (hok : validB N = true) (hf : NetFits N)
    (fr : ∀ x ∈ rooms, InR x) (f1 : ∀ x ∈ one, InR x) (f2 : ∀ x ∈ two, InR x) (l1 : one.length ≤ 1048576) (l2 : two.length ≤ 1048576) :
    Calls Tryd.prog 14 #[v, vr, v1, v2] w fun e w' => ∃ p q S T, e = .returned (.tuple #[.pointer (some ⟨p, 0, none⟩), .pointer (some ⟨q, 0, none⟩), .bool true]) ∧ Two (fun b => b < w.heap.size) p q N (roomyN N rooms) S T w' ∧ Good N S one.length ∧ Good (roomyN N rooms) T two.length ∧ Below w.heap.size w w' := by
  obtain ⟨hs1, hs8, hw1, hw6⟩ := valid_counts hok
  have hokM := roomy_valid hok rooms
  obtain ⟨vs0, vr0, vw0, rfl, g1, g2, g3⟩ := hn
  obtain ⟨sa, sc, rfl⟩ := g1.form
  obtain ⟨ar, cr, rfl⟩ := g2.form
  obtain ⟨aw, cw, rfl⟩ := g3.form
  have hNet : NetAt w (.agg #[.slice sa N.streams.length sc, .slice ar N.sources.length cr, .slice aw N.workers.length cw]) N := ⟨_, _, _, rfl, g1, g2, g3⟩
  have hNt : ∀ wx, Below w.heap.size w wx → NetAt wx (.agg #[.slice sa N.streams.length sc, .slice ar N.sources.length cr, .slice aw N.workers.length cw]) N := fun wx hx => hNet.below hx
  obtain ⟨a1, c1, e1, -, -, -⟩ := h1.open
  obtain ⟨a2, c2, e2, -, -, -⟩ := h2.open
  obtain ⟨a3, c3, e3, -, -, -⟩ := hr.open
  subst e1 e2 e3
  have HN : Hid (∀ wx, Below w.heap.size w wx → Calls Tryd.prog 10 #[.agg #[.slice sa N.streams.length sc, .slice ar N.sources.length cr, .slice aw N.workers.length cw]] wx fun e w' => ∃ p, e = .returned (.tuple #[.pointer (some ⟨p, 0, none⟩), .int .i64 0]) ∧ Has (fun b => b < wx.heap.size) p N (initR N N.streams) w' ∧ Below wx.heap.size wx w') := fun wx hx => has_new (hNt wx hx) hok
  have HRo : Hid (∀ wx, Below w.heap.size w wx → Calls Tryd.prog 9 #[.agg #[.slice sa N.streams.length sc, .slice ar N.sources.length cr, .slice aw N.workers.length cw], .slice a3 rooms.length c3] wx fun e w' => ∃ a cap, e = .returned (.agg #[.slice a N.streams.length cap, .slice ar N.sources.length cr, .slice aw N.workers.length cw]) ∧ w'.ownsRow wx.heap.size 3 1 (.slice a N.streams.length cap) N.streams.length (intRow (roomsOf N.streams rooms)) ∧ Below wx.heap.size wx w') := fun wx hx => roomy_calls (hNt wx hx) (hr.below hx) fr hs8
  have HM : Hid (∀ wx B a cap, Below w.heap.size w wx → wx.ownsRow B 3 1 (.slice a N.streams.length cap) N.streams.length (intRow (roomsOf N.streams rooms)) → Calls Tryd.prog 10 #[.agg #[.slice a N.streams.length cap, .slice ar N.sources.length cr, .slice aw N.workers.length cw]] wx fun e w' => ∃ p, e = .returned (.tuple #[.pointer (some ⟨p, 0, none⟩), .int .i64 0]) ∧ Has (fun b => b < wx.heap.size) p (roomyN N rooms) (initR (roomyN N rooms) (roomyN N rooms).streams) w' ∧ Below wx.heap.size wx w') := fun wx B a cap hx ho => has_new (net_roomy (hNt wx hx) hs8 ho) hokM
  have HG1 : Hid (∀ P p q T wx, (∀ b, b < w.heap.size → P b) → Below w.heap.size w wx → Two P p q N (roomyN N rooms) (initR N N.streams) T wx → Calls Tryd.prog 11 #[.pointer (some ⟨p, 0, none⟩), .agg #[.slice sa N.streams.length sc, .slice ar N.sources.length cr, .slice aw N.workers.length cw], .slice a1 one.length c1] wx fun e w' => ∃ p' S, e = .returned (.pointer (some ⟨p', 0, none⟩)) ∧ Two P p' q N (roomyN N rooms) S T w' ∧ Good N S one.length ∧ Keeps P wx w') := fun P p q T wx hP hx h2' => by
    obtain ⟨A, ha, hPA, hnext⟩ := h2'.left
    have hkb : ∀ wy, Keeps A wx wy → Below w.heap.size w wy := fun wy hk => hx.trans (hk.below hx.size fun b hb => hPA b (hP b hb))
    refine (goes_calls ha (Good.init hok hf) hf (fun wy hk => hNt wy (hkb wy hk)) (fun wy hk => h1.below (hkb wy hk)) f1 (by omega)).mono fun e w' ⟨p', S, r1, r2, r3, r4, r5⟩ => ⟨p', S, r1, hnext p' S w' r2 r5, by simpa using r3, Fr.mono r5 fun b _ hb hp => hb (hPA b hp)⟩
  have HG2 : Hid (∀ P B p q S wx a cap, (∀ b, b < w.heap.size → P b) → (∀ g, (Value.slice a N.streams.length cap).ownBlock = some g → P g) → Below w.heap.size w wx → wx.ownsRow B 3 1 (.slice a N.streams.length cap) N.streams.length (intRow (roomsOf N.streams rooms)) → Two P p q N (roomyN N rooms) S (initR (roomyN N rooms) (roomyN N rooms).streams) wx → Calls Tryd.prog 11 #[.pointer (some ⟨q, 0, none⟩), .agg #[.slice a N.streams.length cap, .slice ar N.sources.length cr, .slice aw N.workers.length cw], .slice a2 two.length c2] wx fun e w' => ∃ q' T, e = .returned (.pointer (some ⟨q', 0, none⟩)) ∧ Two P p q' N (roomyN N rooms) S T w' ∧ Good (roomyN N rooms) T two.length ∧ Keeps P wx w') := fun P B p q S wx a cap hP hPg hx ho h2' => by
    obtain ⟨A, ha, hPA, hnext⟩ := h2'.swap.left
    have hkb : ∀ wy, Keeps A wx wy → Below w.heap.size w wy := fun wy hk => hx.trans (hk.below hx.size fun b hb => hPA b (hP b hb))
    have hko : ∀ wy, Keeps A wx wy → wy.ownsRow B 3 1 (.slice a N.streams.length cap) N.streams.length (intRow (roomsOf N.streams rooms)) := fun wy hk => own_of_blockB ho fun g hg => by
      obtain ⟨cur, hc⟩ := own_blockB ho hg
      exact hk.block g (lt_of_blk hc) fun e => e (hPA g (hPg g hg))
    refine (goes_calls ha (Good.init hokM (roomy_fits hf rooms)) (roomy_fits hf rooms) (fun wy hk => net_roomy (hNt wy (hkb wy hk)) hs8 (hko wy hk)) (fun wy hk => h2.below (hkb wy hk)) f2 (by omega)).mono fun e w' ⟨p', S', r1, r2, r3, r4, r5⟩ => ⟨p', S', r1, (hnext p' S' w' r2 r5).swap, by simpa using r3, Fr.mono r5 fun b _ hb hp => hb (hPA b hp)⟩
  have hb0 : Below (w.heap.size + 1) (w.alloc (.cells #[.slice sa N.streams.length sc, .slice ar N.sources.length cr, .slice aw N.workers.length cw] 29)) (w.alloc (.cells #[.slice sa N.streams.length sc, .slice ar N.sources.length cr, .slice aw N.workers.length cw] 29)) := Below.refl _ _
  have HB0 := hide hb0
  clear g1 g2 g3 hNet hNt h1 h2 hr hb0 hf hok hokM fr f1 f2
  generalize roomsOf N.streams rooms = rms at *
  generalize roomyN N rooms = M at *
  generalize N.workers.length = wl at *
  generalize N.streams.length = sl at *
  generalize N.sources.length = rl at *
  generalize rooms.length = rol at *
  generalize one.length = ol at *
  generalize two.length = tl at *
  go_enter Tryd.func14, Tryd.ntmps14
  go_wp2_with fail
  refine (unhide HN _ (below_box HB0.out)).mono ?_
  rintro e w1 ⟨p, rfl, ha1, hb1⟩
  have HB1 : Hid (Below (w.heap.size + 1) (w.alloc (.cells #[.slice sa sl sc, .slice ar rl cr, .slice aw wl cw] 29)) w1) := HB0.out.trans (hb1.mono (by simp))
  have t1 : w1.heap[w.heap.size]? = some (.cells #[.slice sa sl sc, .slice ar rl cr, .slice aw wl cw] 29 (0, 0)) := by
    rw [HB1.out.block _ (by omega)]; exact heap_alloc_new _ _
  have HA1 : Hid (Has (fun b => b < w.heap.size + 1) p N (initR N N.streams) w1) := ha1.mono fun b hb => by simp; omega
  have z0 := (blk_cell t1 0 _ rfl).1
  have z1 := (blk_cell t1 1 _ rfl).1
  have z2 := (blk_cell t1 2 _ rfl).1
  have htl1 := lt_of_blk t1
  have HT1 := hide t1
  clear ha1 hb1 t1 HN HB0
  go_wp2_with fail
  refine (unhide HRo _ (below_box HB1.out)).mono ?_
  rintro e w2 ⟨a, cap, rfl, ho2, hb2⟩
  have HB2 : Hid (Below (w.heap.size + 1) (w.alloc (.cells #[.slice sa sl sc, .slice ar rl cr, .slice aw wl cw] 29)) w2) := below_box2 HB1.out hb2
  have HO2 := hide ho2
  have HB12 := hide hb2
  have hsz12 := hb2.size
  clear ho2 hb2 HRo z0 z1 z2
  go_wp2_with fail
  have hbA : Below w2.heap.size w2 (w2.alloc (.cells #[.slice a sl cap, .slice ar rl cr, .slice aw wl cw] 29)) := (Below.refl _ _).alloc (Nat.le_refl _) _
  have HB3 : Hid (Below (w.heap.size + 1) (w.alloc (.cells #[.slice sa sl sc, .slice ar rl cr, .slice aw wl cw] 29)) (w2.alloc (.cells #[.slice a sl cap, .slice ar rl cr, .slice aw wl cw] 29))) := below_box2 HB2.out hbA
  have hb13 : Below w1.heap.size w1 (w2.alloc (.cells #[.slice a sl cap, .slice ar rl cr, .slice aw wl cw] 29)) := HB12.out.trans (hbA.mono hsz12)
  have HO3 : Hid ((w2.alloc (.cells #[.slice a sl cap, .slice ar rl cr, .slice aw wl cw] 29)).ownsRow w1.heap.size 3 1 (.slice a sl cap) sl (intRow rms)) := own_of_blockB HO2.out fun g hg => by
    obtain ⟨cur, hc⟩ := own_blockB HO2.out hg
    exact hbA.block g (lt_of_blk hc)
  refine (unhide HM _ _ _ _ (below_box HB3.out) HO3.out).mono ?_
  rintro e w4 ⟨q, rfl, ha4, hb4⟩
  have HTw : Hid (Two (fun b => b < w.heap.size + 1 ∨ (w1.heap.size ≤ b ∧ b < (w2.alloc (.cells #[.slice a sl cap, .slice ar rl cr, .slice aw wl cw] 29)).heap.size)) p q N M (initR N N.streams) (initR M M.streams) w4) := Two.make (HA1.out.add hb13) hb4 ha4 fun b hb => hb
  have HB4 : Hid (Below (w.heap.size + 1) (w.alloc (.cells #[.slice sa sl sc, .slice ar rl cr, .slice aw wl cw] 29)) w4) := below_box2 HB3.out hb4
  have s4 : w4.heap[w2.heap.size]? = some (.cells #[.slice a sl cap, .slice ar rl cr, .slice aw wl cw] 29 (0, 0)) := by
    rw [hb4.block _ (by simp)]; exact heap_alloc_new _ _
  have t4 : w4.heap[w.heap.size]? = some (.cells #[.slice sa sl sc, .slice ar rl cr, .slice aw wl cw] 29 (0, 0)) := by
    rw [HB4.out.block _ (by omega)]; exact heap_alloc_new _ _
  have HO4 : Hid (w4.ownsRow w1.heap.size 3 1 (.slice a sl cap) sl (intRow rms)) := own_of_blockB HO3.out fun g hg => by
    obtain ⟨cur, hc⟩ := own_blockB HO3.out hg
    exact hb4.block g (lt_of_blk hc)
  have HPg : Hid (∀ g, (Value.slice a sl cap).ownBlock = some g → (fun b => b < w.heap.size + 1 ∨ (w1.heap.size ≤ b ∧ b < (w2.alloc (.cells #[.slice a sl cap, .slice ar rl cr, .slice aw wl cw] 29)).heap.size)) g) := fun g hg => by
    obtain ⟨cur, hc⟩ := own_blockB HO3.out hg
    exact Or.inr ⟨own_baseB HO3.out hg, lt_of_blk hc⟩
  have hsz4 : w2.heap.size < (w2.alloc (.cells #[.slice a sl cap, .slice ar rl cr, .slice aw wl cw] 29)).heap.size := by simp
  have z0 := (blk_cell t4 0 _ rfl).1
  have z1 := (blk_cell t4 1 _ rfl).1
  have z2 := (blk_cell t4 2 _ rfl).1
  have hs4 := lt_of_blk s4
  have ht4 := lt_of_blk t4
  have HS4 := hide s4
  have HT4 := hide t4
  clear ha4 hb4 s4 t4 hbA hb13 HM HA1 HB1 HB2 HB3 HO2 HO3 HB12 HT1
  generalize hP : (fun b => b < w.heap.size + 1 ∨ (w1.heap.size ≤ b ∧ b < (w2.alloc (.cells #[.slice a sl cap, .slice ar rl cr, .slice aw wl cw] 29)).heap.size)) = P at *
  have HP0 : Hid (∀ b, b < w.heap.size + 1 → P b) := fun b hb => by rw [← hP]; exact Or.inl hb
  have HP1 : Hid (P w2.heap.size) := by rw [← hP]; exact Or.inr ⟨hsz12, hsz4⟩
  clear hP hsz4
  have HG1' := hide (HG1.out P p q _ w4 (fun b hb => HP0.out b (by omega)) (below_box HB4.out) HTw.out)
  clear HG1 HTw
  go_wp2_with fail
  refine (unhide HG1').mono ?_
  rintro e w5 ⟨p', S, rfl, htw5, hg5, hk5⟩
  have HTw := hide htw5
  have HGo := hide hg5
  have HB5 : Hid (Below (w.heap.size + 1) (w.alloc (.cells #[.slice sa sl sc, .slice ar rl cr, .slice aw wl cw] 29)) w5) := HB4.out.trans (hk5.below (by have := HB4.out.size; simpa using this) fun b hb => HP0.out b hb)
  have s5 : w5.heap[w2.heap.size]? = some (.cells #[.slice a sl cap, .slice ar rl cr, .slice aw wl cw] 29 (0, 0)) := (hk5.block _ hs4 fun e => e HP1.out).trans HS4.out
  have HO5 : Hid (w5.ownsRow w1.heap.size 3 1 (.slice a sl cap) sl (intRow rms)) := own_of_blockB HO4.out fun g hg => by
    obtain ⟨cur, hc⟩ := own_blockB HO4.out hg
    exact hk5.block g (lt_of_blk hc) fun e => e (HPg.out g hg)
  have y0 := (blk_cell s5 0 _ rfl).1
  have y1 := (blk_cell s5 1 _ rfl).1
  have y2 := (blk_cell s5 2 _ rfl).1
  have HG2' := hide (HG2.out P _ p' q S w5 a cap (fun b hb => HP0.out b (by omega)) HPg.out (below_box HB5.out) HO5.out htw5)
  clear htw5 hg5 hk5 s5 HG2 HG1' HB4 HS4 HT4 z0 z1 z2 HO4 HTw
  go_wp2_with fail
  refine (unhide HG2').mono ?_
  rintro e w6 ⟨q', T, rfl, htw6, hg6, hk6⟩
  have HR1 : Hid (Two (fun b => b < w.heap.size) p' q' N M S T w6) := by
    obtain ⟨⟨L, K, x1, x2, x3, x4, x5, x6⟩, x7⟩ := htw6
    exact ⟨⟨L, K, x1, x2, x3, x4, fun b hb => ⟨fun e => (x5 b hb).1 (HP0.out b (by omega)), (x5 b hb).2⟩, fun b hb e => x6 b hb (HP0.out b (by omega))⟩, fun b hb => x7 b (HP0.out b (by omega))⟩
  have HR2 := hide hg6
  have HR3 : Hid (Below w.heap.size w w6) := (below_box HB5.out).trans (hk6.below (by have := (below_box HB5.out).size; exact this) fun b hb => HP0.out b (by omega))
  clear htw6 hg6 hk6 HG2' HB5 HO5 y0 y1 y2
  go_wp2
  go_ret3
  exact ⟨p', q', S, T, rfl, HR1.out, HGo.out, HR2.out, HR3.out⟩

end Go.Proofs.YthfdgdfnflilfaaDoor

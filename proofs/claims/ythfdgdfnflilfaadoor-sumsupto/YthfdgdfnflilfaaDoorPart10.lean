/- Part 10: Keep2, Load5, Load6, Save3, Save4. -/
import Derived.Test.YthfdgdfnflilfaaDoorPart9
/- A race as a caller sees it: its calls, and what they leave alone. -/
namespace Go.Proofs.YthfdgdfnflilfaaDoor
open Go.RowKit Go.Conc

theorem RaceAt.frame {L : Lay} {w w' : World} {N : Net} {R : Rc} (h : RaceAt L w N R) (hk : ∀ b, Foot L N b → w'.heap[b]? = w.heap[b]?) : RaceAt L w' N R := by
  obtain ⟨g, cap, hv, cs, hg, hcs⟩ := h.rowW
  refine ⟨by rw [hk _ (Or.inl rfl)]; exact h.blk, ?_, ⟨g, cap, hv, cs, by rw [hk g (Or.inr (Or.inr (Or.inl (by rw [hv]; rfl))))]; exact hg, hcs⟩,
    fun k hk' => (h.wk k hk').stays fun y hy => hk y (Or.inr (Or.inr (Or.inr (Or.inr ⟨k, hk', hy⟩)))), h.ch, h.injS, h.injW, h.lenW, h.lenS, h.ok⟩
  obtain ⟨g2, cap2, hv2, cs2, hg2, hcs2⟩ := h.env.along.form
  exact ⟨⟨⟨g2, cap2, hv2, cs2, by rw [hk g2 (Or.inr (Or.inl (by rw [hv2]; rfl)))]; exact hg2, hcs2⟩, h.env.along.small⟩, fun s hs => (h.env.at' s hs).stays fun y hy => hk y (Or.inr (Or.inr (Or.inr (Or.inl ⟨s, hs, hy⟩))))⟩

theorem RaceAt.foot_lt {L : Lay} {w : World} {N : Net} {R : Rc} (h : RaceAt L w N R) {b : Nat} (hb : Foot L N b) : b < w.heap.size := by
  rcases hb with rfl | hb | hb | ⟨s, hs, hb⟩ | ⟨j, hj, hb⟩
  · exact lt_of_blk h.blk
  · obtain ⟨g2, cap2, hv2, cs2, hg2, hcs2⟩ := h.env.along.form
    rw [hv2] at hb
    have : g2 = b := by simpa [Value.ownBlock] using hb
    subst this
    exact lt_of_blk hg2
  · obtain ⟨g, cap, hv, cs, hg, hcs⟩ := h.rowW
    rw [hv] at hb
    have : g = b := by simpa [Value.ownBlock] using hb
    subst this
    exact lt_of_blk hg
  · have hst := h.env.at' s hs
    rcases hb with rfl | hb | hb
    · exact lt_of_blk hst.blk
    · obtain ⟨cur, hc⟩ := own_block hst.own hb; exact lt_of_blk hc
    · obtain ⟨⟨s', r, h1⟩, _⟩ := hst.chan b hb; exact lt_of_blk h1
  · have hw := h.wk j hj
    rcases hb with rfl | hb
    · exact lt_of_blk hw.blk
    · obtain ⟨cur, hc⟩ := own_block hw.own hb; exact lt_of_blk hc

/-- A race at a pointer; what lies in A is none of it. -/
structure Has (A : Nat → Prop) (p : Nat) (N : Net) (R : Rc) (w : World) : Prop where
  ex : ∃ L, L.p = p ∧ RaceAt L w N R ∧ ∀ b, Foot L N b → ¬ A b
  lt : ∀ b, A b → b < w.heap.size

/-- What lies in A has stayed. -/
def Keeps (A : Nat → Prop) (w w' : World) : Prop := Fr (fun b => ¬ A b) w w'

theorem Keeps.below {A : Nat → Prop} {n : Nat} {w w' : World} (h : Keeps A w w') (hn : n ≤ w.heap.size) (hA : ∀ b, b < n → A b) : Below n w w' :=
  ⟨h.os, h.tape, h.output, h.size, fun k hk => h.block k (by omega) (fun e => e (hA k hk))⟩
theorem Keeps.of_below {A : Nat → Prop} {w w' : World} (h : Below w.heap.size w w') : Keeps A w w' := Fr.of_below h
theorem Keeps.trans {A : Nat → Prop} {a b c : World} (h : Keeps A a b) (k : Keeps A b c) : Keeps A a c := Fr.trans h k (fun _ _ e => e)

theorem Has.mono {A B : Nat → Prop} {p : Nat} {N : Net} {R : Rc} {w : World} (h : Has A p N R w) (hs : ∀ b, B b → A b) : Has B p N R w := by
  obtain ⟨L, h1, h2, h3⟩ := h.ex
  exact ⟨⟨L, h1, h2, fun b hb hB => h3 b hb (hs b hB)⟩, fun b hb => h.lt b (hs b hb)⟩

theorem Has.below {A : Nat → Prop} {p : Nat} {N : Net} {R : Rc} {w w' : World} (h : Has A p N R w) (hb : Below w.heap.size w w') : Has A p N R w' := by
  obtain ⟨L, h1, h2, h3⟩ := h.ex
  exact ⟨⟨L, h1, h2.below hb, h3⟩, fun b hA => Nat.lt_of_lt_of_le (h.lt b hA) hb.size⟩

/-- A block that came later, or none of the race's, may be added to A. -/
theorem Has.add {A : Nat → Prop} {p : Nat} {N : Net} {R : Rc} {w w' : World} (h : Has A p N R w) (hb : Below w.heap.size w w') : Has (fun b => A b ∨ (w.heap.size ≤ b ∧ b < w'.heap.size)) p N R w' := by
  obtain ⟨L, h1, h2, h3⟩ := h.ex
  refine ⟨⟨L, h1, h2.below hb, fun b hf hA => ?_⟩, fun b hA => ?_⟩
  · rcases hA with hA | hA
    · exact h3 b hf hA
    · have := h2.foot_lt hf; omega
  · rcases hA with hA | hA
    · have := h.lt b hA; have := hb.size; omega
    · exact hA.2

theorem Has.went {A : Nat → Prop} {L : Lay} {N : Net} {S : Rc} {w w' : World} (hA : ∀ b, Foot L N b → ¬ A b) (hlt : ∀ b, A b → b < w.heap.size) (h : Went L w N S w') : Has A L.p N S w' ∧ Keeps A w w' := by
  obtain ⟨L', r, g, f⟩ := h.at'
  refine ⟨⟨⟨L', g.1.1, r, fun b hb hAb => ?_⟩, fun b hAb => Nat.lt_of_lt_of_le (hlt b hAb) f.size⟩, f.mono fun k _ hk => hA k hk⟩
  rcases g.2 b hb with h1 | h1
  · exact hA b h1 hAb
  · have := hlt b hAb; omega

/-- The stream has a channel. -/
def heldB (N : Net) (s : Nat) : Bool := used N s && !srcd N s
theorem RaceAt.ch_iff {L : Lay} {w : World} {N : Net} {R : Rc} (h : RaceAt L w N R) {s : Nat} (hs : s < N.streams.length) : (L.CH s).isSome = heldB N s := by
  cases hq : srcd N s
  · have := h.ch s hs hq
    cases h1 : (L.CH s).isSome <;> cases h2 : used N s <;> simp [heldB, hq, h1, h2] at this ⊢
  · cases h1 : L.CH s with
    | none => simp [heldB, hq]
    | some c => have := (h.env.at' s hs).nosrc c h1; rw [hq] at this; cases this

/-! ### The calls -/
def stepR (N : Net) (R : Rc) (k : Nat) : Rc := if stateOf N R k = 1 then doStep N R k else R

theorem has_step {A : Nat → Prop} {p : Nat} {N : Net} {R : Rc} {w : World} (h : Has A p N R w) (k : Nat) (hk : k < N.workers.length) (hsm : SmallR N R) :
    Calls Tryd.prog 17 #[.pointer (some ⟨p, 0, none⟩), .int .i64 k] w fun e w' => e = .returned (.tuple #[.int .i64 (stateOf N R k), .int .i64 0]) ∧ Has A p N (stepR N R k) w' ∧ Keeps A w w' := by
  obtain ⟨L, rfl, h2, h3⟩ := h.ex
  refine (rstep_calls h2 k hk hsm).mono fun e w' ⟨h4, h5⟩ => ⟨h4, ?_⟩
  rcases h5 with ⟨h5, h6⟩ | ⟨h5, h6⟩
  · rw [stepR, if_neg h5]; exact ⟨h.below h6, Keeps.of_below h6⟩
  · rw [stepR, if_pos h5]; exact Has.went h3 h.lt ⟨h6⟩

theorem has_step_out {A : Nat → Prop} {p : Nat} {N : Net} {R : Rc} {w : World} (h : Has A p N R w) (k : Int) (hk : inB k N.workers.length = false) :
    Calls Tryd.prog 17 #[.pointer (some ⟨p, 0, none⟩), .int .i64 k] w fun e w' => e = .returned (.tuple #[.int .i64 0, .int .i64 2]) ∧ w' = w := by
  obtain ⟨L, rfl, h2, h3⟩ := h.ex
  exact rstep_out h2 k hk

theorem has_look {A : Nat → Prop} {p : Nat} {N : Net} {R : Rc} {w : World} (h : Has A p N R w) (k : Nat) (hk : k < N.workers.length) :
    Calls Tryd.prog 16 #[.pointer (some ⟨p, 0, none⟩), .int .i64 k] w fun e w' => e = .returned (.tuple #[lookVal (R.w k) (stateOf N R k), .int .i64 0]) ∧ Below w.heap.size w w' := by
  obtain ⟨L, rfl, h2, h3⟩ := h.ex
  exact rlook_calls h2 k hk

theorem has_grow {A : Nat → Prop} {p : Nat} {N : Net} {R : Rc} {w : World} (h : Has A p N R w) (hro : RoomR N R) :
    Calls Tryd.prog 20 #[.pointer (some ⟨p, 0, none⟩)] w fun e w' => ∃ a b o, Grows N R a b o ∧ e = .returned (.tuple #[.int .i64 a, .int .i64 b]) ∧ Has A p N (o.elim R (growS R)) w' ∧ Keeps A w w' := by
  obtain ⟨L, rfl, h2, h3⟩ := h.ex
  refine (rgrow_calls h2 hro).mono fun e w' ⟨a, b, o, h4, h5, h6⟩ => ⟨a, b, o, h4, h5, ?_⟩
  cases o with
  | none => exact ⟨h.below h6, Keeps.of_below h6⟩
  | some t => exact Has.went h3 h.lt ⟨h6⟩

theorem has_flow {A : Nat → Prop} {p : Nat} {N : Net} {R : Rc} {w : World} (h : Has A p N R w) (hro : RoomR N R) (hw : ∀ s, s < N.streams.length → (R.s s).words.length + 100000 < 4398046511104) (m : Nat) (hm : m ≤ 100000) :
    Calls Tryd.prog 12 #[.pointer (some ⟨p, 0, none⟩), .int .i64 m] w fun e w' => ∃ (d : Nat) (b : Int) (S : Rc), FlowEnd N R m d b S ∧ e = .returned (.tuple #[.int .i64 (d : Nat), .int .i64 b]) ∧ Has A p N S w' ∧ Keeps A w w' := by
  obtain ⟨L, rfl, h2, h3⟩ := h.ex
  exact (rflow_calls h2 hro hw m hm).mono fun e w' ⟨d, b, S, h4, h5, h6⟩ => ⟨d, b, S, h4, h5, Has.went h3 h.lt h6⟩

theorem has_history {A : Nat → Prop} {p : Nat} {N : Net} {R : Rc} {w : World} (h : Has A p N R w) (s : Nat) (hs : s < N.streams.length) :
    Calls Tryd.prog 13 #[.pointer (some ⟨p, 0, none⟩), .int .i64 s] w fun e w' => ∃ a' c', e = .returned (.tuple #[.slice a' (histOf (srcd N s) (R.s s)).length c', .int .i64 0]) ∧
      w'.ownsRow w.heap.size 3 1 (.slice a' (histOf (srcd N s) (R.s s)).length c') (histOf (srcd N s) (R.s s)).length (intRow (histOf (srcd N s) (R.s s))) ∧ Below w.heap.size w w' := by
  obtain ⟨L, rfl, h2, h3⟩ := h.ex
  exact rhistory_calls h2 s hs

theorem has_new {n : Net} {v : Value} {w : World} (h : NetAt w v n) (hok : validB n = true) :
    Calls Tryd.prog 10 #[v] w fun e w' => ∃ p, e = .returned (.tuple #[.pointer (some ⟨p, 0, none⟩), .int .i64 0]) ∧ Has (fun b => b < w.heap.size) p n (initR n n.streams) w' ∧ Below w.heap.size w w' :=
  (new_calls h hok).mono fun e w' ⟨L, h1, h2, h3, h4⟩ => ⟨L.p, h1, ⟨⟨L, rfl, h2, fun b hb hlt => by have := h3 b hb; omega⟩, fun b hb => Nat.lt_of_lt_of_le hb h4.size⟩, h4⟩

theorem has_len {A : Nat → Prop} {p : Nat} {N : Net} {R : Rc} {w : World} (h : Has A p N R w) : R.W.length = N.workers.length ∧ R.S.length = N.streams.length ∧ validB N = true := by
  obtain ⟨L, rfl, h2, h3⟩ := h.ex
  exact ⟨h2.lenW, h2.lenS, h2.ok⟩

/-- The numbers of a row that is owned. -/
theorem own_get {w : World} {n : Nat} {a : Option Addr} {cap : Nat} {l : List Int} (h : w.ownsRow n 3 1 (.slice a l.length cap) l.length (intRow l)) : ∀ i, i < l.length → ∃ g, a = some ⟨g, 0, none⟩ ∧ n ≤ g ∧ w.cell? ⟨g, i, none⟩ = some (.int .i64 (l.getD i 0)) := by
  obtain ⟨h1, h2⟩ := h
  rcases h2 with ⟨h3, h4⟩ | ⟨g, cap, cur, hv, hg, hh, hn, hm, hs, ht⟩
  · intro i hi; omega
  · intro i hi
    cases hv
    refine ⟨g, rfl, hg, ?_⟩
    have e : (intRow l)[i]? = some (.int .i64 (l.getD i 0)) := by rw [intRow_get _ _ hi, getD_eq _ _ _ hi]
    rw [← ht] at e
    simp only [Nat.mul_one] at e
    rw [List.getElem?_take_of_lt hi] at e
    simp [World.cell?, hh]
    simpa using e

end Go.Proofs.YthfdgdfnflilfaaDoor
/- Package streams: Load of a stream that holds words. -/
namespace Go.Proofs.YthfdgdfnflilfaaDoor
open Go.RowKit Go.Conc

set_option maxRecDepth 100000 in
set_option maxHeartbeats 4000000 in
theorem sloadHeld_calls {B : Nat} {w : World} {b rb c : Nat} {vw : Value} {m0 m : Sm} {l : List Int} (h : StAt w b vw (some c) false m0) (hr : RdAt B w rb ((m.room : Int) :: (m.read : Int) :: (m.words.length : Int) :: (m.words ++ l))) (hbB : B ≤ b) (hB : B ≤ w.heap.size)
    (hro0 : m0.room ≤ m.room) (hro : m.room ≤ 40) (hrd : m.read ≤ m.words.length) (hin : m.words.length - m.read ≤ m.room) (hws : ∀ x ∈ m.words, Fits64 x) (hwl : m.words.length ≤ 4294967296) :
    Calls Tryd.prog 67 #[.pointer (some ⟨b, 0, none⟩), .pointer (some ⟨rb, 0, none⟩)] w fun e w' => e = .returned (.tuple #[]) ∧ Loaded B w b rb false true m l w' := by
  obtain ⟨c0, c1, c2, c3, cf⟩ := h.cells
  obtain ⟨⟨s0, r0, hc⟩, hcr, hroom0⟩ := h.chan c rfl
  have hne : b ≠ rb := (h.rd hr (Fr.refl _ _)).2
  have hb := lt_of_blk h.blk
  have hcp := fun ty => run_cap_chan (P := Tryd.prog) 86 ty Tryd.underlying86 hc
  obtain ⟨i0, hi, hi8⟩ := Tryd.infoInt
  have hmk := fun (wx : World) => run_makeChan (P := Tryd.prog) (w := wx) (t := 86) Tryd.underlying86 hi .i64 m.room (by omega) (by rw [hi8]; omega)
  have H1 : Hid (Calls Tryd.prog 64 #[.pointer (some ⟨rb, 0, none⟩), .int .i64 m0.room, .int .i64 40] w fun e w' => e = .returned (.int .i64 m.room) ∧ RdAt B w' rb ((m.read : Int) :: (m.words.length : Int) :: (m.words ++ l)) ∧ Fr (fun y => y = rb) w w') := within_calls hr ⟨by omega, by omega⟩ _ _ (by omega) (by omega)
  have H2 : Hid (∀ wx, RdAt B wx rb ((m.read : Int) :: (m.words.length : Int) :: (m.words ++ l)) → Calls Tryd.prog 72 #[.pointer (some ⟨rb, 0, none⟩)] wx fun e w' => e = .returned (.int .i64 m.read) ∧ RdAt B w' rb ((m.words.length : Int) :: (m.words ++ l)) ∧ Fr (fun y => y = rb) wx w') := fun wx hx => count_calls hx ⟨by omega, by omega⟩ (by omega) (by simp; omega)
  have H3 : Hid (∀ wx, RdAt B wx rb ((m.words.length : Int) :: (m.words ++ l)) → Calls Tryd.prog 64 #[.pointer (some ⟨rb, 0, none⟩), .int .i64 m.read, .int .i64 ((m.read : Int) + m.room)] wx fun e w' => e = .returned (.int .i64 m.words.length) ∧ RdAt B w' rb (m.words ++ l) ∧ Fr (fun y => y = rb) wx w') := fun wx hx => within_calls hx ⟨by omega, by omega⟩ _ _ (by omega) (by omega)
  have H4 : Hid (∀ wx, RdAt B wx rb (m.words ++ l) → Fr (fun y => y = rb) w wx → Calls Tryd.prog 71 #[.pointer (some ⟨rb, 0, none⟩), .int .i64 m.words.length] wx fun e w' => ∃ a cap, e = .returned (.slice a m.words.length cap) ∧ ((∃ u, w'.cell? ⟨b, 1, none⟩ = some u) ∧ w'.frozen? ⟨b, 1, none⟩ = false) ∧
      (w'.setCell ⟨b, 1, none⟩ (.slice a m.words.length cap)).heap[b]? = some (.cells #[.bool false, .slice a m.words.length cap, .int .i64 0, .chan (some c), .int .i64 0] 88 (0, 0)) ∧
      (w'.setCell ⟨b, 1, none⟩ (.slice a m.words.length cap)).ownsRow w.heap.size 3 1 (.slice a m.words.length cap) m.words.length (intRow m.words) ∧ RdAt B (w'.setCell ⟨b, 1, none⟩ (.slice a m.words.length cap)) rb l ∧ Fr (fun z => z = b ∨ z = rb) w (w'.setCell ⟨b, 1, none⟩ (.slice a m.words.length cap))) := fun wx hx hfx => by
    refine (numbers_calls hx hws (Nat.le_trans hB hfx.size) hwl).mono fun e w' ⟨v, q1, q2, q3, q4⟩ => ?_
    obtain ⟨av, cv, rfl⟩ := own_slice q2
    have hf := hfx.trans q4 fun _ _ e => e
    have hk := (h.rd hr hf).1
    have hg : ∀ g, (Value.slice av m.words.length cv).ownBlock = some g → w.heap.size ≤ g := fun g hg => Nat.le_trans hfx.size (own_baseB q2 hg)
    refine ⟨av, cv, q1, ⟨⟨_, hk.cells.2.1⟩, row_frozen hk.blk 1⟩, ?_, ?_, q3.set hbB (Nat.le_trans hB hf.size) hne _, Fr.setCell (S := fun z => z = b ∨ z = rb) (hf.mono fun _ _ e => Or.inr e) (p := ⟨b, 1, none⟩) (Or.inr (Or.inl rfl)) _⟩
    · have := blk_set hk.blk 1 (.slice av m.words.length cv)
      simpa using this
    · have h0 : w'.ownsRow w.heap.size 3 1 (.slice av m.words.length cv) m.words.length (intRow m.words) := by
        rcases q2 with ⟨e1, e2 | ⟨g, cap, cur, e2, e3, e4⟩⟩
        · exact ⟨e1, Or.inl e2⟩
        · exact ⟨e1, Or.inr ⟨g, cap, cur, e2, Nat.le_trans hfx.size e3, e4⟩⟩
      exact own_of_blockB h0 fun g e => Below.heap_setCell _ _ _ _ (by have := hg g e; dsimp only; omega)
  clear hc cf h hr
  refine calls_of_wpN Tryd.func67 rfl ?_
  simp only [Tryd.ntmps67, List.size_toArray, List.length_cons, List.length_nil, Nat.reduceAdd, Nat.reduceSub, Array.replicate_succ, Array.replicate_zero, List.push_toArray, List.append_toArray, List.nil_append, List.cons_append]
  refine wpN_seq (wpN_of_wp ?_)
  go_wp2_with fail
  refine (unhide H1).mono ?_
  rintro e w1 ⟨rfl, hr1, hf1⟩
  have HR1 := hide hr1
  have HF1 := hide hf1
  clear hr1 hf1 H1 hcp
  go_wp2
  refine wpN_seq (wpN_of_wp ?_)
  go_wp2_with fail
  refine (unhide H2 _ HR1.out).mono ?_
  rintro e w2 ⟨rfl, hr2, hf2⟩
  have HR2 := hide hr2
  have HF2 := hide (HF1.out.trans hf2 fun _ _ e => e)
  clear hr2 hf2 HR1 HF1 H2
  go_wp2
  refine wpN_seq (wpN_of_wp ?_)
  go_wp2_with fail
  refine (unhide H3 _ HR2.out).mono ?_
  rintro e w3 ⟨rfl, hr3, hf3⟩
  have HR3 := hide hr3
  have HF3 := hide (HF2.out.trans hf3 fun _ _ e => e)
  clear hr3 hf3 HR2 HF2 H3
  go_wp2
  refine wpN_seq (wpN_of_wp ?_)
  go_wp2_with fail
  refine (unhide H4 _ HR3.out HF3.out).mono ?_
  rintro e w4 ⟨av, cv, rfl, ⟨⟨u, hu⟩, hfz⟩, k1, k2, k3, k4⟩
  have K1 := hide k1
  have K2 := hide k2
  have K3 := hide k3
  have K4 := hide k4
  clear k1 k2 k3 k4 HR3 HF3 H4
  go_wp2
  generalize w4.setCell ⟨b, 1, none⟩ (.slice av m.words.length cv) = w5 at *
  have d3 : w5.cell? ⟨b, 3, none⟩ = some (.chan (some c)) := row_cell K1.out rfl
  have d1 : w5.cell? ⟨b, 1, none⟩ = some (.slice av m.words.length cv) := row_cell K1.out rfl
  have f3 : w5.frozen? ⟨b, 3, none⟩ = false := row_frozen K1.out 3
  have hb5 : b < w5.heap.size := lt_of_blk K1.out
  clear hu hfz
  refine wpN_seq (wpN_of_wp ?_)
  go_wp2
  have hsz5 : (w5.setCell ⟨b, 3, none⟩ (.chan (some w5.heap.size))).heap.size = w5.heap.size := by simp [World.setCell]
  have J1 : ((w5.setCell ⟨b, 3, none⟩ (.chan (some w5.heap.size))).alloc (.chan m.room #[] false 0 0 false)).heap[b]? = some (.cells #[.bool false, .slice av m.words.length cv, .int .i64 0, .chan (some w5.heap.size), .int .i64 0] 88 (0, 0)) := by
    rw [Below.heap_alloc _ _ _ (by omega)]
    have := blk_set K1.out 3 (.chan (some w5.heap.size))
    simpa using this
  have J2 : ((w5.setCell ⟨b, 3, none⟩ (.chan (some w5.heap.size))).alloc (.chan m.room #[] false 0 0 false)).heap[w5.heap.size]? = some (.chan m.room #[] false 0 0 false) := by
    have := heap_alloc_new (w5.setCell ⟨b, 3, none⟩ (.chan (some w5.heap.size))) (.chan m.room #[] false 0 0 false)
    rw [hsz5] at this
    exact this
  have J3 : ∀ k, k < w5.heap.size → k ≠ b → ((w5.setCell ⟨b, 3, none⟩ (.chan (some w5.heap.size))).alloc (.chan m.room #[] false 0 0 false)).heap[k]? = w5.heap[k]? := fun k hk hkb => by
    rw [Below.heap_alloc _ _ _ (by omega), Below.heap_setCell _ _ _ _ (by dsimp only; omega)]
  have J4 : ((w5.setCell ⟨b, 3, none⟩ (.chan (some w5.heap.size))).alloc (.chan m.room #[] false 0 0 false)).heap.size = w5.heap.size + 1 := by simp [World.setCell]
  have J5 : Fr (fun z => z = b ∨ z = rb) w ((w5.setCell ⟨b, 3, none⟩ (.chan (some w5.heap.size))).alloc (.chan m.room #[] false 0 0 false)) := (Fr.setCell (S := fun z => z = b ∨ z = rb) K4.out (p := ⟨b, 3, none⟩) (Or.inr (Or.inl rfl)) _).alloc _
  have HJO : Hid (((w5.setCell ⟨b, 3, none⟩ (.chan (some w5.heap.size))).alloc (.chan m.room #[] false 0 0 false)).os = w5.os ∧ ((w5.setCell ⟨b, 3, none⟩ (.chan (some w5.heap.size))).alloc (.chan m.room #[] false 0 0 false)).tape = w5.tape ∧ ((w5.setCell ⟨b, 3, none⟩ (.chan (some w5.heap.size))).alloc (.chan m.room #[] false 0 0 false)).output = w5.output) := ⟨rfl, rfl, rfl⟩
  generalize ((w5.setCell ⟨b, 3, none⟩ (.chan (some w5.heap.size))).alloc (.chan m.room #[] false 0 0 false)) = w6 at *
  have e1 : w6.cell? ⟨b, 1, none⟩ = some (.slice av m.words.length cv) := row_cell J1 rfl
  have e3 : w6.cell? ⟨b, 3, none⟩ = some (.chan (some w5.heap.size)) := row_cell J1 rfl
  have HJ1 := hide J1
  have HJ2 := hide J2
  have HJ3 := hide J3
  have HJ4 := hide J4
  have HJ5 := hide J5
  clear J1 J2 J3 J4 J5 d3 d1 f3 hmk hsz5
  obtain ⟨un, hun⟩ : ∃ un, un = m.words.drop m.read := ⟨_, rfl⟩
  have hunl : un.length = m.words.length - m.read := by rw [hun]; simp
  have HUN := hide hun
  have HLd : Hid (∀ wr, wr.heap[w5.heap.size]? = some (.chan m.room (intRow un).toArray false un.length 0 false) → Fr (fun y => y = w5.heap.size) w6 wr → wr.heap.size = w6.heap.size → Loaded B w b rb false true m l wr) := fun wr g1 g2 g3 => by
    have hsz6 := HJ4.out
    have hwsz := K4.out.size
    have hq : ∀ k, k < w5.heap.size → k ≠ b → wr.heap[k]? = w5.heap[k]? := fun k hk hkb => (g2.block k (by omega) (by omega)).trans (HJ3.out k hk hkb)
    have hrb5 : rb < w5.heap.size := by obtain ⟨v, hv, -⟩ := K3.out.blk; exact lt_of_blk hv
    refine ⟨⟨_, some w5.heap.size, ⟨(g2.block b (by omega) (by omega)).trans HJ1.out, ?_, hrd, by omega, fun c' hc' => ?_, fun _ _ => rfl⟩, fun g hg => Or.inl (own_baseB K2.out hg), fun c' hc' => (by cases hc'; exact hwsz), rfl⟩, ?_, HJ5.out.trans g2 fun k hk e => by subst e; omega⟩
    · have h0 : w5.ownsRow 0 3 1 (.slice av m.words.length cv) m.words.length (intRow m.words) := by
        rcases K2.out with ⟨e1, e2 | ⟨g, cap, cur, e2, e3, e4⟩⟩
        · exact ⟨e1, Or.inl e2⟩
        · exact ⟨e1, Or.inr ⟨g, cap, cur, e2, Nat.zero_le _, e4⟩⟩
      refine own_of_block h0 fun g hg => ?_
      obtain ⟨cur, hc⟩ := own_block h0 hg
      have := own_baseB K2.out hg
      exact hq g (lt_of_blk hc) (by omega)
    · cases hc'
      exact ⟨⟨un.length, 0, by rw [← HUN.out]; exact g1⟩, hin, by omega⟩
    · refine K3.out.keep ⟨g2.os.trans (HJO.out.1), g2.tape.trans (HJO.out.2.1), g2.output.trans (HJO.out.2.2), by omega, fun k hk => hq k (by omega) (by omega)⟩ (hq rb hrb5 (fun e => hne e.symm))
  clear hun
  refine wpN_seq (wpN_of_wp ?_)
  rcases Nat.lt_or_ge m.read m.words.length with hlt | hge
  · obtain ⟨g, rfl, hg0, -⟩ := own_get K2.out 0 (by omega)
    have hcv : m.words.length ≤ cv := by
      obtain ⟨-, h2 | ⟨g', cap, cur, e, -, -, hn, -⟩⟩ := K2.out
      · cases h2.1
      · cases e; exact hn
    have hk0 : (0 : Int) ≤ (m.read : Int) := by omega
    have HCl : Hid (∀ wr, Fr (fun y => y = w5.heap.size) w6 wr → (∀ j, j < un.length → wr.cell? ⟨g, m.read + j, none⟩ = some (.int .i64 (un.getD j 0))) ∧ wr.cell? ⟨b, 3, none⟩ = some (.chan (some w5.heap.size))) := fun wr g2 => by
      refine ⟨fun j hj => ?_, ?_⟩
      · obtain ⟨g', e, hg', hx⟩ := own_get K2.out (m.read + j) (by omega)
        cases e
        have hgl : g < w5.heap.size := lt_of_cell hx
        have e2 : un.getD j 0 = m.words.getD (m.read + j) 0 := by
          rw [HUN.out]; simp [List.getD, List.getElem?_drop]
        rw [e2, ← hx]
        have hq : wr.heap[g]? = w5.heap[g]? := (g2.block g (by have := HJ4.out; omega) (by omega)).trans (HJ3.out g hgl (by omega))
        exact World.cell?_of_block (w := w5) hq
      · rw [← e3]; exact World.cell?_of_block (w := w6) (g2.block b (by have := HJ4.out; omega) (by omega))
    have hsz6 := HJ4.out
    clear K1 K2 K3 K4 HJ1 HJ3 HJ5 HJO HUN
    go_wp2
    refine wpN_block (wpN_loop (fun n a wr => ∃ (j : Nat) (u8 u43 u44 u45 u46 u47 u48 u49 u50 u51 : Value), j ≤ un.length ∧ n = un.length - j ∧ a = ⟨#[.pointer (some ⟨b, 0, none⟩), .pointer (some ⟨rb, 0, none⟩), undef, undef, .int .i64 m.room, .int .i64 m.read, .int .i64 m.words.length, undef, u8, .pointer (some ⟨rb, 0, none⟩), .pointer (some ⟨b, 0, none⟩), .pointer (some ⟨b, 0, none⟩), .pointer (some ⟨b, 3, none⟩), .chan (some c), .int .i64 m0.room, .int .i64 m.room, .pointer (some ⟨rb, 0, none⟩), .int .i64 m.read, .pointer (some ⟨rb, 0, none⟩), .int .i64 m.read, .int .i64 m.read, .int .i64 m.room, .int .i64 ((m.read : Int) + m.room), .int .i64 m.words.length, .pointer (some ⟨b, 0, none⟩), .pointer (some ⟨rb, 0, none⟩), .int .i64 m.words.length, (.slice (some ⟨g, 0, none⟩) m.words.length cv), .pointer (some ⟨b, 0, none⟩), .pointer (some ⟨b, 1, none⟩), .pointer (some ⟨b, 0, none⟩), .int .i64 m.room, .chan (some w5.heap.size), .pointer (some ⟨b, 0, none⟩), .pointer (some ⟨b, 3, none⟩), .pointer (some ⟨b, 0, none⟩), .pointer (some ⟨b, 0, none⟩), .pointer (some ⟨b, 1, none⟩), (.slice (some ⟨g, 0, none⟩) m.words.length cv), .int .i64 m.read, (.slice (some ⟨g, m.read, none⟩) (m.words.length - m.read) (cv - m.read)), .int .i64 ((m.words.length - m.read : Nat) : Int), .int .i64 j, u43, u44, u45, u46, u47, u48, u49, u50, u51], []⟩ ∧ wr.heap[w5.heap.size]? = some (.chan m.room (intRow (un.take j)).toArray false j 0 false) ∧ Fr (fun y => y = w5.heap.size) w6 wr ∧ wr.heap.size = w6.heap.size) un.length ?_ ?_)
    · exact ⟨0, undef, undef, undef, undef, undef, undef, undef, undef, undef, undef, Nat.zero_le _, rfl, rfl, HJ2.out, Fr.refl _ _, rfl⟩
    rintro n a wr ⟨j, u8, u43, u44, u45, u46, u47, u48, u49, u50, u51, hj, rfl, rfl, G1, G2, G3⟩
    by_cases hjl : j < un.length
    · obtain ⟨hcl, q3⟩ := HCl.out wr G2
      have d0 := hcl j hjl
      have hj0 : (0 : Int) ≤ (j : Int) := by omega
      have hj1 : (j : Int) < ((m.words.length - m.read : Nat) : Int) := by omega
      have HT : Hid (intRow (un.take (j + 1)) = intRow (un.take j) ++ [.int .i64 (un.getD j 0)]) := by
        unfold Hid
        rw [List.take_succ_eq_append_getElem hjl, getD_eq _ _ _ hjl]; exact intRow_snoc _ _
      have HG1 := hide G1
      have HG2 := hide G2
      clear hcl HCl G1 G2 HLd
      generalize un.getD j 0 = x at *
      refine wpN_seq (wpN_of_wp ?_)
      go_wp2
      refine wpN_seq (wpN_of_wp ?_)
      go_wp2
      refine wpN_seq (wpN_block (wpN_seq (wpN_of_wp ?_)))
      go_wp2
      refine wpN_region (rest_value _ rfl rfl (.pointer (some ⟨b, 0, none⟩)) wr (by simp [go_sem, execOp, Act.eval]) (rest_value _ rfl rfl (.pointer (some ⟨b, 0, none⟩)) wr (by simp [go_sem, execOp, Act.eval, Act.put]) (rest_value _ rfl rfl (.pointer (some ⟨b, 3, none⟩)) wr (by simp [go_sem, execOp, Act.eval, Act.put]) (rest_value _ rfl rfl (.chan (some w5.heap.size)) wr (by simp [go_sem, execOp, Act.eval, Act.put, q3]) (rest_value _ rfl rfl (.int .i64 x) wr (by simp [go_sem, execOp, Act.eval, Act.put]) (rest_step _ rfl undef (wr.setChan w5.heap.size m.room ((intRow (un.take j)).toArray.push (.int .i64 x)) false (j + 1) 0 false) (fun b0 k cs hb => step_lone_send_room (c := w5.heap.size) (v := .int .i64 x) (z' := .tuple #[]) (comm_of rfl rfl (w' := wr) (by simp [go_sem, execOp, scase, Act.eval, Act.put]) b0 k cs hb) HG1.out (by simp [intRow]; omega)) (rest_nil ?_)))))))
      have L1 : (wr.setChan w5.heap.size m.room ((intRow (un.take j)).toArray.push (.int .i64 x)) false (j + 1) 0 false).heap[w5.heap.size]? = some (.chan m.room (intRow (un.take (j + 1))).toArray false (j + 1) 0 false) := by
        rw [heap_setChan _ _ _ _ _ _ _ _ (by omega), HT.out]
        simp
      have L2 : Fr (fun y => y = w5.heap.size) w6 (wr.setChan w5.heap.size m.room ((intRow (un.take j)).toArray.push (.int .i64 x)) false (j + 1) 0 false) := Fr.setChan (S := fun y => y = w5.heap.size) HG2.out (c := w5.heap.size) (Or.inr rfl) _ _ _ _ _ _
      have L3 : (wr.setChan w5.heap.size m.room ((intRow (un.take j)).toArray.push (.int .i64 x)) false (j + 1) 0 false).heap.size = w6.heap.size := by rw [size_setChan]; exact G3
      generalize wr.setChan w5.heap.size m.room ((intRow (un.take j)).toArray.push (.int .i64 x)) false (j + 1) 0 false = w7 at *
      have HL1 := hide L1
      have HL2 := hide L2
      have HL3 := hide L3
      clear L1 L2 L3 HG1 HG2 G3
      refine wpN_of_wp ?_
      go_wp2
      exact ⟨un.length - (j + 1), by omega, j + 1, .int .i64 x, .bool true, .pointer (some ⟨g, m.read + j, none⟩), .int .i64 x, .pointer (some ⟨b, 0, none⟩), .pointer (some ⟨b, 0, none⟩), .pointer (some ⟨b, 3, none⟩), .chan (some w5.heap.size), .int .i64 x, .int .i64 ((j : Int) + 1), by omega, rfl, by simp, HL1.out, HL2.out, HL3.out⟩
    · have hjj : j = un.length := by omega
      subst hjj
      have hcond : decide ((un.length : Int) < ((m.words.length - m.read : Nat) : Int)) = false := by simp; omega
      have HL : Hid (Loaded B w b rb false true m l wr) := HLd.out wr (by rw [G1, List.take_length]) G2 G3
      clear G1 G2 G3 HLd
      refine wpN_seq (wpN_of_wp ?_)
      go_wp2
      refine wpN_seq (wpN_of_wp ?_)
      go_wp2
      go_end0
      exact ⟨rfl, HL.out⟩
  · have hun0 : un.length = 0 := by omega
    have hrl : m.read = m.words.length := by omega
    have hcv : m.words.length ≤ cv := by
      obtain ⟨-, h2 | ⟨g', cap, cur, e, -, -, hn, -⟩⟩ := K2.out
      · have := h2.2; omega
      · cases e; exact hn
    have hnil : av = none → m.words.length = 0 ∧ cv = 0 := fun e => by
      obtain ⟨-, h2 | ⟨g', cap, cur, e', -⟩⟩ := K2.out
      · have h3 := h2.1
        have h4 := h2.2
        injection h3 with _ _ h5
        exact ⟨h4, h5⟩
      · rw [e] at e'; cases e'
    have HL : Hid (Loaded B w b rb false true m l w6) := by
      have hu : un = [] := List.eq_nil_of_length_eq_zero hun0
      refine HLd.out w6 ?_ (Fr.refl _ _) rfl
      rw [hu]
      exact HJ2.out
    clear K1 K2 K3 K4 HJ1 HJ3 HJ5 HJO HUN HLd HJ2 HJ4
    cases av with
    | none =>
      obtain ⟨hw0, hcv0⟩ := hnil rfl
      have hr0 : m.read = 0 := by omega
      rw [hw0, hcv0] at e1
      go_wp2
      all_goals (refine wpN_block (wpN_loop (fun _ a' wr' => a' = _ ∧ wr' = w6) 0 ⟨rfl, rfl⟩ ?_); rintro n a' wr' ⟨rfl, rfl⟩; refine wpN_seq (wpN_of_wp ?_); go_wp2; refine wpN_seq (wpN_of_wp ?_); go_wp2; go_end0; exact ⟨rfl, HL.out⟩)
    | some ad =>
      go_wp2
      all_goals (refine wpN_block (wpN_loop (fun _ a' wr' => a' = _ ∧ wr' = w6) 0 ⟨rfl, rfl⟩ ?_); rintro n a' wr' ⟨rfl, rfl⟩; refine wpN_seq (wpN_of_wp ?_); go_wp2; refine wpN_seq (wpN_of_wp ?_); go_wp2; go_end0; exact ⟨rfl, HL.out⟩)

end Go.Proofs.YthfdgdfnflilfaaDoor
/- A race in memory: one worker, one stream put anew. -/
namespace Go.Proofs.YthfdgdfnflilfaaDoor
open Go.RowKit Go.Conc

theorem foot_w {L : Lay} {N : Net} {k : Nat} (hk : k < N.workers.length) : Foot L N (L.wb k) := Or.inr (Or.inr (Or.inr (Or.inr ⟨k, hk, Or.inl rfl⟩)))
theorem foot_s {L : Lay} {N : Net} {s : Nat} (hs : s < N.streams.length) : Foot L N (L.st s) := Or.inr (Or.inr (Or.inr (Or.inl ⟨s, hs, Or.inl rfl⟩)))

theorem RaceAt.setW {L : Lay} {w w' : World} {N : Net} {R : Rc} (h : RaceAt L w N R) {k : Nat} (hk : k < N.workers.length) {y : Wk}
    (hw' : WkAt w' (L.wb k) (L.VC k) (codeOf N k) y) (hf : ∀ z, Foot L N z → z ≠ L.wb k → w'.heap[z]? = w.heap[z]?) : RaceAt L w' N ⟨R.W.set k y, R.S⟩ := by
  have hwb := (h.wk k hk).blk
  obtain ⟨⟨ga, gcap, hva, csa, hga, hcsa⟩, hsm⟩ := h.env.along
  obtain ⟨gw, wcap, hvw', csw, hgw, hcsw⟩ := h.rowW
  have hlk : k < R.W.length := by rw [h.lenW]; exact hk
  refine ⟨?_, ⟨⟨⟨ga, gcap, hva, csa, ?_, hcsa⟩, hsm⟩, fun t ht => ?_⟩, ⟨gw, wcap, hvw', csw, ?_, hcsw⟩, fun j hj => ?_, h.ch, h.injS, h.injW, by simp [h.lenW], h.lenS, h.ok⟩
  · rw [hf _ (Or.inl rfl) (ne_of_types h.blk hwb (by decide))]; exact h.blk
  · rw [hf _ (Or.inr (Or.inl (by rw [hva]; rfl))) (ne_of_types hga hwb (by decide))]; exact hga
  · have hT := h.env.at' t ht
    refine hT.stays fun z hz => hf z (Or.inr (Or.inr (Or.inr (Or.inl ⟨t, ht, hz⟩)))) ?_
    rcases hz with rfl | hz | hz
    · exact ne_of_types hT.blk hwb (by decide)
    · obtain ⟨cur, hc⟩ := own_block hT.own hz; exact ne_of_types hc hwb (by decide)
    · obtain ⟨⟨a, r, h1⟩, _⟩ := hT.chan z hz; exact chan_ne_cells h1 hwb
  · rw [hf _ (Or.inr (Or.inr (Or.inl (by rw [hvw']; rfl)))) (ne_of_types hgw hwb (by decide))]; exact hgw
  · by_cases e : j = k
    · subst e
      have : (⟨R.W.set j y, R.S⟩ : Rc).w j = y := getD_set_self _ _ _ _ hlk
      rw [this]; exact hw'
    · have : (⟨R.W.set k y, R.S⟩ : Rc).w j = R.w j := getD_set_ne _ _ _ _ _ (fun e' => e e'.symm)
      rw [this]
      have hJ := h.wk j hj
      refine hJ.stays fun z hz => hf z (Or.inr (Or.inr (Or.inr (Or.inr ⟨j, hj, hz⟩)))) ?_
      rcases hz with rfl | hz
      · exact h.injW j k hj hk e
      · obtain ⟨cur, hc⟩ := own_block hJ.own hz; exact ne_of_types hc hwb (by decide)

theorem RaceAt.setS {L : Lay} {w w' : World} {N : Net} {R : Rc} (h : RaceAt L w N R) {s : Nat} (hs : s < N.streams.length) {vw' : Value} {ch' : Option Nat} {m' : Sm}
    (hst : StAt w' (L.st s) vw' ch' (srcd N s) m') (hvw : ∀ g, vw'.ownBlock = some g → (L.VW s).ownBlock = some g ∨ w.heap.size ≤ g) (hch : ∀ c, ch' = some c → L.CH s = some c ∨ w.heap.size ≤ c) (hsome : ch'.isSome = (L.CH s).isSome)
    (hf : ∀ z, Foot L N z → z ≠ L.st s → w'.heap[z]? = w.heap[z]?) :
    RaceAt { L with VW := fun t => if t = s then vw' else L.VW t, CH := fun t => if t = s then ch' else L.CH t } w' N ⟨R.W, R.S.set s m'⟩ := by
  have hsA := h.env.at' s hs
  have hsb := hsA.blk
  obtain ⟨⟨ga, gcap, hva, csa, hga, hcsa⟩, hsm⟩ := h.env.along
  obtain ⟨gw, wcap, hvw', csw, hgw, hcsw⟩ := h.rowW
  have hls : s < R.S.length := by rw [h.lenS]; exact hs
  refine ⟨?_, ⟨⟨⟨ga, gcap, hva, csa, ?_, hcsa⟩, hsm⟩, fun t ht => ?_⟩, ⟨gw, wcap, hvw', csw, ?_, hcsw⟩, fun j hj => ?_, fun t ht hq => ?_, fun t u ht hu hne => ?_, h.injW, h.lenW, by simp [h.lenS], h.ok⟩
  · rw [hf _ (Or.inl rfl) (ne_of_types h.blk hsb (by decide))]; exact h.blk
  · rw [hf _ (Or.inr (Or.inl (by rw [hva]; rfl))) (ne_of_types hga hsb (by decide))]; exact hga
  · dsimp only
    by_cases e : t = s
    · subst e
      rw [if_pos rfl, if_pos rfl]
      have : (⟨R.W, R.S.set t m'⟩ : Rc).s t = m' := getD_set_self _ _ _ _ hls
      rw [this]; exact hst
    · rw [if_neg e, if_neg e]
      have : (⟨R.W, R.S.set s m'⟩ : Rc).s t = R.s t := getD_set_ne _ _ _ _ _ (fun e' => e e'.symm)
      rw [this]
      have hT := h.env.at' t ht
      refine hT.stays fun z hz => hf z (Or.inr (Or.inr (Or.inr (Or.inl ⟨t, ht, hz⟩)))) ?_
      rcases hz with rfl | hz | hz
      · exact (h.injS t s ht hs e).1
      · obtain ⟨cur, hc⟩ := own_block hT.own hz; exact ne_of_types hc hsb (by decide)
      · obtain ⟨⟨a, r, h1⟩, _⟩ := hT.chan z hz; exact chan_ne_cells h1 hsb
  · rw [hf _ (Or.inr (Or.inr (Or.inl (by rw [hvw']; rfl)))) (ne_of_types hgw hsb (by decide))]; exact hgw
  · have hJ := h.wk j hj
    refine hJ.stays fun z hz => hf z (Or.inr (Or.inr (Or.inr (Or.inr ⟨j, hj, hz⟩)))) ?_
    rcases hz with rfl | hz
    · exact ne_of_types hJ.blk hsb (by decide)
    · obtain ⟨cur, hc⟩ := own_block hJ.own hz; exact ne_of_types hc hsb (by decide)
  · dsimp only
    by_cases e : t = s
    · subst e
      rw [if_pos rfl, hsome]; exact h.ch t ht hq
    · rw [if_neg e]; exact h.ch t ht hq
  · obtain ⟨i1, i2, i3⟩ := h.injS t u ht hu hne
    have own_lt : ∀ x, x < N.streams.length → ∀ g, (L.VW x).ownBlock = some g → g < w.heap.size := fun x hx g hg => by
      obtain ⟨cur, hc⟩ := own_block (h.env.at' x hx).own hg; exact lt_of_blk hc
    have ch_lt : ∀ x, x < N.streams.length → ∀ c, L.CH x = some c → c < w.heap.size := fun x hx c hc => by
      obtain ⟨⟨a, r, h1⟩, _⟩ := (h.env.at' x hx).chan c hc; exact lt_of_blk h1
    refine ⟨i1, fun g hg hg' => ?_, fun c hc hc' => ?_⟩
    · dsimp only at hg hg'
      by_cases e : t = s
      · subst e
        rw [if_pos rfl] at hg
        rw [if_neg (fun e' => hne e'.symm)] at hg'
        rcases hvw g hg with h1 | h1
        · exact i2 g h1 hg'
        · have := own_lt u hu g hg'; omega
      · rw [if_neg e] at hg
        by_cases e2 : u = s
        · subst e2
          rw [if_pos rfl] at hg'
          rcases hvw g hg' with h1 | h1
          · exact i2 g hg h1
          · have := own_lt t ht g hg; omega
        · rw [if_neg e2] at hg'
          exact i2 g hg hg'
    · dsimp only at hc hc'
      by_cases e : t = s
      · subst e
        rw [if_pos rfl] at hc
        rw [if_neg (fun e' => hne e'.symm)] at hc'
        rcases hch c hc with h1 | h1
        · exact i3 c h1 hc'
        · have := ch_lt u hu c hc'; omega
      · rw [if_neg e] at hc
        by_cases e2 : u = s
        · subst e2
          rw [if_pos rfl] at hc'
          rcases hch c hc' with h1 | h1
          · exact i3 c hc h1
          · have := ch_lt t ht c hc; omega
        · rw [if_neg e2] at hc'
          exact i3 c hc hc'

/-- No block of a race is a reader's. -/
theorem RaceAt.not_rd {L : Lay} {w : World} {N : Net} {R : Rc} (h : RaceAt L w N R) {rb : Nat} {v : Value} (hb : w.heap[rb]? = some (.cells #[v] 97 (0, 0))) : ¬ Foot L N rb := fun hf => by
  rcases hf with rfl | hf | hf | ⟨s, hs, hf⟩ | ⟨j, hj, hf⟩
  · exact ne_of_types h.blk hb (by decide) rfl
  · obtain ⟨g2, cap2, hv2, cs2, hg2, hcs2⟩ := h.env.along.form
    rw [hv2] at hf
    have : g2 = rb := by simpa [Value.ownBlock] using hf
    subst this
    exact ne_of_types hg2 hb (by decide) rfl
  · obtain ⟨g, cap, hv, cs, hg, hcs⟩ := h.rowW
    rw [hv] at hf
    have : g = rb := by simpa [Value.ownBlock] using hf
    subst this
    exact ne_of_types hg hb (by decide) rfl
  · have hst := h.env.at' s hs
    rcases hf with rfl | hf | hf
    · exact ne_of_types hst.blk hb (by decide) rfl
    · obtain ⟨cur, hc⟩ := own_block hst.own hf; exact ne_of_types hc hb (by decide) rfl
    · obtain ⟨⟨s', r, h1⟩, _⟩ := hst.chan rb hf; exact ne_of_chan hb h1 rfl
  · have hw := h.wk j hj
    rcases hf with rfl | hf
    · exact ne_of_types hw.blk hb (by decide) rfl
    · obtain ⟨cur, hc⟩ := own_block hw.own hf; exact ne_of_types hc hb (by decide) rfl

end Go.Proofs.YthfdgdfnflilfaaDoor
/- A stream behind a state. -/
namespace Go.Proofs.YthfdgdfnflilfaaDoor
open Go.RowKit Go.Conc

theorem StAt.saved {w w1 : World} {b : Nat} {vw : Value} {ch : Option Nat} {sourced : Bool} {m : Sm} (h : StAt w b vw ch sourced m) {B : Nat} {v v1 : Value} {s s1 : List Int} (hs : SvAt B w v s) (h1 : Wrote B w v s1 v1 w1) : StAt w1 b vw ch sourced m := by
  refine h.stays fun y hy => ?_
  rcases hy with rfl | hy | hy
  · exact h1.fr.block _ (lt_of_blk h.blk) (hs.ne h.blk (by decide))
  · obtain ⟨cur, hc⟩ := own_block h.own hy
    exact h1.fr.block _ (lt_of_blk hc) (hs.ne hc (by decide))
  · obtain ⟨⟨p, q, hc⟩, -⟩ := h.chan y hy
    exact h1.fr.block _ (lt_of_blk hc) (hs.ne_chan hc)

theorem StAt.ints {w : World} {b : Nat} {vw : Value} {ch : Option Nat} {sourced : Bool} {m : Sm} (h : StAt w b vw ch sourced m) : IntsAt w vw m.words := by
  obtain ⟨a, cap, rfl, hcap, hc⟩ := own_form h.own
  refine ⟨a, cap, rfl, by have := h.small; omega, hcap, ?_⟩
  rcases Nat.eq_zero_or_pos m.words.length with h0 | h0
  · exact Or.inl h0
  · obtain ⟨g, rfl, -⟩ := hc 0 h0
    refine Or.inr ⟨g, 0, rfl, fun i hi j hj => ?_⟩
    obtain ⟨g', e, d⟩ := hc i hi
    cases e
    have hj0 : j = 0 := by omega
    subst hj0
    simpa using d

set_option maxRecDepth 100000 in
set_option maxHeartbeats 2000000 in
theorem ssave_src {w : World} {b : Nat} {vw : Value} {m : Sm} (h : StAt w b vw none true m) {B : Nat} {v : Value} {s : List Int} (hB : B ≤ w.heap.size) (hs : SvAt B w v s) (hlen : s.length ≤ 274877906944) :
    Calls Tryd.prog 32 #[.pointer (some ⟨b, 0, none⟩), v] w fun e w' => ∃ v', e = .returned v' ∧ Wrote B w v (s ++ bytesOf (stNums true m)) v' w' := by
  obtain ⟨c0, c1, c2, c3, cf⟩ := h.cells
  simp only [if_true] at c2
  have HA1 : Hid (Calls Tryd.prog 52 #[v, .slice (some ⟨w.heap.size, 0, none⟩) 1 1] (w.alloc (.cells #[.int .i64 m.read] 3)) fun e w' => ∃ v', e = .returned v' ∧ Wrote B w v (s ++ bytesOf (stNums true m)) v' w') := append_new [(m.read : Int)] (by simp) hB hs (by omega)
  clear h hs cf
  go_enter Tryd.func32, Tryd.ntmps32
  go_wp2_with fail
  refine (unhide HA1).mono ?_
  rintro e w1 ⟨v1, rfl, h1⟩
  have H1 := hide h1
  clear h1 HA1
  go_wp2
  go_ret
  exact ⟨v1, rfl, H1.out⟩

/-- What follows the three numbers. -/
theorem ssave_rest {w : World} {b : Nat} {vw : Value} {ch : Option Nat} {m : Sm} (h : StAt w b vw ch false m) {B : Nat} {v : Value} {s : List Int} (hB : B ≤ w.heap.size) (hs : SvAt B w v s) (hlen : s.length ≤ 274877906944) (hw : m.words.length ≤ 4294967296) (q : Nat) :
    Calls Tryd.prog 52 #[v, .slice (some ⟨w.heap.size, 0, none⟩) 3 3] ((w.drewN q).alloc (.cells #[.int .i64 m.room, .int .i64 m.read, .int .i64 m.words.length] 3)) fun e w' => ∃ v', e = .returned v' ∧ (w'.cell? ⟨b, 1, none⟩ = some vw ∧
      Calls Tryd.prog 52 #[v', vw] w' fun e w'' => ∃ v'', e = .returned v'' ∧ Wrote B w v (s ++ bytesOf (stNums false m)) v'' w'') := by
  have h' : StAt (w.drewN q) b vw ch false m := h.stays fun _ _ => rfl
  refine (append_new (w := w.drewN q) [(m.room : Int), (m.read : Int), (m.words.length : Int)] (by simp) hB hs (by omega)).mono fun e w' ⟨v', q1, q2⟩ => ⟨v', q1, ?_⟩
  have h1 := h'.saved hs q2
  refine ⟨h1.cells.2.1, (append_calls (Nat.le_trans hB q2.fr.size) q2.at' h1.ints (fun g hg e => ?_) (by simp [bytesOf_length]; omega)).mono fun e w'' ⟨v'', r1, r2⟩ => ⟨v'', r1, ?_⟩⟩
  · obtain ⟨cur, hc⟩ := own_block h1.own e
    exact q2.at'.ne hc (by decide) hg
  · have e : s ++ bytesOf [(m.room : Int), (m.read : Int), (m.words.length : Int)] ++ bytesOf m.words = s ++ bytesOf (stNums false m) := by simp [bytesOf, stNums]
    rw [e] at r2
    exact (q2.trans r2).of_draw

set_option maxRecDepth 100000 in
set_option maxHeartbeats 2000000 in
theorem ssave_unread {w : World} {b : Nat} {vw : Value} {m : Sm} (h : StAt w b vw none false m) (hr : m.read = 0) {B : Nat} {v : Value} {s : List Int} (hB : B ≤ w.heap.size) (hs : SvAt B w v s) (hlen : s.length ≤ 274877906944) (hw : m.words.length ≤ 4294967296) :
    Calls Tryd.prog 32 #[.pointer (some ⟨b, 0, none⟩), v] w fun e w' => ∃ v', e = .returned v' ∧ Wrote B w v (s ++ bytesOf (stNums false m)) v' w' := by
  obtain ⟨c0, c1, c2, c3, cf⟩ := h.cells
  have c4 : w.cell? ⟨b, 4, none⟩ = some (.int .i64 (m.room : Int)) := row_cell h.blk rfl
  have hne := fun (wx : World) (a : Option Nat) => run_neq_chan_nil (P := Tryd.prog) wx 86 a Tryd.underlying86
  have HA := hide (ssave_rest h hB hs hlen hw 0)
  rw [hr] at HA
  obtain ⟨aw, capw, hvw, -, -⟩ := own_form h.own
  clear h hs cf c2
  subst hvw
  generalize m.words.length = ml at *
  generalize (m.room : Int) = mr at *
  go_enter Tryd.func32, Tryd.ntmps32
  go_wp2_with fail
  refine (unhide HA).mono ?_
  rintro e w1 ⟨v1, rfl, d1, h1⟩
  have H1 := hide h1
  clear h1 HA
  go_wp2_with fail
  refine (unhide H1).mono ?_
  rintro e w2 ⟨v2, rfl, h2⟩
  have H2 := hide h2
  clear h2 H1
  go_wp2
  go_ret
  exact ⟨v2, rfl, H2.out⟩

set_option maxRecDepth 100000 in
set_option maxHeartbeats 2000000 in
theorem ssave_held {w : World} {b c : Nat} {vw : Value} {m : Sm} (h : StAt w b vw (some c) false m) {B : Nat} {v : Value} {s : List Int} (hB : B ≤ w.heap.size) (hs : SvAt B w v s) (hlen : s.length ≤ 274877906944) (hw : m.words.length ≤ 4294967296) :
    Calls Tryd.prog 32 #[.pointer (some ⟨b, 0, none⟩), v] w fun e w' => ∃ v', e = .returned v' ∧ Wrote B w v (s ++ bytesOf (stNums false m)) v' w' := by
  obtain ⟨c0, c1, c2, c3, cf⟩ := h.cells
  have c4 : w.cell? ⟨b, 4, none⟩ = some (.int .i64 0) := row_cell h.blk rfl
  have hne := fun (wx : World) (a : Option Nat) => run_neq_chan_nil (P := Tryd.prog) wx 86 a Tryd.underlying86
  obtain ⟨⟨s0, r0, hc⟩, hcap, hroom⟩ := h.chan c rfl
  have hlen' := fun (q : Nat) ty => run_len_chan (P := Tryd.prog) (w := w.drewN q) 86 ty Tryd.underlying86 hc
  have hcp := fun (q : Nat) ty => run_cap_chan (P := Tryd.prog) (w := w.drewN q) 86 ty Tryd.underlying86 hc
  simp only [unread_size] at hlen'
  have hle := h.le
  have HA := hide (fun q => ssave_rest h hB hs hlen hw q)
  have wr1 : IntKind.i64.wrap ((m.words.length : Int) - ((m.words.length - m.read : Nat) : Int)) = (m.read : Int) := by rw [IntKind.wrap_i64]; omega
  obtain ⟨aw, capw, hvw, -, -⟩ := own_form h.own
  clear h hs cf c2 hc
  subst hvw
  generalize m.words.length - m.read = un at *
  generalize m.words.length = ml at *
  go_enter Tryd.func32, Tryd.ntmps32
  go_wp2
  go_quiet (fail)
  go_wp2_with fail
  refine (unhide HA _).mono ?_
  rintro e w1 ⟨v1, rfl, d1, h1⟩
  have H1 := hide h1
  clear h1 HA
  go_wp2_with fail
  refine (unhide H1).mono ?_
  rintro e w2 ⟨v2, rfl, h2⟩
  have H2 := hide h2
  clear h2 H1
  go_wp2
  go_ret
  exact ⟨v2, rfl, H2.out⟩

theorem ssave_calls {w : World} {b : Nat} {ch : Option Nat} {sourced : Bool} {vw : Value} {m : Sm} (h : StAt w b vw ch sourced m) (hr : ch = none → sourced = false → m.read = 0) {B : Nat} {v : Value} {s : List Int} (hB : B ≤ w.heap.size) (hs : SvAt B w v s) (hlen : s.length ≤ 274877906944) (hw : m.words.length ≤ 4294967296) :
    Calls Tryd.prog 32 #[.pointer (some ⟨b, 0, none⟩), v] w fun e w' => ∃ v', e = .returned v' ∧ Wrote B w v (s ++ bytesOf (stNums sourced m)) v' w' := by
  cases sourced with
  | true =>
    cases ch with
    | none => exact ssave_src h hB hs hlen
    | some c => have := h.nosrc c rfl; cases this
  | false =>
    cases ch with
    | none => exact ssave_unread h (hr rfl rfl) hB hs hlen hw
    | some c => exact ssave_held h hB hs hlen hw

end Go.Proofs.YthfdgdfnflilfaaDoor
/- Package millrace: Save. -/
namespace Go.Proofs.YthfdgdfnflilfaaDoor
open Go.RowKit Go.Conc

def saveW (R : Rc) (k : Nat) : List Int := (List.range k).flatMap fun j => wkNums (R.w j)
def saveS (N : Net) (R : Rc) (k : Nat) : List Int := (List.range k).flatMap fun s => stNums (srcd N s) (R.s s)
/-- The numbers of a state. -/
def saveNums (N : Net) (R : Rc) : List Int := saveW R N.workers.length ++ saveS N R N.streams.length

theorem saveW_succ (R : Rc) (k : Nat) : saveW R (k + 1) = saveW R k ++ wkNums (R.w k) := by simp [saveW, List.range_succ]
theorem saveS_succ (N : Net) (R : Rc) (k : Nat) : saveS N R (k + 1) = saveS N R k ++ stNums (srcd N k) (R.s k) := by simp [saveS, List.range_succ]
theorem saveW_length (R : Rc) (k : Nat) : (saveW R k).length = 6 * k := by
  induction k with
  | zero => rfl
  | succ k ih => rw [saveW_succ, List.length_append, ih]; simp [wkNums]; omega
theorem saveS_length (N : Net) (R : Rc) (k W : Nat) (h : ∀ s, s < k → (R.s s).words.length ≤ W) : (saveS N R k).length ≤ k * (3 + W) := by
  induction k with
  | zero => simp [saveS]
  | succ k ih =>
    rw [saveS_succ, List.length_append]
    have h1 := ih fun s hs => h s (by omega)
    have h2 := h k (by omega)
    have h3 : (stNums (srcd N k) (R.s k)).length ≤ 3 + W := by
      unfold stNums
      split
      · simp; omega
      · simp; omega
    rw [Nat.succ_mul]; omega

/-- What of a race Save leans on. -/
structure Saves (N : Net) (R : Rc) : Prop where
  rd : ∀ s, s < N.streams.length → used N s = false → srcd N s = false → (R.s s).read = 0
  words : ∀ s, s < N.streams.length → (R.s s).words.length ≤ 268435456

theorem Wrote.below {B : Nat} {w w' : World} {v v' : Value} {s s' : List Int} (h : Wrote B w v s' v' w') (hs : SvAt B w v s) (hB : B ≤ w.heap.size) : Below B w w' :=
  ⟨h.fr.os, h.fr.tape, h.fr.output, h.fr.size, fun k hk => h.fr.block k (by omega) fun e => by have := (hs.lt e).2; omega⟩

set_option maxRecDepth 100000 in
set_option maxHeartbeats 2000000 in
theorem rsave_calls {L : Lay} {w : World} {N : Net} {R : Rc} (h : RaceAt L w N R) (hsv : Saves N R) :
    Calls Tryd.prog 18 #[.pointer (some ⟨L.p, 0, none⟩)] w fun e w' => ∃ v', e = .returned v' ∧ SvAt w.heap.size w' v' (bytesOf (saveNums N R)) ∧ Below w.heap.size w w' := by
  obtain ⟨hs1, hs8, hw1, hw6⟩ := valid_counts h.ok
  obtain ⟨ga, ca, gw, cw, hva, hvw, hc⟩ := h.forms
  have HC : Hid (∀ wx, Below w.heap.size w wx → wx.cell? ⟨L.p, 0, none⟩ = some (.slice (some ⟨ga, 0, none⟩) N.streams.length ca) ∧ wx.cell? ⟨L.p, 1, none⟩ = some (.slice (some ⟨gw, 0, none⟩) N.workers.length cw) ∧ (∀ s, s < N.streams.length → wx.cell? ⟨ga, s, none⟩ = some (.pointer (some ⟨L.st s, 0, none⟩))) ∧ (∀ k, k < N.workers.length → wx.cell? ⟨gw, k, none⟩ = some (.pointer (some ⟨L.wb k, 0, none⟩)))) := fun wx hx => by
    obtain ⟨q0, q1, q2, q3⟩ := hc wx hx
    rw [hva] at q0; rw [hvw] at q1
    exact ⟨q0, q1, q2, q3⟩
  have HW : Hid (∀ wx, Below w.heap.size w wx → ∀ k, k < N.workers.length → ∀ v, SvAt w.heap.size wx v (bytesOf (saveW R k)) → Calls Tryd.prog 31 #[.pointer (some ⟨L.wb k, 0, none⟩), v] wx fun e w' => ∃ v', e = .returned v' ∧ SvAt w.heap.size w' v' (bytesOf (saveW R (k + 1))) ∧ Below w.heap.size w w') := fun wx hx k hk v hv => by
    refine (wsave_calls ((h.below hx).wk k hk) hx.size hv (by rw [bytesOf_length, saveW_length]; omega)).mono fun e w' ⟨v', q1, q2⟩ => ⟨v', q1, ?_, hx.trans (q2.below hv hx.size)⟩
    rw [saveW_succ, bytesOf_append]; exact q2.at'
  have HS : Hid (∀ wx, Below w.heap.size w wx → ∀ k, k < N.streams.length → ∀ v, SvAt w.heap.size wx v (bytesOf (saveW R N.workers.length ++ saveS N R k)) → Calls Tryd.prog 32 #[.pointer (some ⟨L.st k, 0, none⟩), v] wx fun e w' => ∃ v', e = .returned v' ∧ SvAt w.heap.size w' v' (bytesOf (saveW R N.workers.length ++ saveS N R (k + 1))) ∧ Below w.heap.size w w') := fun wx hx k hk v hv => by
    have hr := h.below hx
    have hl : (bytesOf (saveW R N.workers.length ++ saveS N R k)).length ≤ 274877906944 := by
      rw [bytesOf_length, List.length_append, saveW_length]
      have h1 := saveS_length N R k 268435456 fun s hs => hsv.words s (by omega)
      have h2 : k * (3 + 268435456) ≤ 8 * (3 + 268435456) := Nat.mul_le_mul_right _ (by omega)
      omega
    refine (ssave_calls (hr.env.at' k hk) (fun q1 q2 => hsv.rd k hk ?_ q2) hx.size hv hl (by have := hsv.words k hk; omega)).mono fun e w' ⟨v', q1, q2⟩ => ⟨v', q1, ?_, hx.trans (q2.below hv hx.size)⟩
    · have := hr.ch_iff hk
      rw [q1] at this
      simp [heldB, q2] at this
      exact this
    · rw [saveS_succ, ← List.append_assoc, bytesOf_append _ (stNums _ _)]; exact q2.at'
  have H0 : Hid (SvAt w.heap.size w (.slice none 0 0) (bytesOf (saveW R 0))) := ⟨rfl, Or.inl ⟨rfl, rfl⟩⟩
  have HE : Hid (saveNums N R = saveW R N.workers.length ++ saveS N R N.streams.length) := rfl
  have HE0 : Hid (∀ k, saveW R k ++ saveS N R 0 = saveW R k) := fun k => by simp [saveS]
  clear h hc hva hvw hsv
  generalize N.workers.length = wl at *
  generalize N.streams.length = sl at *
  obtain ⟨q0, q1, -, -⟩ := HC.out w (Below.refl _ _)
  go_enter Tryd.func18, Tryd.ntmps18
  go_wp2
  go_loopw [3, 13] (fun st i wr => ∃ (k : Nat) (v' : Value), k ≤ wl ∧ i = .int .i64 k ∧ v' = st ∧ SvAt w.heap.size wr v' (bytesOf (saveW R k)) ∧ Below w.heap.size w wr) (fun _ i _ => wl - (intOf i).toNat)
  case atStart => exact ⟨0, _, Nat.zero_le _, rfl, rfl, H0.out, Below.refl _ _⟩
  case round =>
    clear H0 q0 q1
    obtain ⟨k, v1, hk, rfl, rfl, hsv, hb⟩ := hrel
    obtain ⟨q0, q1, q2, q3⟩ := HC.out wr hb
    by_cases hlt : k < wl
    · have d0 := q3 k hlt
      have HW1 := hide (HW.out wr hb k hlt v1 hsv)
      have hk0 : (0 : Int) ≤ (k : Int) := by omega
      have hk1 : (k : Int) < (wl : Int) := by omega
      clear HW HS HC q2 q3 hsv hb
      go_wp2_with fail
      refine (unhide HW1).mono ?_
      rintro e w1 ⟨v2, rfl, h1, h2⟩
      have H1 := hide h1
      have H2 := hide h2
      clear h1 h2 HW1
      go_wp2
      go_roundw
      case rel => exact ⟨k + 1, _, by omega, by go_num, rfl, H1.out, H2.out⟩
      case measure => simp [intOf]; omega
    · have hkl : k = wl := by omega
      subst hkl
      have HSv : Hid (SvAt w.heap.size wr v1 (bytesOf (saveW R k ++ saveS N R 0))) := by rw [HE0.out]; exact hsv
      have HB := hide hb
      clear HW q2 q3 hsv hb
      go_wp2
      go_loopw [3, 26] (fun st i wq => ∃ (j : Nat) (v' : Value), j ≤ sl ∧ i = .int .i64 j ∧ v' = st ∧ SvAt w.heap.size wq v' (bytesOf (saveW R k ++ saveS N R j)) ∧ Below w.heap.size w wq) (fun _ i _ => sl - (intOf i).toNat)
      case atStart => exact ⟨0, _, Nat.zero_le _, rfl, rfl, HSv.out, HB.out⟩
      case round =>
        clear HSv HB q0 q1
        obtain ⟨j, v2, hj, rfl, rfl, hsv, hb⟩ := hrel
        obtain ⟨q0, q1, q2, q3⟩ := HC.out wr hb
        by_cases hlt2 : j < sl
        · have d0 := q2 j hlt2
          have HS1 := hide (HS.out wr hb j hlt2 v2 hsv)
          have hj0 : (0 : Int) ≤ (j : Int) := by omega
          have hj1 : (j : Int) < (sl : Int) := by omega
          clear HS HC q2 q3 hsv hb
          go_wp2_with fail
          refine (unhide HS1).mono ?_
          rintro e w1 ⟨v3, rfl, h1, h2⟩
          have H1 := hide h1
          have H2 := hide h2
          clear h1 h2 HS1
          go_wp2
          go_roundw
          case rel => exact ⟨j + 1, _, by omega, by go_num, rfl, H1.out, H2.out⟩
          case measure => simp [intOf]; omega
        · have hjl : j = sl := by omega
          subst hjl
          have H1 := hide hsv
          have H2 := hide hb
          clear HS HC q2 q3 hsv hb
          go_wp2
          go_ret
          exact ⟨v2, rfl, by rw [HE.out]; exact H1.out, H2.out⟩

end Go.Proofs.YthfdgdfnflilfaaDoor

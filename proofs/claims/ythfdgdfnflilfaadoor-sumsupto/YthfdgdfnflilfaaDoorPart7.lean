/- Part 7: Workers7, Race3, Workers4, Race4, Race5, Race6. -/
import Derived.Test.YthfdgdfnflilfaaDoorPart6
/- Package workers: Step: READ. (Made by mkw7.py.) -/
namespace Go.Proofs.YthfdgdfnflilfaaDoor
open Go.RowKit Go.Conc

theorem take_calls {w : World} {b : Nat} {vw : Value} {ch : Option Nat} {sourced : Bool} {m : Sm} (h : StAt w b vw ch sourced m) (hr : sourced = true ∨ ch ≠ none) :
    Calls Tryd.prog 49 #[.pointer (some ⟨b, 0, none⟩)] w fun e w' => Took w b vw ch sourced m e w' := by
  cases ch with
  | none =>
    cases sourced
    · simp at hr
    · exact take_src h
  | some c =>
    have := h.nosrc c rfl
    subst this
    exact take_chan h

/-- What comes of an instruction that reads. -/
def StepRead (w : World) (b : Nat) (vc : Value) (code : List Ins) (x : Wk) (i : Ins) (st : Nat → Nat) (VW : Nat → Value) (CH : Nat → Option Nat) (SRC : Nat → Bool) (M : Nat → Sm) (e : Ending) (w' : World) : Prop :=
  (e = .returned (.int .i64 2) ∧ SRC i.b.toNat = false ∧ (M i.b.toNat).read = (M i.b.toNat).words.length ∧ Below w.heap.size w w') ∨
  (e = .returned (.int .i64 1) ∧ ¬ (SRC i.b.toNat = false ∧ (M i.b.toNat).read = (M i.b.toNat).words.length) ∧ WkAt w' b vc code (nextW x i (M i.b.toNat).words[(M i.b.toNat).read]?) ∧
    StAt w' (st i.b.toNat) (VW i.b.toNat) (CH i.b.toNat) (SRC i.b.toNat) { M i.b.toNat with read := if (M i.b.toNat).read < (M i.b.toNat).words.length then (M i.b.toNat).read + 1 else (M i.b.toNat).read } ∧
    Fr (fun k => k = b ∨ k = st i.b.toNat ∨ CH i.b.toNat = some k) w w')

set_option maxRecDepth 100000 in
set_option maxHeartbeats 2000000 in
theorem wstep_read {w : World} {b : Nat} {vc va : Value} {code : List Ins} {x : Wk} {n : Nat} {st : Nat → Nat} (hw : WkAt w b vc code x) {VW : Nat → Value} {CH : Nat → Option Nat} {SRC : Nat → Bool} {M : Nat → Sm} (he : Env w va n st VW CH SRC M) (i : Ins) (hi : code[x.place]? = some i) (hok : opsValid i code.length n = true) (ho : i.op = 1) (hrd : SRC i.b.toNat = true ∨ CH i.b.toNat ≠ none) :
    Calls Tryd.prog 30 #[.pointer (some ⟨b, 0, none⟩), va] w fun e w' => StepRead w b vc code x i st VW CH SRC M e w' := by
  obtain ⟨c0, c1, -, -, -, -, -, -⟩ := hw.cells
  obtain ⟨a, cap, hvc, hcap, hcode⟩ := code_form hw.own
  have hle := hw.le
  have hsm := hw.small
  have hlt : x.place < code.length := (List.getElem?_eq_some_iff.1 hi).1
  have hie : code[x.place] = i := (List.getElem?_eq_some_iff.1 hi).2
  obtain ⟨g, ha', d0, d1, d2, d3⟩ := hcode x.place hlt
  rw [hie] at d0 d1 d2 d3
  have HE := hide he
  obtain ⟨ga, gcap, rfl, hgl, hal⟩ := along_at he.along
  have HAL := hide hal
  clear hal
  have HOK := hide hok
  obtain ⟨op, ia, ib, ic⟩ := i
  dsimp only at *
  have hrg := valid_reg hok (by dsimp only; omega)
  have hstm := valid_stream hok (by dsimp only; omega)
  dsimp only at hrg hstm
  subst ho
  obtain ⟨hr0, hr1⟩ := hrg
  obtain ⟨ka, rfl⟩ := Int.eq_ofNat_of_zero_le hr0
  obtain ⟨hb0, hb1⟩ := hstm
  obtain ⟨kb, rfl⟩ := Int.eq_ofNat_of_zero_le hb0
  have hka : ka < 4 := by omega
  have hkb : kb < n := by omega
  
  simp only [Int.toNat_natCast] at hrd
  have HW := hide hw
  have hd0 : decide ((code.length : Int) ≤ (x.place : Int)) = false := by simp; omega
  have hp0 : (0 : Int) ≤ (x.place : Int) := by omega
  have hp1 : (x.place : Int) < (code.length : Int) := by omega
  rw [hvc, ha'] at c0
  have wrp : IntKind.i64.wrap ((x.place : Int) + 1) = (x.place : Int) + 1 := by rw [IntKind.wrap_i64]; omega
  have HLT := hide hlt
  clear hcode hok hi hie hle hw he
  go_enter Tryd.func30, Tryd.ntmps30
  go_wp2
  refine wp_scope_ahead 3 ?_
  generalize hJ : jumpQ Tryd.prog _ _ 3 = J
  have HJ := hide hJ
  clear hJ
  go_wp2
  go_quiet (fail)
  go_wp2
  obtain ⟨w1, hw1⟩ : ∃ w1, w1 = w.drewN nq := ⟨_, rfl⟩
  rw [← hw1]
  have hcell : ∀ p, w1.cell? p = w.cell? p := fun p => by rw [hw1]; rfl
  rw [← hcell] at c0 c1 d0 d1 d2 d3
  clear hcell
  have hbl : Below w.heap.size w w1 := by rw [hw1]; exact below_drewN (Below.refl _ _) _
  clear hw1
  have n0 := World.new_ne w1 _ c0
  have n2 := World.new_ne w1 _ d0
  go_region_held3 (fun w' => w'.cell? ⟨b, 0, none⟩ = some (.slice (some ⟨g, 0, none⟩) code.length cap) ∧ w'.cell? ⟨b, 1, none⟩ = some (.int .i64 x.place) ∧ w'.cell? ⟨g, x.place * 4, none⟩ = some (.int .i64 1) ∧ w'.cell? ⟨g, x.place * 4 + 1, none⟩ = some (.int .i64 ka) ∧ w'.cell? ⟨g, x.place * 4 + 2, none⟩ = some (.int .i64 kb) ∧ w'.cell? ⟨g, x.place * 4 + 3, none⟩ = some (.int .i64 ic)) (go_keep) (fail)
  clear wrp
  have hbl2 : Below w.heap.size w (w1.alloc (.cells #[.int .i64 1, .int .i64 ka, .int .i64 kb, .int .i64 ic] 31)).drew := (hbl.alloc hbl.size _).drew
  have a0 : (w1.alloc (.cells #[.int .i64 1, .int .i64 ka, .int .i64 kb, .int .i64 ic] 31)).drew.cell? ⟨w1.heap.size, 0, none⟩ = some (.int .i64 1) := by simp [go_sem]
  have a1 : (w1.alloc (.cells #[.int .i64 1, .int .i64 ka, .int .i64 kb, .int .i64 ic] 31)).drew.cell? ⟨w1.heap.size, 1, none⟩ = some (.int .i64 ka) := by simp [go_sem]
  have a2 : (w1.alloc (.cells #[.int .i64 1, .int .i64 ka, .int .i64 kb, .int .i64 ic] 31)).drew.cell? ⟨w1.heap.size, 2, none⟩ = some (.int .i64 kb) := by simp [go_sem]
  have a3 : (w1.alloc (.cells #[.int .i64 1, .int .i64 ka, .int .i64 kb, .int .i64 ic] 31)).drew.cell? ⟨w1.heap.size, 3, none⟩ = some (.int .i64 ic) := by simp [go_sem]
  have HNE : Hid (b ≠ w1.heap.size) := fun e => n0 e.symm
  have HAB : Hid ((w1.alloc (.cells #[.int .i64 1, .int .i64 ka, .int .i64 kb, .int .i64 ic] 31)).drew.heap[w1.heap.size]? = some (.cells #[.int .i64 1, .int .i64 ka, .int .i64 kb, .int .i64 ic] 31 (0, 0))) := heap_alloc_new _ _
  have HS12 : Hid (w1.heap.size < (w1.alloc (.cells #[.int .i64 1, .int .i64 ka, .int .i64 kb, .int .i64 ic] 31)).drew.heap.size) := by unfold Hid; simp
  generalize (w1.alloc (.cells #[.int .i64 1, .int .i64 ka, .int .i64 kb, .int .i64 ic] 31)).drew = w2 at *
  clear c0 c1 d0 d1 d2 d3 n0 n2
  have hw2 := HW.out.below hbl2
  obtain ⟨c0, c1, c2, c3, c4, c5, c6, cf⟩ := hw2.cells
  have f1 := cf 1
  have f6 := cf 6
  have HCF := hide cf
  have HF2 : Hid (Fr (fun k => k = b) w w2) := Fr.of_below hbl2
  have HW2 := hide hw2
  clear cf hw2
  go_wp2
  refine wp_goto ?_
  show J (.goto 0) _ _
  rw [← HJ.out]
  refine ⟨_, rfl, ?_⟩
  clear HJ
  generalize hJ1 : jumpQ Tryd.prog _ _ 2 = J1
  have HJ1 := hide hJ1
  clear hJ1
  have da := HAL.out w2 hbl2 kb hkb
  have HT := hide (((unhide HE).at' kb hkb).below hbl2)
  go_wp2_with fail
  refine (take_calls HT.out hrd).mono ?_
  have hsb := HT.out.blk
  have hst2 : st kb < w2.heap.size := lt_of_blk hsb
  have nb1 : b ≠ st kb := ne_of_types HW2.out.blk hsb (by decide)
  have nb2 : ∀ c, CH kb = some c → b ≠ c := fun c hc => by
    obtain ⟨⟨s, r, h1⟩, _⟩ := HT.out.chan c hc
    exact ne_of_chan HW2.out.blk h1
  have na1 : w1.heap.size ≠ st kb := ne_of_types HAB.out hsb (by decide)
  have na2 : ∀ c, CH kb = some c → w1.heap.size ≠ c := fun c hc => by
    obtain ⟨⟨s, r, h1⟩, _⟩ := HT.out.chan c hc
    exact ne_of_chan HAB.out h1
  have no1 : ∀ y, vc.ownBlock = some y → y ≠ st kb := fun y hy => by
    obtain ⟨cur, h1⟩ := own_block HW2.out.own hy
    exact ne_of_types h1 hsb (by decide)
  have no2 : ∀ y, vc.ownBlock = some y → ∀ c, CH kb = some c → y ≠ c := fun y hy c hc => by
    obtain ⟨cur, h1⟩ := own_block HW2.out.own hy
    obtain ⟨⟨s, r, h2⟩, _⟩ := HT.out.chan c hc
    exact ne_of_chan h1 h2
  have HNB := hide (And.intro nb1 nb2)
  have HNA := hide (And.intro na1 na2)
  have HNO := hide (And.intro no1 no2)
  clear nb1 nb2 na1 na2 no1 no2 hst2 hsb
  rintro e w3 (⟨rfl, hlt3, hst3, hfr3, hsz3⟩ | ⟨rfl, h0, heq, q, rfl⟩ | ⟨rfl, h1, heq, q, rfl⟩)
  · have hw3 : WkAt w3 b vc code x := HW2.out.stays fun y hy => by
      rcases hy with rfl | hy
      · exact hfr3.block _ (lt_of_blk HW2.out.blk) (fun h => h.elim HNB.out.1 (fun h2 => HNB.out.2 _ h2 rfl))
      · obtain ⟨cur, h1⟩ := own_block HW2.out.own hy
        exact hfr3.block _ (lt_of_blk h1) (fun h => h.elim (HNO.out.1 y hy) (fun h2 => HNO.out.2 y hy _ h2 rfl))
    have hab3 : w3.heap[w1.heap.size]? = some (.cells #[.int .i64 1, .int .i64 ka, .int .i64 kb, .int .i64 ic] 31 (0, 0)) := by
      rw [hfr3.block _ (lt_of_blk HAB.out) (fun h => h.elim HNA.out.1 (fun h2 => HNA.out.2 _ h2 rfl))]; exact HAB.out
    have z1 : w3.cell? ⟨w1.heap.size, 1, none⟩ = some (.int .i64 ka) := row_cell hab3 rfl
    have cr := hw3.regCell ka hka
    have fr := row_frozen hw3.blk (2 + ka)
    have HST3 := hide hst3
    have HFR3 : Hid (Fr (fun k => k = b ∨ k = st kb ∨ CH kb = some k) w w3) := (Fr.of_below hbl2).trans hfr3 (fun y _ h => Or.inr h)
    have HW3 := hide hw3
    have HLT3 := hide hlt3
    have HSTB : Hid (st kb ≠ b) := fun e => HNB.out.1 e.symm
    have nb : b ≠ w1.heap.size := HNE.out
    have hk0 : (0 : Int) ≤ (ka : Int) := by omega
    have hk1 : (ka : Int) < 4 := by omega
    obtain ⟨v, hv⟩ : ∃ v, v = (M kb).words.getD (M kb).read 0 := ⟨_, rfl⟩
    rw [← hv]
    have HNX : Hid (nextW x ⟨1, ka, kb, ic⟩ (M kb).words[(M kb).read]? = ⟨x.place + 1, upd x.r ka v, wrap64 (x.steps + 1)⟩) := by
      unfold Hid; rw [List.getElem?_eq_getElem hlt3, hv, getD_eq _ _ _ hlt3]; simp [nextW]
    clear hv hst3 hfr3 hw3 hlt3 hab3 c0 c1 c2 c3 c4 c5 c6 f1 f6 a0 a1 a2 a3 da hsz3
    go_wp2
    go_region_held3 (fun w' => w'.cell? ⟨w1.heap.size, 1, none⟩ = some (.int .i64 ka)) (go_keep) (fail)
    have HW4 : Hid (WkAt (w3.setCell ⟨b, 2 + ka, none⟩ (.int .i64 v)).drew b vc code ⟨x.place, upd x.r ka v, x.steps⟩) := (HW3.out.reg ka hka v).below ((Below.refl _ _).drew)
    have HFR4 : Hid (Fr (fun k => k = b ∨ k = st kb ∨ CH kb = some k) w (w3.setCell ⟨b, 2 + ka, none⟩ (.int .i64 v)).drew) := (Fr.setCell (S := fun k => k = b ∨ k = st kb ∨ CH kb = some k) HFR3.out (p := ⟨b, 2 + ka, none⟩) (Or.inr (Or.inl rfl)) _).drewN 1
    have HST4 : Hid (∀ y, y ≠ b → (w3.setCell ⟨b, 2 + ka, none⟩ (.int .i64 v)).drew.heap[y]? = w3.heap[y]?) := fun y hy => Below.heap_setCell _ _ _ _ hy
    clear cr fr z1
    generalize (w3.setCell ⟨b, 2 + ka, none⟩ (.int .i64 v)).drew = w4 at *
    obtain ⟨c0, c1, c2, c3, c4, c5, c6, cf⟩ := HW4.out.cells
    have f1 := cf 1
    have f6 := cf 6
    clear cf
    go_wp2
    refine wp_goto ?_
    show J1 (.goto 6) _ _
    rw [← HJ1.out]
    refine ⟨_, rfl, ?_⟩
    clear HJ1
    generalize hJ2 : jumpQ Tryd.prog _ _ 1 = J2
    have HJ2 := hide hJ2
    clear hJ2
    go_wp2
    rw [← HJ2.out]
    refine jumpQ_ret ?_
    go_ret
    obtain ⟨q1, q2, q3⟩ := alone_end (w := w4) (y := nextW x ⟨1, ka, kb, ic⟩ (M kb).words[(M kb).read]?) (Fr.refl _ _) HW4.out ((x.place : Int) + 1) (by rw [HNX.out]; simp) (by rw [HNX.out]; have := HLT.out; dsimp only; omega) (by rw [HNX.out]) (by rw [HNX.out])
    have hne : ∀ c, CH kb = some c → c ≠ b := fun c hc e => HNB.out.2 c hc e.symm
    have hall : ∀ y, y ≠ b → ((w4.setCell ⟨b, 1, none⟩ (.int .i64 ((x.place : Int) + 1))).setCell ⟨b, 6, none⟩ (.int .i64 (wrap64 (x.steps + 1)))).heap[y]? = w3.heap[y]? := fun y hy => by
      rw [Below.heap_setCell _ _ _ _ hy, Below.heap_setCell _ _ _ _ hy]; exact HST4.out y hy
    refine Or.inr ⟨rfl, fun h => ?_, q2, ?_, ?_⟩
    · have h2 := h.2; have := HLT3.out; simp only [Int.toNat_natCast] at h2; omega
    · simp only [Int.toNat_natCast]
      rw [if_pos HLT3.out]
      refine HST3.out.stays fun y hy => hall y ?_
      rcases hy with rfl | hy | hy
      · exact HSTB.out
      · obtain ⟨cur, h1⟩ := own_block HST3.out.own hy
        exact ne_of_types h1 HW3.out.blk (by decide)
      · exact hne y hy
    · simp only [Int.toNat_natCast]
      exact Fr.setCell (S := fun k => k = b ∨ k = st kb ∨ CH kb = some k) (Fr.setCell (S := fun k => k = b ∨ k = st kb ∨ CH kb = some k) HFR4.out (p := ⟨b, 1, none⟩) (Or.inr (Or.inl rfl)) _) (p := ⟨b, 6, none⟩) (Or.inr (Or.inl rfl)) _
  · have HE0 := hide (And.intro h0 heq)
    clear h0 heq
    go_wp2
    rw [← HJ1.out]
    refine jumpQ_ret ?_
    go_ret
    refine Or.inl ⟨rfl, ?_, ?_, below_drewN hbl2 q⟩
    · simpa using HE0.out.1
    · simpa using HE0.out.2
  · have HE0 := hide (And.intro h1 heq)
    have HNX : Hid (nextW x ⟨1, ka, kb, ic⟩ (M kb).words[(M kb).read]? = ⟨ic.toNat, x.r, wrap64 (x.steps + 1)⟩) := by
      unfold Hid; rw [List.getElem?_eq_none (by omega)]; simp [nextW]
    clear h1 heq
    have hpl := valid_place HOK.out (Or.inl rfl)
    dsimp only at hpl
    go_wp2
    refine wp_goto ?_
    show J1 (.goto 4) _ _
    rw [← HJ1.out]
    refine ⟨_, rfl, ?_⟩
    clear HJ1
    generalize hJ2 : jumpQ Tryd.prog _ _ 1 = J2
    have HJ2 := hide hJ2
    clear hJ2
    go_wp2
    go_step3
    go_wp2
    rw [← HJ2.out]
    refine jumpQ_ret ?_
    go_ret
    have HW5 := HW2.out.below (below_drewN (Below.refl w2.heap.size w2) q)
    have R := alone_end (w := w2.drewN q) (y := nextW x ⟨1, ka, kb, ic⟩ (M kb).words[(M kb).read]?) (Fr.refl _ _) HW5 ic (by rw [HNX.out]; dsimp only; omega) (by rw [HNX.out]; dsimp only; omega) (by rw [HNX.out]) (by rw [HNX.out])
    obtain ⟨q1, q2, q3⟩ := R
    refine Or.inr ⟨rfl, fun h => ?_, q2, ?_, ?_⟩
    · have h2 := h.1; have := HE0.out.1; simp only [Int.toNat_natCast] at h2; rw [this] at h2; cases h2
    · simp only [Int.toNat_natCast]
      rw [if_neg (by have := HE0.out.2; omega)]
      refine (HT.out.below (below_drewN (Below.refl w2.heap.size w2) q)).stays fun y hy => ?_
      have hyb : y ≠ b := by
        rcases hy with rfl | hy | hy
        · exact fun e => HNB.out.1 e.symm
        · obtain ⟨cur, h1⟩ := own_block HT.out.own hy
          exact ne_of_types h1 HW2.out.blk (by decide)
        · exact fun e => HNB.out.2 y hy e.symm
      rw [Below.heap_setCell _ _ _ _ hyb, Below.heap_setCell _ _ _ _ hyb]
    · simp only [Int.toNat_natCast]
      exact Fr.setCell (S := fun k => k = b ∨ k = st kb ∨ CH kb = some k) (Fr.setCell (S := fun k => k = b ∨ k = st kb ∨ CH kb = some k) ((Fr.of_below hbl2).drewN q) (p := ⟨b, 1, none⟩) (Or.inr (Or.inl rfl)) _) (p := ⟨b, 6, none⟩) (Or.inr (Or.inl rfl)) _

end Go.Proofs.YthfdgdfnflilfaaDoor
/- A step of a worker, of a whole race. -/
namespace Go.Proofs.YthfdgdfnflilfaaDoor
open Go.RowKit Go.Conc

set_option maxRecDepth 100000 in
set_option maxHeartbeats 1000000 in
theorem wstep_done {w : World} {b : Nat} {vc va : Value} {code : List Ins} {x : Wk} {n : Nat} {st : Nat → Nat} (hw : WkAt w b vc code x) (ha : Along w va st n) (hi : code[x.place]? = none) :
    Calls Tryd.prog 30 #[.pointer (some ⟨b, 0, none⟩), va] w fun e w' => e = .returned (.int .i64 4) ∧ Below w.heap.size w w' := by
  obtain ⟨c0, c1, -, -, -, -, -, -⟩ := hw.cells
  obtain ⟨a, cap, hvc, hcap, hcode⟩ := code_form hw.own
  have hle := hw.le
  have hsm := hw.small
  have hge : code.length ≤ x.place := by
    rcases Nat.lt_or_ge x.place code.length with h | h
    · rw [List.getElem?_eq_getElem h] at hi; cases hi
    · exact h
  obtain ⟨ga, gcap, rfl, -, -⟩ := along_at ha
  have hd0 : decide ((code.length : Int) ≤ (x.place : Int)) = true := by simp; omega
  rw [hvc] at c0
  clear hcode hi hw ha hvc
  go_enter Tryd.func30, Tryd.ntmps30
  go_wp2
  refine wp_scope_ahead 0 ?_
  generalize hJ : jumpQ Tryd.prog _ _ 0 = J
  have HJ := hide hJ
  clear hJ
  go_wp2
  go_quiet (fail)
  go_wp2
  rw [← HJ.out]
  refine jumpQ_ret ?_
  go_ret
  exact ⟨rfl, below_drewN (Below.refl _ _) _⟩

/-- The race's blocks are the old ones, and new ones. -/
def Grew (L : Lay) (N : Net) (w : World) (L' : Lay) : Prop := (L'.p = L.p ∧ L'.vS = L.vS ∧ L'.vW = L.vW ∧ L'.wb = L.wb ∧ L'.st = L.st) ∧ (∀ b, Foot L' N b → Foot L N b ∨ w.heap.size ≤ b)

theorem Grew.refl (L : Lay) (N : Net) (w : World) : Grew L N w L := ⟨⟨rfl, rfl, rfl, rfl, rfl⟩, fun _ h => Or.inl h⟩

theorem grew_vw {L : Lay} {N : Net} {w : World} {s : Nat} {vw' : Value} (hs : s < N.streams.length) (hvw : ∀ g, vw'.ownBlock = some g → (L.VW s).ownBlock = some g ∨ w.heap.size ≤ g) : Grew L N w { L with VW := fun t => if t = s then vw' else L.VW t } := by
  refine ⟨⟨rfl, rfl, rfl, rfl, rfl⟩, fun b h => ?_⟩
  rcases h with h | h | h | ⟨t, ht, h⟩ | h
  · exact Or.inl (Or.inl h)
  · exact Or.inl (Or.inr (Or.inl h))
  · exact Or.inl (Or.inr (Or.inr (Or.inl h)))
  · rcases h with h | h | h
    · exact Or.inl (Or.inr (Or.inr (Or.inr (Or.inl ⟨t, ht, Or.inl h⟩))))
    · dsimp only at h
      by_cases e : t = s
      · subst e
        rw [if_pos rfl] at h
        rcases hvw b h with h1 | h1
        · exact Or.inl (Or.inr (Or.inr (Or.inr (Or.inl ⟨t, ht, Or.inr (Or.inl h1)⟩))))
        · exact Or.inr h1
      · rw [if_neg e] at h
        exact Or.inl (Or.inr (Or.inr (Or.inr (Or.inl ⟨t, ht, Or.inr (Or.inl h)⟩))))
    · exact Or.inl (Or.inr (Or.inr (Or.inr (Or.inl ⟨t, ht, Or.inr (Or.inr h)⟩))))
  · exact Or.inl (Or.inr (Or.inr (Or.inr (Or.inr h))))

/-- What comes of a step of worker k. -/
def Steps1 (L : Lay) (w : World) (N : Net) (R : Rc) (k : Nat) (w' : World) : Prop :=
  (stateOf N R k ≠ 1 ∧ Below w.heap.size w w') ∨ (stateOf N R k = 1 ∧ ∃ L', RaceAt L' w' N (doStep N R k) ∧ Grew L N w L' ∧ Fr (Foot L N) w w')

theorem state_of_ins {N : Net} {R : Rc} {k : Nat} {i : Ins} (hi : insAt N k (R.w k) = some i) (h1 : i.op ≠ 1) (h2 : i.op ≠ 2) : stateOf N R k = 1 := by
  simp only [stateOf, hi]
  rw [if_neg (fun e => h1 e.1), if_neg (fun e => h2 e.1)]

theorem wstep_race {L : Lay} {w : World} {N : Net} {R : Rc} (h : RaceAt L w N R) {k : Nat} (hk : k < N.workers.length) (hsm : ∀ s, s < N.streams.length → (R.s s).words.length < 4398046511104) :
    Calls Tryd.prog 30 #[.pointer (some ⟨L.wb k, 0, none⟩), L.vS] w fun e w' => e = .returned (.int .i64 (stateOf N R k)) ∧ Steps1 L w N R k w' := by
  have hw := h.wk k hk
  have hfk : ∀ x, x = L.wb k → Foot L N x := fun x hx => Or.inr (Or.inr (Or.inr (Or.inr ⟨k, hk, Or.inl hx⟩)))
  cases hi : insAt N k (R.w k) with
  | none =>
    refine (wstep_done hw h.env.along hi).mono fun e w' hh => ?_
    have : stateOf N R k = 4 := by simp [stateOf, hi]
    exact ⟨by rw [hh.1, this]; rfl, Or.inl ⟨by omega, hh.2⟩⟩
  | some i =>
    have hm : i ∈ codeOf N k := List.mem_of_getElem? hi
    have hv := valid_ins h.ok hk hm
    have hop := valid_op hv
    have hds := doStep_some hi
    -- the instructions that turn the worker alone
    have al : i.op ≠ 1 → i.op ≠ 2 → ∀ e w', Alone w (L.wb k) (L.VC k) (codeOf N k) (nextW (R.w k) i none) e w' → e = .returned (.int .i64 (stateOf N R k)) ∧ Steps1 L w N R k w' := by
      intro o1 o2 e w' hh
      have hs1 := state_of_ins hi o1 o2
      refine ⟨by rw [hh.1, hs1]; rfl, Or.inr ⟨hs1, L, ?_, Grew.refl _ _ _, hh.2.2.mono fun x _ hx => hfk x hx⟩⟩
      rw [hds, nextW_congr _ _ _ none o1]
      have e2 : nextS R (R.w k) i = R.S := by simp [nextS, o1, o2]
      rw [e2]
      exact h.alone hk hh.2.1 hh.2.2
    by_cases o1 : i.op = 1
    · have hb := valid_stream hv (Or.inl o1)
      have hs : i.b.toNat < N.streams.length := by omega
      refine (wstep_read hw h.env i hi hv o1 ((h.codeOk hk).rd i hm o1)).mono fun e w' hh => ?_
      rcases hh with ⟨h1, h2, h3, h4⟩ | ⟨h1, h2, h3, h4, h5⟩
      · have : stateOf N R k = 2 := by simp only [stateOf, hi]; rw [if_pos ⟨o1, h2, h3⟩]
        exact ⟨by rw [h1, this]; rfl, Or.inl ⟨by omega, h4⟩⟩
      · have hs1 : stateOf N R k = 1 := by
          simp only [stateOf, hi]; rw [if_neg (fun e => h2 e.2), if_neg (fun e => by omega)]
        refine ⟨by rw [h1, hs1]; rfl, Or.inr ⟨hs1, _, ?_, grew_vw hs (fun g hg => Or.inl hg), ?_⟩⟩
        · rw [hds]
          have e2 : nextS R (R.w k) i = R.S.set i.b.toNat { R.s i.b.toNat with read := if (R.s i.b.toNat).read < (R.s i.b.toNat).words.length then (R.s i.b.toNat).read + 1 else (R.s i.b.toNat).read } := by simp [nextS, o1]
          rw [e2]
          refine h.upd hk hs h3 h4 (fun g hg => Or.inl hg) (h5.mono fun x _ hx => ?_)
          rcases hx with hx | hx | hx
          · exact Or.inl hx
          · exact Or.inr (Or.inl hx)
          · exact Or.inr (Or.inr (Or.inr hx))
        · refine h5.mono fun x _ hx => ?_
          rcases hx with hx | hx | hx
          · exact hfk x hx
          · exact Or.inr (Or.inr (Or.inr (Or.inl ⟨_, hs, Or.inl hx⟩)))
          · exact Or.inr (Or.inr (Or.inr (Or.inl ⟨_, hs, Or.inr (Or.inr hx)⟩)))
    by_cases o2 : i.op = 2
    · have hb := valid_stream hv (Or.inr o2)
      have hs : i.b.toNat < N.streams.length := by omega
      have hq := (h.codeOk hk).wr i hm o2
      have hue := h.ch _ hs hq
      have fin : ∀ e w', StepWrite w (L.wb k) (L.VC k) (codeOf N k) (R.w k) i L.st L.VW L.CH R.s e w' → e = .returned (.int .i64 (stateOf N R k)) ∧ Steps1 L w N R k w' := by
        intro e w' hh
        rcases hh with ⟨h1, h2, h3, h4⟩ | ⟨h1, h2, h3, vw', h4, h5, h6⟩
        · have hu : used N i.b.toNat = true := hue.1 (by cases hc : L.CH i.b.toNat with | none => exact absurd hc h2 | some c => rfl)
          have : stateOf N R k = 3 := by simp only [stateOf, hi]; rw [if_neg (fun e => by omega), if_pos ⟨o2, hu, h3⟩]
          exact ⟨by rw [h1, this]; rfl, Or.inl ⟨by omega, h4⟩⟩
        · have hs1 : stateOf N R k = 1 := by
            simp only [stateOf, hi]
            rw [if_neg (fun e => by omega), if_neg]
            rintro ⟨_, e1, e2⟩
            refine h2 ⟨fun hc => ?_, e2⟩
            have := hue.2 e1
            rw [hc] at this; cases this
          refine ⟨by rw [h1, hs1]; rfl, Or.inr ⟨hs1, _, ?_, grew_vw hs h4, ?_⟩⟩
          · rw [hds, nextW_congr _ _ _ none o1]
            have e2 : nextS R (R.w k) i = R.S.set i.b.toNat { R.s i.b.toNat with words := (R.s i.b.toNat).words ++ [(R.w k).r i.a.toNat] } := by simp [nextS, o2]
            rw [e2]
            rw [← hq] at h5
            exact h.upd hk hs h3 h5 h4 h6
          · refine h6.mono fun x _ hx => ?_
            rcases hx with hx | hx | hx | hx
            · exact hfk x hx
            · exact Or.inr (Or.inr (Or.inr (Or.inl ⟨_, hs, Or.inl hx⟩)))
            · exact Or.inr (Or.inr (Or.inr (Or.inl ⟨_, hs, Or.inr (Or.inl hx)⟩)))
            · exact Or.inr (Or.inr (Or.inr (Or.inl ⟨_, hs, Or.inr (Or.inr hx)⟩)))
      by_cases hf : L.CH i.b.toNat ≠ none ∧ (R.s i.b.toNat).room ≤ (R.s i.b.toNat).words.length - (R.s i.b.toNat).read
      · exact (wstep_write_no hw h.env i hi hv o2 hq (hsm _ hs) hf).mono fin
      · exact (wstep_write_yes hw h.env i hi hv o2 hq (hsm _ hs) hf).mono fin
    by_cases o3 : i.op = 3
    · exact (wstep_set hw h.env.along i hi hv o3).mono (al o1 o2)
    by_cases o8 : i.op = 8
    · by_cases hz : (R.w k).r i.a.toNat = 0
      · exact (wstep_if_no hw h.env.along i hi hv o8 hz).mono (al o1 o2)
      · exact (wstep_if_yes hw h.env.along i hi hv o8 hz).mono (al o1 o2)
    by_cases o9 : i.op = 9
    · exact (wstep_goto hw h.env.along i hi hv o9).mono (al o1 o2)
    · exact (wstep_alu hw h.env.along i hi hv (by omega)).mono (al o1 o2)

end Go.Proofs.YthfdgdfnflilfaaDoor
/- Package workers: Look. -/
namespace Go.Proofs.YthfdgdfnflilfaaDoor
open Go.RowKit Go.Conc

def lookVal (x : Wk) (s : Int) : Value := .agg #[.int .i64 x.place, .int .i64 (x.r 0), .int .i64 (x.r 1), .int .i64 (x.r 2), .int .i64 (x.r 3), .int .i64 x.steps, .int .i64 s]

theorem below_set7 {w w1 : World} (h : Below w.heap.size w w1) (v0 v1 v2 v3 v4 v5 v6 : Value) :
    Below w.heap.size w (((((((w1.setCell ⟨w.heap.size, 0, none⟩ v0).setCell ⟨w.heap.size, 1, none⟩ v1).setCell ⟨w.heap.size, 2, none⟩ v2).setCell ⟨w.heap.size, 3, none⟩ v3).setCell ⟨w.heap.size, 4, none⟩ v4).setCell ⟨w.heap.size, 5, none⟩ v5).setCell ⟨w.heap.size, 6, none⟩ v6) :=
  have h0 := Below.setCell (p := ⟨w.heap.size, 0, none⟩) h (Nat.le_refl _) v0
  have h1 := Below.setCell (p := ⟨w.heap.size, 1, none⟩) h0 (Nat.le_refl _) v1
  have h2 := Below.setCell (p := ⟨w.heap.size, 2, none⟩) h1 (Nat.le_refl _) v2
  have h3 := Below.setCell (p := ⟨w.heap.size, 3, none⟩) h2 (Nat.le_refl _) v3
  have h4 := Below.setCell (p := ⟨w.heap.size, 4, none⟩) h3 (Nat.le_refl _) v4
  have h5 := Below.setCell (p := ⟨w.heap.size, 5, none⟩) h4 (Nat.le_refl _) v5
  Below.setCell (p := ⟨w.heap.size, 6, none⟩) h5 (Nat.le_refl _) v6

set_option maxRecDepth 100000 in
set_option maxHeartbeats 600000 in
theorem wlook_calls {w : World} {b : Nat} {vc va : Value} {code : List Ins} {x : Wk} {n : Nat} {st : Nat → Nat} {VW : Nat → Value} {CH : Nat → Option Nat} {SRC : Nat → Bool} {M : Nat → Sm}
    (hw : WkAt w b vc code x) (he : Env w va n st VW CH SRC M) (hc : CodeOk code n CH SRC) :
    Calls Tryd.prog 29 #[.pointer (some ⟨b, 0, none⟩), va] w fun e w' => e = .returned (lookVal x (stateL code x CH SRC M)) ∧ Below w.heap.size w w' := by
  obtain ⟨ga, gcap, hva, -, -⟩ := along_at he.along
  have hblk : ∀ wx, Below w.heap.size w wx → wx.cell? ⟨b, 1, none⟩ = some (.int .i64 x.place) ∧ wx.cell? ⟨b, 2, none⟩ = some (.int .i64 (x.r 0)) ∧ wx.cell? ⟨b, 3, none⟩ = some (.int .i64 (x.r 1)) ∧ wx.cell? ⟨b, 4, none⟩ = some (.int .i64 (x.r 2)) ∧ wx.cell? ⟨b, 5, none⟩ = some (.int .i64 (x.r 3)) ∧ wx.cell? ⟨b, 6, none⟩ = some (.int .i64 x.steps) := fun wx hx =>
    let h := (hw.below hx).cells; ⟨h.2.1, h.2.2.1, h.2.2.2.1, h.2.2.2.2.1, h.2.2.2.2.2.1, h.2.2.2.2.2.2.1⟩
  have hbs : b < w.heap.size := lt_of_blk hw.blk
  obtain ⟨c1, c2, c3, c4, c5, c6⟩ := hblk w (Below.refl _ _)
  have HS : Hid (∀ wx, Below (w.heap.size + 1) (w.alloc (.cells #[.int .i64 0, .int .i64 0, .int .i64 0, .int .i64 0, .int .i64 0, .int .i64 0, .int .i64 0] 50)) wx → Calls Tryd.prog 48 #[.pointer (some ⟨b, 0, none⟩), va] wx fun e w' => e = .returned (.int .i64 (stateL code x CH SRC M)) ∧
      (w'.cell? ⟨b, 1, none⟩ = some (.int .i64 x.place) ∧ w'.cell? ⟨b, 2, none⟩ = some (.int .i64 (x.r 0)) ∧ w'.cell? ⟨b, 3, none⟩ = some (.int .i64 (x.r 1)) ∧ w'.cell? ⟨b, 4, none⟩ = some (.int .i64 (x.r 2)) ∧ w'.cell? ⟨b, 5, none⟩ = some (.int .i64 (x.r 3)) ∧ w'.cell? ⟨b, 6, none⟩ = some (.int .i64 x.steps)) ∧
      w'.heap[w.heap.size]? = some (.cells #[.int .i64 0, .int .i64 0, .int .i64 0, .int .i64 0, .int .i64 0, .int .i64 0, .int .i64 0] 50 (0, 0)) ∧
      Below w.heap.size w w') := fun wx hx => (wstate_calls (hw.below (below_box hx)) (he.below (below_box hx)) hc).mono fun e w' h => by
    have hx' := hx.trans (h.2.mono (by have := hx.size; simpa using this))
    refine ⟨h.1, hblk w' (below_box hx'), ?_, below_box hx'⟩
    rw [hx'.block _ (by omega)]
    exact heap_alloc_new _ _
  clear hblk hw he hc
  subst hva
  obtain ⟨p, hp⟩ : ∃ p : Int, p = x.place := ⟨_, rfl⟩
  have HV : Hid (lookVal x (stateL code x CH SRC M) = .agg #[.int .i64 x.place, .int .i64 (x.r 0), .int .i64 (x.r 1), .int .i64 (x.r 2), .int .i64 (x.r 3), .int .i64 x.steps, .int .i64 (stateL code x CH SRC M)]) := rfl
  generalize (stateL code x CH SRC M : Int) = sv at *
  generalize x.r 0 = r0 at *
  generalize x.r 1 = r1 at *
  generalize x.r 2 = r2 at *
  generalize x.r 3 = r3 at *
  generalize x.steps = sp at *
  have n0 := World.new_ne w _ c1
  go_enter Tryd.func29, Tryd.ntmps29
  go_wp2
  have hb0 : Below (w.heap.size + 1) (w.alloc (.cells #[.int .i64 0, .int .i64 0, .int .i64 0, .int .i64 0, .int .i64 0, .int .i64 0, .int .i64 0] 50)) (w.alloc (.cells #[.int .i64 0, .int .i64 0, .int .i64 0, .int .i64 0, .int .i64 0, .int .i64 0, .int .i64 0] 50)) := Below.refl _ _
  go_region_held3 (fun w' => w'.cell? ⟨b, 1, none⟩ = some (.int .i64 x.place) ∧ w'.cell? ⟨b, 2, none⟩ = some (.int .i64 r0) ∧ w'.cell? ⟨b, 3, none⟩ = some (.int .i64 r1) ∧ w'.cell? ⟨b, 4, none⟩ = some (.int .i64 r2) ∧ w'.cell? ⟨b, 5, none⟩ = some (.int .i64 r3) ∧ w'.cell? ⟨b, 6, none⟩ = some (.int .i64 sp)) (go_keep)
    ((go_at_call 48; refine (unhide HS _ ?_).mono ?_; (repeat (first | exact hb0 | apply Below.drew | apply below_drewN)); rintro e w1 ⟨rfl, ⟨s1, s2, s3, s4, s5, s6⟩, t0, hb1⟩; have z0 := blk_cell t0 0 _ rfl; have z1 := blk_cell t0 1 _ rfl; have z2 := blk_cell t0 2 _ rfl; have z3 := blk_cell t0 3 _ rfl; have z4 := blk_cell t0 4 _ rfl; have z5 := blk_cell t0 5 _ rfl; have z6 := blk_cell t0 6 _ rfl))
  go_wp2
  refine bodyPost_ret (v := .agg #[.int .i64 x.place, .int .i64 r0, .int .i64 r1, .int .i64 r2, .int .i64 r3, .int .i64 sp, .int .i64 sv]) ?_ rfl ⟨by rw [HV.out], ?_⟩
  · simp [results, Tryd.results29, go_sem, z0, z1, z2, z3, z4, z5, z6]
  · exact below_set7 hb1 _ _ _ _ _ _ _

end Go.Proofs.YthfdgdfnflilfaaDoor
/- Package millrace: Step, Look, Room of a race. -/
namespace Go.Proofs.YthfdgdfnflilfaaDoor
open Go.RowKit Go.Conc

theorem RaceAt.forms {L : Lay} {w : World} {N : Net} {R : Rc} (h : RaceAt L w N R) : ∃ ga ca gw cw, L.vS = .slice (some ⟨ga, 0, none⟩) N.streams.length ca ∧ L.vW = .slice (some ⟨gw, 0, none⟩) N.workers.length cw ∧
    ∀ wr, Below w.heap.size w wr → wr.cell? ⟨L.p, 0, none⟩ = some L.vS ∧ wr.cell? ⟨L.p, 1, none⟩ = some L.vW ∧ (∀ s, s < N.streams.length → wr.cell? ⟨ga, s, none⟩ = some (.pointer (some ⟨L.st s, 0, none⟩))) ∧ (∀ k, k < N.workers.length → wr.cell? ⟨gw, k, none⟩ = some (.pointer (some ⟨L.wb k, 0, none⟩))) := by
  obtain ⟨ga, ca, hva, -, hal⟩ := along_at h.env.along
  obtain ⟨gw, cw, hvw, cs, hg, hcs⟩ := h.rowW
  refine ⟨ga, ca, gw, cw, hva, hvw, fun wr hb => ⟨(h.below hb).cells.1, (h.below hb).cells.2, fun s hs => hal wr hb s hs, fun k hk => ?_⟩⟩
  rw [hb.cell (p := ⟨gw, k, none⟩) (lt_of_blk hg)]
  exact row_cell hg (hcs k hk)

set_option maxHeartbeats 400000 in
theorem hasWorker_calls {L : Lay} {w : World} {N : Net} {R : Rc} (h : RaceAt L w N R) (k : Int) :
    Calls Tryd.prog 28 #[.pointer (some ⟨L.p, 0, none⟩), .int .i64 k] w fun e w' => e = .returned (.bool (inB k N.workers.length)) ∧ w' = w := by
  obtain ⟨ga, ca, gw, cw, hva, hvw, hc⟩ := h.forms
  obtain ⟨c0, c1, -, -⟩ := hc w (Below.refl _ _)
  rw [hvw] at c1
  rw [hva] at c0
  clear hc h
  by_cases h0 : 0 ≤ k
  · go_enter Tryd.func28, Tryd.ntmps28
    go_wp2
    go_ret
    exact ⟨ret_bool (by simp [inB, h0]), rfl⟩
  · have h0' : decide (0 ≤ k) = false := by simpa using h0
    go_enter Tryd.func28, Tryd.ntmps28
    go_wp2
    go_ret
    exact ⟨ret_bool (by simp [inB]; omega), rfl⟩

set_option maxHeartbeats 400000 in
theorem hasStream_calls {L : Lay} {w : World} {N : Net} {R : Rc} (h : RaceAt L w N R) (k : Int) :
    Calls Tryd.prog 26 #[.pointer (some ⟨L.p, 0, none⟩), .int .i64 k] w fun e w' => e = .returned (.bool (inB k N.streams.length)) ∧ w' = w := by
  obtain ⟨ga, ca, gw, cw, hva, hvw, hc⟩ := h.forms
  obtain ⟨c0, c1, -, -⟩ := hc w (Below.refl _ _)
  rw [hvw] at c1
  rw [hva] at c0
  clear hc h
  by_cases h0 : 0 ≤ k
  · go_enter Tryd.func26, Tryd.ntmps26
    go_wp2
    go_ret
    exact ⟨ret_bool (by simp [inB, h0]), rfl⟩
  · have h0' : decide (0 ≤ k) = false := by simpa using h0
    go_enter Tryd.func26, Tryd.ntmps26
    go_wp2
    go_ret
    exact ⟨ret_bool (by simp [inB]; omega), rfl⟩

theorem Steps1.after {L : Lay} {w w1 w' : World} {N : Net} {R : Rc} {k : Nat} (hb : Below w.heap.size w w1) (h : Steps1 L w1 N R k w') : Steps1 L w N R k w' := by
  rcases h with ⟨h1, h2⟩ | ⟨h1, L', h2, h3, h4⟩
  · exact Or.inl ⟨h1, hb.trans (h2.mono hb.size)⟩
  · exact Or.inr ⟨h1, L', h2, ⟨h3.1, fun b hb' => (h3.2 b hb').imp id (Nat.le_trans hb.size)⟩, (Fr.of_below hb).trans h4 (fun _ _ hx => hx)⟩

def SmallR (N : Net) (R : Rc) : Prop := ∀ s, s < N.streams.length → (R.s s).words.length < 4398046511104

set_option maxHeartbeats 1000000 in
theorem rstep_out {L : Lay} {w : World} {N : Net} {R : Rc} (h : RaceAt L w N R) (k : Int) (hk : inB k N.workers.length = false) :
    Calls Tryd.prog 17 #[.pointer (some ⟨L.p, 0, none⟩), .int .i64 k] w fun e w' => e = .returned (.tuple #[.int .i64 0, .int .i64 2]) ∧ w' = w := by
  have HH := hide (hasWorker_calls h k)
  rw [hk] at HH
  go_enter Tryd.func17, Tryd.ntmps17
  go_wp2_with fail
  refine (unhide HH).mono ?_
  rintro e w1 ⟨rfl, rfl⟩
  go_wp2
  go_ret2
  exact ⟨rfl, rfl⟩

set_option maxHeartbeats 1000000 in
theorem rstep_calls {L : Lay} {w : World} {N : Net} {R : Rc} (h : RaceAt L w N R) (k : Nat) (hk : k < N.workers.length) (hsm : SmallR N R) :
    Calls Tryd.prog 17 #[.pointer (some ⟨L.p, 0, none⟩), .int .i64 k] w fun e w' => e = .returned (.tuple #[.int .i64 (stateOf N R k), .int .i64 0]) ∧ Steps1 L w N R k w' := by
  have hin : inB (k : Int) N.workers.length = true := by simp [inB]; omega
  have HH := hide (hasWorker_calls h k)
  rw [hin] at HH
  have hlen := (valid_counts h.ok).2.2.2
  obtain ⟨ga, ca, gw, cw, hva, hvw, hc⟩ := h.forms
  obtain ⟨c0, c1, -, c3⟩ := hc w (Below.refl _ _)
  have d0 := c3 k hk
  have HP : Hid (∀ wx, (∃ q, wx = w.drewN q) → Calls Tryd.prog 30 #[.pointer (some ⟨L.wb k, 0, none⟩), .slice (some ⟨ga, 0, none⟩) N.streams.length ca] wx fun e w' => e = .returned (.int .i64 (stateOf N R k)) ∧ (w'.cell? ⟨L.p, 0, none⟩ = some (.slice (some ⟨ga, 0, none⟩) N.streams.length ca) ∧ w'.cell? ⟨L.p, 1, none⟩ = some (.slice (some ⟨gw, 0, none⟩) N.workers.length cw) ∧ w'.cell? ⟨gw, k, none⟩ = some (.pointer (some ⟨L.wb k, 0, none⟩))) ∧ Steps1 L w N R k w') := by
    rintro wx ⟨q, rfl⟩
    have hx : Below w.heap.size w (w.drewN q) := below_drewN (Below.refl _ _) q
    rw [← hva]
    refine (wstep_race (h.below hx) hk hsm).mono fun e w' hh => ⟨hh.1, ?_, hh.2.after hx⟩
    obtain ⟨L', hr, hg⟩ : ∃ L', (∃ R', RaceAt L' w' N R') ∧ Grew L N w L' := by
      rcases hh.2 with ⟨_, h2⟩ | ⟨_, L', h2, h3, _⟩
      · exact ⟨L, ⟨R, (h.below hx).below h2⟩, Grew.refl _ _ _⟩
      · exact ⟨L', ⟨_, h2⟩, h3⟩
    obtain ⟨R', hr⟩ := hr
    obtain ⟨⟨g1, g2, g3, g4, g5⟩, -⟩ := hg
    obtain ⟨ga', ca', gw', cw', hva', hvw', hc'⟩ := hr.forms
    obtain ⟨x0, x1, -, x3⟩ := hc' w' (Below.refl _ _)
    rw [g1, g2] at x0
    rw [g1, g3] at x1
    have x3 := x3 k hk
    rw [g4] at x3
    rw [g3, hvw] at hvw'
    cases hvw'
    exact ⟨x0, by rw [x1, hvw], x3⟩
  rw [hva] at c0
  rw [hvw] at c1
  have hk0 : (0 : Int) ≤ (k : Int) := by omega
  have hk1 : (k : Int) < (N.workers.length : Int) := by omega
  clear hc c3 hin h hsm hva hvw
  generalize stateOf N R k = sv at *
  generalize N.streams.length = sl at *
  generalize N.workers.length = wl at *
  go_enter Tryd.func17, Tryd.ntmps17
  go_wp2_with fail
  refine (unhide HH).mono ?_
  rintro e w1 ⟨rfl, rfl⟩
  go_wp2
  go_region_held3 (fun w' => w'.cell? ⟨L.p, 0, none⟩ = some (.slice (some ⟨ga, 0, none⟩) sl ca) ∧ w'.cell? ⟨L.p, 1, none⟩ = some (.slice (some ⟨gw, 0, none⟩) wl cw) ∧ w'.cell? ⟨gw, k, none⟩ = some (.pointer (some ⟨L.wb k, 0, none⟩))) (go_keep)
    ((go_at_call 30; refine (unhide HP _ ⟨1, rfl⟩).mono ?_; rintro e w3 ⟨rfl, ⟨s1, s2, s3⟩, hst⟩))
  go_wp2
  go_ret2
  exact ⟨rfl, hst⟩

end Go.Proofs.YthfdgdfnflilfaaDoor
/- Package millrace: Look, Room of a race. -/
namespace Go.Proofs.YthfdgdfnflilfaaDoor
open Go.RowKit Go.Conc

set_option maxRecDepth 100000 in
set_option maxHeartbeats 1000000 in
theorem rlook_calls {L : Lay} {w : World} {N : Net} {R : Rc} (h : RaceAt L w N R) (k : Nat) (hk : k < N.workers.length) :
    Calls Tryd.prog 16 #[.pointer (some ⟨L.p, 0, none⟩), .int .i64 k] w fun e w' => e = .returned (.tuple #[lookVal (R.w k) (stateOf N R k), .int .i64 0]) ∧ Below w.heap.size w w' := by
  have hin : inB (k : Int) N.workers.length = true := by simp [inB]; omega
  have hlen := (valid_counts h.ok).2.2.2
  obtain ⟨ga, ca, gw, cw, hva, hvw, hc⟩ := h.forms
  have HH : Hid (∀ wx, Below w.heap.size w wx → Calls Tryd.prog 28 #[.pointer (some ⟨L.p, 0, none⟩), .int .i64 k] wx fun e w' => e = .returned (.bool true) ∧ w' = wx) := fun wx hx => by
    have := hasWorker_calls (h.below hx) k; rw [hin] at this; exact this
  have HS : Hid (∀ wx, Below (w.heap.size + 1) (w.alloc (.cells #[.int .i64 0, .int .i64 0, .int .i64 0, .int .i64 0, .int .i64 0, .int .i64 0, .int .i64 0] 50)) wx → Calls Tryd.prog 29 #[.pointer (some ⟨L.wb k, 0, none⟩), .slice (some ⟨ga, 0, none⟩) N.streams.length ca] wx fun e w' => e = .returned (lookVal (R.w k) (stateOf N R k)) ∧
      (w'.cell? ⟨L.p, 0, none⟩ = some (.slice (some ⟨ga, 0, none⟩) N.streams.length ca) ∧ w'.cell? ⟨L.p, 1, none⟩ = some (.slice (some ⟨gw, 0, none⟩) N.workers.length cw) ∧ w'.cell? ⟨gw, k, none⟩ = some (.pointer (some ⟨L.wb k, 0, none⟩))) ∧
      w'.heap[w.heap.size]? = some (.cells #[.int .i64 0, .int .i64 0, .int .i64 0, .int .i64 0, .int .i64 0, .int .i64 0, .int .i64 0] 50 (0, 0)) ∧
      Below w.heap.size w w') := fun wx hx => by
    have hr := h.below (below_box hx)
    rw [← hva]
    refine (wlook_calls (hr.wk k hk) hr.env (hr.codeOk hk)).mono fun e w' hh => ?_
    have hx' := hx.trans (hh.2.mono (by have := hx.size; simpa using this))
    obtain ⟨x0, x1, -, x3⟩ := hc w' (below_box hx')
    refine ⟨by rw [hh.1, hr.state hk], ⟨by rw [x0], by rw [x1, hvw], x3 k hk⟩, ?_, below_box hx'⟩
    rw [hx'.block _ (by omega)]
    exact heap_alloc_new _ _
  obtain ⟨c0, c1, -, c3⟩ := hc w (Below.refl _ _)
  have d0 := c3 k hk
  rw [hva] at c0
  rw [hvw] at c1
  have hk0 : (0 : Int) ≤ (k : Int) := by omega
  have hk1 : (k : Int) < (N.workers.length : Int) := by omega
  have hb1 : Below w.heap.size w (w.alloc (.cells #[.int .i64 0, .int .i64 0, .int .i64 0, .int .i64 0, .int .i64 0, .int .i64 0, .int .i64 0] 50)) := (Below.refl _ _).alloc (Nat.le_refl _) _
  have HB1 := hide hb1
  have n0 := World.new_ne w _ c0
  have n1 := World.new_ne w _ d0
  clear hc c3 hin h hva hvw hb1
  simp only [lookVal] at HS ⊢
  generalize (stateOf N R k : Int) = sv at *
  generalize ((R.w k).place : Int) = pl at *
  generalize (R.w k).r 0 = r0 at *
  generalize (R.w k).r 1 = r1 at *
  generalize (R.w k).r 2 = r2 at *
  generalize (R.w k).r 3 = r3 at *
  generalize (R.w k).steps = sp at *
  generalize N.streams.length = sl at *
  generalize N.workers.length = wl at *
  go_enter Tryd.func16, Tryd.ntmps16
  go_wp2_with fail
  refine (unhide HH _ HB1.out).mono ?_
  rintro e w1 ⟨rfl, rfl⟩
  go_wp2
  have hb0 : Below (w.heap.size + 1) (w.alloc (.cells #[.int .i64 0, .int .i64 0, .int .i64 0, .int .i64 0, .int .i64 0, .int .i64 0, .int .i64 0] 50)) (w.alloc (.cells #[.int .i64 0, .int .i64 0, .int .i64 0, .int .i64 0, .int .i64 0, .int .i64 0, .int .i64 0] 50)) := Below.refl _ _
  go_region_held3 (fun w' => w'.cell? ⟨L.p, 0, none⟩ = some (.slice (some ⟨ga, 0, none⟩) sl ca) ∧ w'.cell? ⟨L.p, 1, none⟩ = some (.slice (some ⟨gw, 0, none⟩) wl cw) ∧ w'.cell? ⟨gw, k, none⟩ = some (.pointer (some ⟨L.wb k, 0, none⟩))) (go_keep)
    ((go_at_call 29; refine (unhide HS _ ?_).mono ?_; (repeat (first | exact hb0 | apply Below.drew | apply below_drewN)); rintro e w1 ⟨rfl, ⟨s1, s2, s3⟩, t0, hb1⟩; have z0 := blk_cell t0 0 _ rfl; have z1 := blk_cell t0 1 _ rfl; have z2 := blk_cell t0 2 _ rfl; have z3 := blk_cell t0 3 _ rfl; have z4 := blk_cell t0 4 _ rfl; have z5 := blk_cell t0 5 _ rfl; have z6 := blk_cell t0 6 _ rfl))
  go_wp2
  refine bodyPost_ret (v := .tuple #[.agg #[.int .i64 pl, .int .i64 r0, .int .i64 r1, .int .i64 r2, .int .i64 r3, .int .i64 sp, .int .i64 sv], .int .i64 0]) ?_ rfl ⟨rfl, ?_⟩
  · simp [results, Tryd.results16, go_sem, z0, z1, z2, z3, z4, z5, z6]
  · exact below_set7 hb1 _ _ _ _ _ _ _

end Go.Proofs.YthfdgdfnflilfaaDoor
/- Package millrace: canGoOn, needsRoom, stepFirst of a race. -/
namespace Go.Proofs.YthfdgdfnflilfaaDoor
open Go.RowKit Go.Conc

/-- A worker among the first n of a race that can go on. -/
def goesB (N : Net) (R : Rc) (n : Nat) : Bool := (List.range n).any fun k => stateOf N R k == 1

theorem range_any_succ (p : Nat → Bool) (k : Nat) : (List.range (k + 1)).any p = ((List.range k).any p || p k) := by
  rw [List.range_succ, List.any_append]; simp
theorem range_any_of {p : Nat → Bool} {n k : Nat} (h : k < n) (hp : p k = true) : (List.range n).any p = true := List.any_eq_true.2 ⟨k, List.mem_range.2 h, hp⟩

set_option maxHeartbeats 1000000 in
theorem canGoOn_calls {L : Lay} {w : World} {N : Net} {R : Rc} (h : RaceAt L w N R) :
    Calls Tryd.prog 36 #[.pointer (some ⟨L.p, 0, none⟩)] w fun e w' => e = .returned (.bool (goesB N R N.workers.length)) ∧ Below w.heap.size w w' := by
  have hlen := (valid_counts h.ok).2.2.2
  obtain ⟨ga, ca, gw, cw, hva, hvw, hc⟩ := h.forms
  have HS : Hid (∀ wx, Below w.heap.size w wx → ∀ k, k < N.workers.length → Calls Tryd.prog 48 #[.pointer (some ⟨L.wb k, 0, none⟩), .slice (some ⟨ga, 0, none⟩) N.streams.length ca] wx fun e w' => e = .returned (.int .i64 (stateOf N R k)) ∧ Below w.heap.size w w') := fun wx hx k hk => by
    have hr := h.below hx
    rw [← hva]
    refine (wstate_calls (hr.wk k hk) hr.env (hr.codeOk hk)).mono fun e w' hh => ?_
    exact ⟨by rw [hh.1, hr.state hk], hx.trans (hh.2.mono hx.size)⟩
  have HC : Hid (∀ wx, Below w.heap.size w wx → wx.cell? ⟨L.p, 0, none⟩ = some (.slice (some ⟨ga, 0, none⟩) N.streams.length ca) ∧ wx.cell? ⟨L.p, 1, none⟩ = some (.slice (some ⟨gw, 0, none⟩) N.workers.length cw) ∧ ∀ k, k < N.workers.length → wx.cell? ⟨gw, k, none⟩ = some (.pointer (some ⟨L.wb k, 0, none⟩))) := fun wx hx => by
    obtain ⟨x0, x1, -, x3⟩ := hc wx hx
    exact ⟨by rw [x0, hva], by rw [x1, hvw], x3⟩
  obtain ⟨c0, c1, -⟩ := HC.out w (Below.refl _ _)
  clear hc hva hvw h
  generalize N.streams.length = sl at *
  generalize N.workers.length = wl at *
  go_enter Tryd.func36, Tryd.ntmps36
  go_wp2
  go_loopw [10] (fun i wr => ∃ k : Nat, k ≤ wl ∧ i = .int .i64 k ∧ Below w.heap.size w wr ∧ goesB N R k = false) (fun i _ => wl - (intOf i).toNat)
  case atStart => exact ⟨0, Nat.zero_le _, rfl, Below.refl _ _, rfl⟩
  case round =>
    obtain ⟨k, hk, rfl, hbl, hno⟩ := hrel
    have HNo := hide hno
    clear hno
    by_cases hlt : k < wl
    · obtain ⟨e0, e1, e2⟩ := HC.out wr hbl
      have e3 := e2 k hlt
      have HS1 := hide (HS.out wr hbl k hlt)
      have HG : Hid (goesB N R (k + 1) = (goesB N R k || (stateOf N R k == 1))) := range_any_succ _ k
      have HH : Hid ((stateOf N R k == 1) = true → goesB N R wl = true) := fun hp => range_any_of hlt hp
      clear e2 HS HC
      by_cases hy : stateOf N R k = 1
      · rw [hy] at HS1 HH
        have HH' := hide (HH.out rfl)
        clear HH HG
        go_wp2_with fail
        refine (unhide HS1).mono ?_
        rintro e w1 ⟨rfl, hb1⟩
        go_wp2
        go_ret
        exact ⟨ret_bool HH'.out.symm, hb1⟩
      · have hz : ((stateOf N R k : Int) == 1) = false := by simp; omega
        have HG' : Hid (goesB N R (k + 1) = false) := by
          have := HG.out; rw [HNo.out] at this; rw [this]; show (stateOf N R k == 1) = false; simpa using hy
        clear HH HG
        generalize stateOf N R k = sv at *
        go_wp2_with fail
        refine (unhide HS1).mono ?_
        rintro e w1 ⟨rfl, hb1⟩
        go_wp2
        go_roundw
        case rel => exact ⟨k + 1, by omega, by go_num, hb1, HG'.out⟩
        case measure => simp [intOf]; omega
    · go_wp2
      go_ret
      have e : k = wl := by omega
      exact ⟨ret_bool (by have := HNo.out; rw [e] at this; exact this.symm), hbl⟩

/-- A worker among the first n of a race that waits to write to a stream. -/
def wantsB (N : Net) (R : Rc) (s : Int) (k : Nat) : Bool := stateOf N R k == 3 && (match insAt N k (R.w k) with | some i => i.b == s | none => false)
def needsB (N : Net) (R : Rc) (s : Int) (n : Nat) : Bool := (List.range n).any (wantsB N R s)

set_option maxHeartbeats 1000000 in
theorem rneedsRoom_calls {L : Lay} {w : World} {N : Net} {R : Rc} (h : RaceAt L w N R) (s : Int) :
    Calls Tryd.prog 57 #[.pointer (some ⟨L.p, 0, none⟩), .int .i64 s] w fun e w' => e = .returned (.bool (needsB N R s N.workers.length)) ∧ Below w.heap.size w w' := by
  have hlen := (valid_counts h.ok).2.2.2
  obtain ⟨ga, ca, gw, cw, hva, hvw, hc⟩ := h.forms
  have HS : Hid (∀ wx, Below w.heap.size w wx → ∀ k, k < N.workers.length → Calls Tryd.prog 68 #[.pointer (some ⟨L.wb k, 0, none⟩), .slice (some ⟨ga, 0, none⟩) N.streams.length ca] wx fun e w' => ((∃ b, e = .returned (.tuple #[.int .i64 b, .bool true]) ∧ wantsB N R s k = (b == s)) ∨ (e = .returned (.tuple #[.int .i64 0, .bool false]) ∧ wantsB N R s k = false)) ∧ Below w.heap.size w w') := fun wx hx k hk => by
    have hr := h.below hx
    rw [← hva]
    refine (needsRoom_calls (hr.wk k hk) hr.env (hr.codeOk hk)).mono fun e w' hh => ?_
    refine ⟨?_, hx.trans (hh.2.mono hx.size)⟩
    rcases hh.1 with ⟨h3, i, hi, he⟩ | ⟨h3, he⟩
    · rw [hr.state hk] at h3
      have hi' : insAt N k (R.w k) = some i := hi
      exact Or.inl ⟨i.b, he, by simp [wantsB, h3, hi']⟩
    · rw [hr.state hk] at h3
      exact Or.inr ⟨he, by simp [wantsB, h3]⟩
  have HC : Hid (∀ wx, Below w.heap.size w wx → wx.cell? ⟨L.p, 0, none⟩ = some (.slice (some ⟨ga, 0, none⟩) N.streams.length ca) ∧ wx.cell? ⟨L.p, 1, none⟩ = some (.slice (some ⟨gw, 0, none⟩) N.workers.length cw) ∧ ∀ k, k < N.workers.length → wx.cell? ⟨gw, k, none⟩ = some (.pointer (some ⟨L.wb k, 0, none⟩))) := fun wx hx => by
    obtain ⟨x0, x1, -, x3⟩ := hc wx hx
    exact ⟨by rw [x0, hva], by rw [x1, hvw], x3⟩
  obtain ⟨c0, c1, -⟩ := HC.out w (Below.refl _ _)
  clear hc hva hvw h
  generalize N.streams.length = sl at *
  generalize N.workers.length = wl at *
  go_enter Tryd.func57, Tryd.ntmps57
  go_wp2
  go_loopw [14] (fun i wr => ∃ k : Nat, k ≤ wl ∧ i = .int .i64 k ∧ Below w.heap.size w wr ∧ needsB N R s k = false) (fun i _ => wl - (intOf i).toNat)
  case atStart => exact ⟨0, Nat.zero_le _, rfl, Below.refl _ _, rfl⟩
  case round =>
    obtain ⟨k, hk, rfl, hbl, hno⟩ := hrel
    have HNo := hide hno
    clear hno
    by_cases hlt : k < wl
    · obtain ⟨e0, e1, e2⟩ := HC.out wr hbl
      have e3 := e2 k hlt
      have HS1 := hide (HS.out wr hbl k hlt)
      have HG : Hid (needsB N R s (k + 1) = (needsB N R s k || wantsB N R s k)) := range_any_succ _ k
      have HH : Hid (wantsB N R s k = true → needsB N R s wl = true) := fun hp => range_any_of hlt hp
      clear e2 HS HC
      generalize wantsB N R s k = wv at *
      go_wp2_with fail
      refine (unhide HS1).mono ?_
      rintro e w1 ⟨⟨b, rfl, hy⟩ | ⟨rfl, hy⟩, hb1⟩
      · subst hy
        by_cases hbs : b = s
        · subst hbs
          have HH' := hide (HH.out (by simp))
          clear HH HG
          go_wp2
          go_ret
          exact ⟨ret_bool HH'.out.symm, hb1⟩
        · have hz : (b == s) = false := by simpa using hbs
          have HG' : Hid (needsB N R s (k + 1) = false) := by
            have := HG.out; rw [HNo.out, hz] at this; rw [this]; rfl
          clear HH HG hbs
          go_wp2
          go_roundw
          case rel => exact ⟨k + 1, by omega, by go_num, hb1, HG'.out⟩
          case measure => simp [intOf]; omega
      · subst hy
        have HG' : Hid (needsB N R s (k + 1) = false) := by
          have := HG.out; rw [HNo.out] at this; rw [this]; rfl
        clear HH HG
        go_wp2
        go_roundw
        case rel => exact ⟨k + 1, by omega, by go_num, hb1, HG'.out⟩
        case measure => simp [intOf]; omega
    · go_wp2
      go_ret
      have e : k = wl := by omega
      exact ⟨ret_bool (by have := HNo.out; rw [e] at this; exact this.symm), hbl⟩

/-- The first worker among the first n of a race that can go on. -/
def firstGo (N : Net) (R : Rc) (n : Nat) : Option Nat := (List.range n).find? fun k => stateOf N R k == 1

theorem firstGo_none {N : Net} {R : Rc} {n : Nat} (h : goesB N R n = false) : firstGo N R n = none := by
  simp only [firstGo, List.find?_eq_none, goesB] at *
  intro x hx hp
  have := List.any_eq_false.1 h x hx
  exact this hp
theorem firstGo_some {N : Net} {R : Rc} {n k : Nat} (h : goesB N R k = false) (hk : k < n) (hp : stateOf N R k = 1) : firstGo N R n = some k := by
  have e : List.range n = List.range k ++ (List.range (n - k)).map (k + ·) := by
    rw [← List.range_add]; congr 1; omega
  have hn := firstGo_none h
  unfold firstGo at hn ⊢
  rw [e, List.find?_append, hn]
  obtain ⟨m, hm⟩ : ∃ m, n - k = m + 1 := ⟨n - k - 1, by omega⟩
  rw [hm, List.range_succ_eq_map]
  simp [hp]

/-- What comes of stepFirst. -/
def Firsts (L : Lay) (w : World) (N : Net) (R : Rc) (w' : World) : Prop :=
  (firstGo N R N.workers.length = none ∧ Below w.heap.size w w') ∨
  (∃ k, k < N.workers.length ∧ stateOf N R k = 1 ∧ firstGo N R N.workers.length = some k ∧ ∃ L', RaceAt L' w' N (doStep N R k) ∧ Grew L N w L' ∧ Fr (Foot L N) w w')

set_option maxHeartbeats 1000000 in
theorem stepFirst_calls {L : Lay} {w : World} {N : Net} {R : Rc} (h : RaceAt L w N R) (hsm : SmallR N R) :
    Calls Tryd.prog 25 #[.pointer (some ⟨L.p, 0, none⟩)] w fun e w' => e = .returned (.bool (firstGo N R N.workers.length).isSome) ∧ Firsts L w N R w' := by
  have hlen := (valid_counts h.ok).2.2.2
  obtain ⟨ga, ca, gw, cw, hva, hvw, hc⟩ := h.forms
  have HS : Hid (∀ wx, Below w.heap.size w wx → ∀ k, k < N.workers.length → Calls Tryd.prog 30 #[.pointer (some ⟨L.wb k, 0, none⟩), .slice (some ⟨ga, 0, none⟩) N.streams.length ca] wx fun e w' => e = .returned (.int .i64 (stateOf N R k)) ∧ Steps1 L w N R k w') := fun wx hx k hk => by
    have hr := h.below hx
    rw [← hva]
    refine (wstep_race hr hk hsm).mono fun e w' hh => ?_
    exact ⟨hh.1, hh.2.after hx⟩
  have HC : Hid (∀ wx, Below w.heap.size w wx → wx.cell? ⟨L.p, 0, none⟩ = some (.slice (some ⟨ga, 0, none⟩) N.streams.length ca) ∧ wx.cell? ⟨L.p, 1, none⟩ = some (.slice (some ⟨gw, 0, none⟩) N.workers.length cw) ∧ ∀ k, k < N.workers.length → wx.cell? ⟨gw, k, none⟩ = some (.pointer (some ⟨L.wb k, 0, none⟩))) := fun wx hx => by
    obtain ⟨x0, x1, -, x3⟩ := hc wx hx
    exact ⟨by rw [x0, hva], by rw [x1, hvw], x3⟩
  have HF : Hid (∀ w', (firstGo N R N.workers.length = none ∧ Below w.heap.size w w') ∨
    (∃ k, k < N.workers.length ∧ stateOf N R k = 1 ∧ firstGo N R N.workers.length = some k ∧ ∃ L', RaceAt L' w' N (doStep N R k) ∧ Grew L N w L' ∧ Fr (Foot L N) w w') → Firsts L w N R w') := fun _ hx => hx
  generalize Firsts L w N R = Post at *
  obtain ⟨c0, c1, -⟩ := HC.out w (Below.refl _ _)
  clear hc hva hvw h hsm
  generalize N.streams.length = sl at *
  generalize N.workers.length = wl at *
  go_enter Tryd.func25, Tryd.ntmps25
  go_wp2
  go_loopw [10] (fun i wr => ∃ k : Nat, k ≤ wl ∧ i = .int .i64 k ∧ Below w.heap.size w wr ∧ goesB N R k = false) (fun i _ => wl - (intOf i).toNat)
  case atStart => exact ⟨0, Nat.zero_le _, rfl, Below.refl _ _, rfl⟩
  case round =>
    obtain ⟨k, hk, rfl, hbl, hno⟩ := hrel
    have HNo := hide hno
    clear hno
    by_cases hlt : k < wl
    · obtain ⟨e0, e1, e2⟩ := HC.out wr hbl
      have e3 := e2 k hlt
      have HS1 := hide (HS.out wr hbl k hlt)
      have HG : Hid (goesB N R (k + 1) = (goesB N R k || (stateOf N R k == 1))) := range_any_succ _ k
      clear e2 HS HC
      by_cases hy : stateOf N R k = 1
      · have HY := hide hy
        rw [hy] at HS1
        clear HG hy
        go_wp2_with fail
        refine (unhide HS1).mono ?_
        rintro e w1 ⟨rfl, hst⟩
        go_wp2
        go_ret
        rcases hst with ⟨h1, -⟩ | ⟨-, h2⟩
        · exact absurd HY.out h1
        · exact ⟨ret_bool (by rw [firstGo_some HNo.out hlt HY.out]; rfl), HF.out _ (Or.inr ⟨k, hlt, HY.out, firstGo_some HNo.out hlt HY.out, h2⟩)⟩
      · have hz : ((stateOf N R k : Int) == 1) = false := by simp; omega
        have HG' : Hid (goesB N R (k + 1) = false) := by
          have := HG.out; rw [HNo.out] at this; rw [this]; show (stateOf N R k == 1) = false; simpa using hy
        have HST : Hid (∀ w1, Steps1 L w N R k w1 → Below w.heap.size w w1) := fun w1 hs => by
          rcases hs with ⟨-, hb⟩ | ⟨h1, -⟩
          · exact hb
          · exact absurd h1 hy
        clear HG
        generalize stateOf N R k = sv at *
        go_wp2_with fail
        refine (unhide HS1).mono ?_
        rintro e w1 ⟨rfl, hst⟩
        have hb1 := HST.out w1 hst
        go_wp2
        go_roundw
        case rel => exact ⟨k + 1, by omega, by go_num, hb1, HG'.out⟩
        case measure => simp [intOf]; omega
    · go_wp2
      go_ret
      have e : k = wl := by omega
      subst e
      exact ⟨ret_bool (by rw [firstGo_none HNo.out]; rfl), HF.out _ (Or.inl ⟨firstGo_none HNo.out, hbl⟩)⟩

end Go.Proofs.YthfdgdfnflilfaaDoor

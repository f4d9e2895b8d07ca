/- Part 6: Workers5, Workers6. -/
import Derived.WalkMore
import Derived.StillTailTactics
import Derived.Test.YthfdgdfnflilfaaPart5
/- Package workers: Step: the instructions that go along no stream. (Made by mkw5.py.) -/
namespace Go.Proofs.Ythfdgdfnflilfaa
open Go.RowKit Go.Conc

/-- What a step along no stream does: the worker alone has turned. -/
def Alone (w : World) (b : Nat) (vc : Value) (code : List Ins) (y : Wk) (e : Ending) (w' : World) : Prop :=
  e = .returned (.int .i64 1) ∧ WkAt w' b vc code y ∧ Fr (fun k => k = b) w w'

/-- The end of every step that is done: the place and the count. -/
theorem alone_end {w w2 : World} {b : Nat} {vc : Value} {code : List Ins} {x y : Wk} (hf : Fr (fun k => k = b) w w2) (h : WkAt w2 b vc code x) (p : Int) (hp : (y.place : Int) = p) (hple : y.place ≤ code.length) (hr : y.r = x.r) (hs : y.steps = wrap64 (x.steps + 1)) :
    Alone w b vc code y (.returned (.int .i64 1)) ((w2.setCell ⟨b, 1, none⟩ (.int .i64 p)).setCell ⟨b, 6, none⟩ (.int .i64 (wrap64 (x.steps + 1)))) := by
  refine ⟨rfl, ⟨?_, ?_, hple, h.small⟩, ?_⟩
  · have h1 := blk_set h.blk 1 (.int .i64 p)
    have h2 := blk_set h1 6 (.int .i64 (wrap64 (x.steps + 1)))
    rw [hr, hs, hp]
    simpa using h2
  · refine own_of_block h.own fun g hg => ?_
    rw [Below.heap_setCell _ _ _ _ (h.ne_own hg), Below.heap_setCell _ _ _ _ (h.ne_own hg)]
  · exact Fr.setCell (S := fun k => k = b) (Fr.setCell (S := fun k => k = b) hf (p := ⟨b, 1, none⟩) (Or.inr rfl) _) (p := ⟨b, 6, none⟩) (Or.inr rfl) _

/-- A register is set. -/
theorem WkAt.reg {w : World} {b : Nat} {vc : Value} {code : List Ins} {x : Wk} (h : WkAt w b vc code x) (k : Nat) (hk : k < 4) (v : Int) : WkAt (w.setCell ⟨b, 2 + k, none⟩ (.int .i64 v)) b vc code ⟨x.place, upd x.r k v, x.steps⟩ := by
  refine ⟨?_, ?_, h.le, h.small⟩
  · have h1 := blk_set h.blk (2 + k) (.int .i64 v)
    rw [h1]
    congr 2
    rcases (show k = 0 ∨ k = 1 ∨ k = 2 ∨ k = 3 by omega) with rfl | rfl | rfl | rfl <;> simp [upd]
  · exact own_of_block h.own fun g hg => Below.heap_setCell _ _ _ _ (h.ne_own hg)

theorem WkAt.regCell {w : World} {b : Nat} {vc : Value} {code : List Ins} {x : Wk} (h : WkAt w b vc code x) (k : Nat) (hk : k < 4) : w.cell? ⟨b, 2 + k, none⟩ = some (.int .i64 (x.r k)) := by
  rcases (show k = 0 ∨ k = 1 ∨ k = 2 ∨ k = 3 by omega) with rfl | rfl | rfl | rfl
  · exact row_cell h.blk rfl
  · exact row_cell h.blk rfl
  · exact row_cell h.blk rfl
  · exact row_cell h.blk rfl

set_option maxRecDepth 100000 in
set_option maxHeartbeats 2000000 in
theorem wstep_goto {w : World} {b : Nat} {vc va : Value} {code : List Ins} {x : Wk} {n : Nat} {st : Nat → Nat} (hw : WkAt w b vc code x) (ha : Along w va st n) (i : Ins) (hi : code[x.place]? = some i) (hok : opsValid i code.length n = true) (ho : i.op = 9) :
    Calls Try.prog 28 #[.pointer (some ⟨b, 0, none⟩), va] w fun e w' => Alone w b vc code (nextW x i none) e w' := by
  obtain ⟨c0, c1, -, -, -, -, -, -⟩ := hw.cells
  obtain ⟨a, cap, hvc, hcap, hcode⟩ := code_form hw.own
  have hle := hw.le
  have hsm := hw.small
  have hlt : x.place < code.length := (List.getElem?_eq_some_iff.1 hi).1
  have hie : code[x.place] = i := (List.getElem?_eq_some_iff.1 hi).2
  obtain ⟨g, ha', d0, d1, d2, d3⟩ := hcode x.place hlt
  rw [hie] at d0 d1 d2 d3
  obtain ⟨ga, gcap, rfl, -, -⟩ := along_at ha
  have HOK := hide hok
  obtain ⟨op, ia, ib, ic⟩ := i
  dsimp only at *
  have hpl := valid_place hok (Or.inr (Or.inr ho))
  dsimp only at hpl
  subst ho
  have HW := hide hw
  have hd0 : decide ((code.length : Int) ≤ (x.place : Int)) = false := by simp; omega
  have hp0 : (0 : Int) ≤ (x.place : Int) := by omega
  have hp1 : (x.place : Int) < (code.length : Int) := by omega
  rw [hvc, ha'] at c0
  have wrp : IntKind.i64.wrap ((x.place : Int) + 1) = (x.place : Int) + 1 := by rw [IntKind.wrap_i64]; omega
  clear hcode hok hi hie hle hw ha
  go_enter Try.func28, Try.ntmps28
  go_wp2
  refine wp_scope_ahead 3 ?_
  generalize hJ : jumpQ Try.prog _ _ 3 = J
  have HJ := hide hJ
  clear hJ
  go_wp2
  go_quiet (fail)
  go_wp2
  obtain ⟨w1, hw1⟩ : ∃ w1, w1 = w.drewN nq := ⟨_, rfl⟩
  rw [← hw1]
  have hcell : ∀ p, w1.cell? p = w.cell? p := fun p => by rw [hw1]; rfl
  rw [← hcell] at c0 c1 d0 d1 d2 d3
  clear hcell
  have hbl : Below w.heap.size w w1 := by rw [hw1]; exact below_drewN (Below.refl _ _) _
  clear hw1
  have n0 := World.new_ne w1 _ c0
  have n2 := World.new_ne w1 _ d0
  go_region_held3 (fun w' => w'.cell? ⟨b, 0, none⟩ = some (.slice (some ⟨g, 0, none⟩) code.length cap) ∧ w'.cell? ⟨b, 1, none⟩ = some (.int .i64 x.place) ∧ w'.cell? ⟨g, x.place * 4, none⟩ = some (.int .i64 9) ∧ w'.cell? ⟨g, x.place * 4 + 1, none⟩ = some (.int .i64 ia) ∧ w'.cell? ⟨g, x.place * 4 + 2, none⟩ = some (.int .i64 ib) ∧ w'.cell? ⟨g, x.place * 4 + 3, none⟩ = some (.int .i64 ic)) (go_keep) (fail)
  clear wrp
  have hbl2 : Below w.heap.size w (w1.alloc (.cells #[.int .i64 9, .int .i64 ia, .int .i64 ib, .int .i64 ic] 56)).drew := (hbl.alloc hbl.size _).drew
  have a0 : (w1.alloc (.cells #[.int .i64 9, .int .i64 ia, .int .i64 ib, .int .i64 ic] 56)).drew.cell? ⟨w1.heap.size, 0, none⟩ = some (.int .i64 9) := by simp [go_sem]
  have a1 : (w1.alloc (.cells #[.int .i64 9, .int .i64 ia, .int .i64 ib, .int .i64 ic] 56)).drew.cell? ⟨w1.heap.size, 1, none⟩ = some (.int .i64 ia) := by simp [go_sem]
  have a2 : (w1.alloc (.cells #[.int .i64 9, .int .i64 ia, .int .i64 ib, .int .i64 ic] 56)).drew.cell? ⟨w1.heap.size, 2, none⟩ = some (.int .i64 ib) := by simp [go_sem]
  have a3 : (w1.alloc (.cells #[.int .i64 9, .int .i64 ia, .int .i64 ib, .int .i64 ic] 56)).drew.cell? ⟨w1.heap.size, 3, none⟩ = some (.int .i64 ic) := by simp [go_sem]
  have HNE : Hid (b ≠ w1.heap.size) := fun e => n0 e.symm
  generalize (w1.alloc (.cells #[.int .i64 9, .int .i64 ia, .int .i64 ib, .int .i64 ic] 56)).drew = w2 at *
  clear c0 c1 d0 d1 d2 d3 n0 n2
  have hw2 := HW.out.below hbl2
  obtain ⟨c0, c1, c2, c3, c4, c5, c6, cf⟩ := hw2.cells
  have f1 := cf 1
  have f6 := cf 6
  have HCF := hide cf
  have HF2 : Hid (Fr (fun k => k = b) w w2) := Fr.of_below hbl2
  have HW2 := hide hw2
  clear cf hw2
  go_wp2
  refine wp_goto ?_
  show J (.goto 4) _ _
  rw [← HJ.out]
  refine ⟨_, rfl, ?_⟩
  clear HJ
  generalize hJ1 : jumpQ Try.prog _ _ 2 = J1
  have HJ1 := hide hJ1
  clear hJ1
  go_wp2
  go_step3
  go_wp2
  rw [← HJ1.out]
  refine jumpQ_ret ?_
  go_ret
  exact alone_end (y := nextW x ⟨9, ia, ib, ic⟩ none) HF2.out HW2.out ic (by simp [nextW]; omega) (by simp [nextW]; omega) (by simp [nextW]) (by simp [nextW])

set_option maxRecDepth 100000 in
set_option maxHeartbeats 2000000 in
theorem wstep_if_no {w : World} {b : Nat} {vc va : Value} {code : List Ins} {x : Wk} {n : Nat} {st : Nat → Nat} (hw : WkAt w b vc code x) (ha : Along w va st n) (i : Ins) (hi : code[x.place]? = some i) (hok : opsValid i code.length n = true) (ho : i.op = 8) (hz : x.r i.a.toNat = 0) :
    Calls Try.prog 28 #[.pointer (some ⟨b, 0, none⟩), va] w fun e w' => Alone w b vc code (nextW x i none) e w' := by
  obtain ⟨c0, c1, -, -, -, -, -, -⟩ := hw.cells
  obtain ⟨a, cap, hvc, hcap, hcode⟩ := code_form hw.own
  have hle := hw.le
  have hsm := hw.small
  have hlt : x.place < code.length := (List.getElem?_eq_some_iff.1 hi).1
  have hie : code[x.place] = i := (List.getElem?_eq_some_iff.1 hi).2
  obtain ⟨g, ha', d0, d1, d2, d3⟩ := hcode x.place hlt
  rw [hie] at d0 d1 d2 d3
  obtain ⟨ga, gcap, rfl, -, -⟩ := along_at ha
  have HOK := hide hok
  obtain ⟨op, ia, ib, ic⟩ := i
  dsimp only at *
  have hpl := valid_place hok (Or.inr (Or.inl ho))
  have hrg := valid_reg hok (by dsimp only; omega)
  dsimp only at hpl hrg
  subst ho
  obtain ⟨hr0, hr1⟩ := hrg
  obtain ⟨ka, rfl⟩ := Int.eq_ofNat_of_zero_le hr0
  have hka : ka < 4 := by omega
  
  simp only [Int.toNat_natCast] at hz
  have HZ := hide hz
  clear hz
  have HW := hide hw
  have hd0 : decide ((code.length : Int) ≤ (x.place : Int)) = false := by simp; omega
  have hp0 : (0 : Int) ≤ (x.place : Int) := by omega
  have hp1 : (x.place : Int) < (code.length : Int) := by omega
  rw [hvc, ha'] at c0
  have wrp : IntKind.i64.wrap ((x.place : Int) + 1) = (x.place : Int) + 1 := by rw [IntKind.wrap_i64]; omega
  clear hcode hok hi hie hle hw ha
  go_enter Try.func28, Try.ntmps28
  go_wp2
  refine wp_scope_ahead 3 ?_
  generalize hJ : jumpQ Try.prog _ _ 3 = J
  have HJ := hide hJ
  clear hJ
  go_wp2
  go_quiet (fail)
  go_wp2
  obtain ⟨w1, hw1⟩ : ∃ w1, w1 = w.drewN nq := ⟨_, rfl⟩
  rw [← hw1]
  have hcell : ∀ p, w1.cell? p = w.cell? p := fun p => by rw [hw1]; rfl
  rw [← hcell] at c0 c1 d0 d1 d2 d3
  clear hcell
  have hbl : Below w.heap.size w w1 := by rw [hw1]; exact below_drewN (Below.refl _ _) _
  clear hw1
  have n0 := World.new_ne w1 _ c0
  have n2 := World.new_ne w1 _ d0
  go_region_held3 (fun w' => w'.cell? ⟨b, 0, none⟩ = some (.slice (some ⟨g, 0, none⟩) code.length cap) ∧ w'.cell? ⟨b, 1, none⟩ = some (.int .i64 x.place) ∧ w'.cell? ⟨g, x.place * 4, none⟩ = some (.int .i64 8) ∧ w'.cell? ⟨g, x.place * 4 + 1, none⟩ = some (.int .i64 ka) ∧ w'.cell? ⟨g, x.place * 4 + 2, none⟩ = some (.int .i64 ib) ∧ w'.cell? ⟨g, x.place * 4 + 3, none⟩ = some (.int .i64 ic)) (go_keep) (fail)
  clear wrp
  have hbl2 : Below w.heap.size w (w1.alloc (.cells #[.int .i64 8, .int .i64 ka, .int .i64 ib, .int .i64 ic] 56)).drew := (hbl.alloc hbl.size _).drew
  have a0 : (w1.alloc (.cells #[.int .i64 8, .int .i64 ka, .int .i64 ib, .int .i64 ic] 56)).drew.cell? ⟨w1.heap.size, 0, none⟩ = some (.int .i64 8) := by simp [go_sem]
  have a1 : (w1.alloc (.cells #[.int .i64 8, .int .i64 ka, .int .i64 ib, .int .i64 ic] 56)).drew.cell? ⟨w1.heap.size, 1, none⟩ = some (.int .i64 ka) := by simp [go_sem]
  have a2 : (w1.alloc (.cells #[.int .i64 8, .int .i64 ka, .int .i64 ib, .int .i64 ic] 56)).drew.cell? ⟨w1.heap.size, 2, none⟩ = some (.int .i64 ib) := by simp [go_sem]
  have a3 : (w1.alloc (.cells #[.int .i64 8, .int .i64 ka, .int .i64 ib, .int .i64 ic] 56)).drew.cell? ⟨w1.heap.size, 3, none⟩ = some (.int .i64 ic) := by simp [go_sem]
  have HNE : Hid (b ≠ w1.heap.size) := fun e => n0 e.symm
  generalize (w1.alloc (.cells #[.int .i64 8, .int .i64 ka, .int .i64 ib, .int .i64 ic] 56)).drew = w2 at *
  clear c0 c1 d0 d1 d2 d3 n0 n2
  have hw2 := HW.out.below hbl2
  obtain ⟨c0, c1, c2, c3, c4, c5, c6, cf⟩ := hw2.cells
  have f1 := cf 1
  have f6 := cf 6
  have HCF := hide cf
  have HF2 : Hid (Fr (fun k => k = b) w w2) := Fr.of_below hbl2
  have HW2 := hide hw2
  clear cf hw2
  go_wp2
  refine wp_goto ?_
  show J (.goto 3) _ _
  rw [← HJ.out]
  refine ⟨_, rfl, ?_⟩
  clear HJ
  generalize hJ1 : jumpQ Try.prog _ _ 2 = J1
  have HJ1 := hide hJ1
  clear hJ1
  have cr := HW2.out.regCell ka hka
  rw [HZ.out] at cr
  have hk0 : (0 : Int) ≤ (ka : Int) := by omega
  have hk1 : (ka : Int) < 4 := by omega
  go_wp2
  go_quiet (fail)
  obtain ⟨w3, hw3⟩ : ∃ w3, w3 = w2.drewN nq := ⟨_, rfl⟩
  rw [← hw3]
  have hbl3 : Below w2.heap.size w2 w3 := by rw [hw3]; exact below_drewN (Below.refl _ _) _
  have hw3' := HW2.out.below hbl3
  have HF3 : Hid (Fr (fun k => k = b) w w3) := by unfold Hid; rw [hw3]; exact HF2.out.drewN _
  have hcell : ∀ p, w3.cell? p = w2.cell? p := fun p => by rw [hw3]; rfl
  rw [← hcell] at a3
  clear hcell hw3 cr c0 c1 c2 c3 c4 c5 c6 f1 f6 a0 a1 a2
  obtain ⟨c0, c1, c2, c3, c4, c5, c6, cf⟩ := hw3'.cells
  have f1 := cf 1
  have f6 := cf 6
  have HW3 := hide hw3'
  clear cf hw3'
  go_wp2
  refine wp_goto ?_
  show J1 (.goto 6) _ _
  rw [← HJ1.out]
  refine ⟨_, rfl, ?_⟩
  clear HJ1
  generalize hJ2 : jumpQ Try.prog _ _ 1 = J2
  have HJ2 := hide hJ2
  clear hJ2
  go_wp2
  rw [← HJ2.out]
  refine jumpQ_ret ?_
  go_ret
  exact alone_end (y := nextW x ⟨8, ka, ib, ic⟩ none) HF3.out HW3.out _ (by simp [nextW, HZ.out]) (by simp [nextW, HZ.out]; omega) (by simp [nextW]) (by simp [nextW])

set_option maxRecDepth 100000 in
set_option maxHeartbeats 2000000 in
theorem wstep_if_yes {w : World} {b : Nat} {vc va : Value} {code : List Ins} {x : Wk} {n : Nat} {st : Nat → Nat} (hw : WkAt w b vc code x) (ha : Along w va st n) (i : Ins) (hi : code[x.place]? = some i) (hok : opsValid i code.length n = true) (ho : i.op = 8) (hz : x.r i.a.toNat ≠ 0) :
    Calls Try.prog 28 #[.pointer (some ⟨b, 0, none⟩), va] w fun e w' => Alone w b vc code (nextW x i none) e w' := by
  obtain ⟨c0, c1, -, -, -, -, -, -⟩ := hw.cells
  obtain ⟨a, cap, hvc, hcap, hcode⟩ := code_form hw.own
  have hle := hw.le
  have hsm := hw.small
  have hlt : x.place < code.length := (List.getElem?_eq_some_iff.1 hi).1
  have hie : code[x.place] = i := (List.getElem?_eq_some_iff.1 hi).2
  obtain ⟨g, ha', d0, d1, d2, d3⟩ := hcode x.place hlt
  rw [hie] at d0 d1 d2 d3
  obtain ⟨ga, gcap, rfl, -, -⟩ := along_at ha
  have HOK := hide hok
  obtain ⟨op, ia, ib, ic⟩ := i
  dsimp only at *
  have hpl := valid_place hok (Or.inr (Or.inl ho))
  have hrg := valid_reg hok (by dsimp only; omega)
  dsimp only at hpl hrg
  subst ho
  obtain ⟨hr0, hr1⟩ := hrg
  obtain ⟨ka, rfl⟩ := Int.eq_ofNat_of_zero_le hr0
  have hka : ka < 4 := by omega
  
  simp only [Int.toNat_natCast] at hz
  have hzz : ((x.r ka) == 0) = false := by simpa using hz
  have HZ := hide hz
  clear hz
  have HW := hide hw
  have hd0 : decide ((code.length : Int) ≤ (x.place : Int)) = false := by simp; omega
  have hp0 : (0 : Int) ≤ (x.place : Int) := by omega
  have hp1 : (x.place : Int) < (code.length : Int) := by omega
  rw [hvc, ha'] at c0
  have wrp : IntKind.i64.wrap ((x.place : Int) + 1) = (x.place : Int) + 1 := by rw [IntKind.wrap_i64]; omega
  clear hcode hok hi hie hle hw ha
  go_enter Try.func28, Try.ntmps28
  go_wp2
  refine wp_scope_ahead 3 ?_
  generalize hJ : jumpQ Try.prog _ _ 3 = J
  have HJ := hide hJ
  clear hJ
  go_wp2
  go_quiet (fail)
  go_wp2
  obtain ⟨w1, hw1⟩ : ∃ w1, w1 = w.drewN nq := ⟨_, rfl⟩
  rw [← hw1]
  have hcell : ∀ p, w1.cell? p = w.cell? p := fun p => by rw [hw1]; rfl
  rw [← hcell] at c0 c1 d0 d1 d2 d3
  clear hcell
  have hbl : Below w.heap.size w w1 := by rw [hw1]; exact below_drewN (Below.refl _ _) _
  clear hw1
  have n0 := World.new_ne w1 _ c0
  have n2 := World.new_ne w1 _ d0
  go_region_held3 (fun w' => w'.cell? ⟨b, 0, none⟩ = some (.slice (some ⟨g, 0, none⟩) code.length cap) ∧ w'.cell? ⟨b, 1, none⟩ = some (.int .i64 x.place) ∧ w'.cell? ⟨g, x.place * 4, none⟩ = some (.int .i64 8) ∧ w'.cell? ⟨g, x.place * 4 + 1, none⟩ = some (.int .i64 ka) ∧ w'.cell? ⟨g, x.place * 4 + 2, none⟩ = some (.int .i64 ib) ∧ w'.cell? ⟨g, x.place * 4 + 3, none⟩ = some (.int .i64 ic)) (go_keep) (fail)
  clear wrp
  have hbl2 : Below w.heap.size w (w1.alloc (.cells #[.int .i64 8, .int .i64 ka, .int .i64 ib, .int .i64 ic] 56)).drew := (hbl.alloc hbl.size _).drew
  have a0 : (w1.alloc (.cells #[.int .i64 8, .int .i64 ka, .int .i64 ib, .int .i64 ic] 56)).drew.cell? ⟨w1.heap.size, 0, none⟩ = some (.int .i64 8) := by simp [go_sem]
  have a1 : (w1.alloc (.cells #[.int .i64 8, .int .i64 ka, .int .i64 ib, .int .i64 ic] 56)).drew.cell? ⟨w1.heap.size, 1, none⟩ = some (.int .i64 ka) := by simp [go_sem]
  have a2 : (w1.alloc (.cells #[.int .i64 8, .int .i64 ka, .int .i64 ib, .int .i64 ic] 56)).drew.cell? ⟨w1.heap.size, 2, none⟩ = some (.int .i64 ib) := by simp [go_sem]
  have a3 : (w1.alloc (.cells #[.int .i64 8, .int .i64 ka, .int .i64 ib, .int .i64 ic] 56)).drew.cell? ⟨w1.heap.size, 3, none⟩ = some (.int .i64 ic) := by simp [go_sem]
  have HNE : Hid (b ≠ w1.heap.size) := fun e => n0 e.symm
  generalize (w1.alloc (.cells #[.int .i64 8, .int .i64 ka, .int .i64 ib, .int .i64 ic] 56)).drew = w2 at *
  clear c0 c1 d0 d1 d2 d3 n0 n2
  have hw2 := HW.out.below hbl2
  obtain ⟨c0, c1, c2, c3, c4, c5, c6, cf⟩ := hw2.cells
  have f1 := cf 1
  have f6 := cf 6
  have HCF := hide cf
  have HF2 : Hid (Fr (fun k => k = b) w w2) := Fr.of_below hbl2
  have HW2 := hide hw2
  clear cf hw2
  go_wp2
  refine wp_goto ?_
  show J (.goto 3) _ _
  rw [← HJ.out]
  refine ⟨_, rfl, ?_⟩
  clear HJ
  generalize hJ1 : jumpQ Try.prog _ _ 2 = J1
  have HJ1 := hide hJ1
  clear hJ1
  have cr := HW2.out.regCell ka hka
  have hk0 : (0 : Int) ≤ (ka : Int) := by omega
  have hk1 : (ka : Int) < 4 := by omega
  go_wp2
  go_quiet (fail)
  obtain ⟨w3, hw3⟩ : ∃ w3, w3 = w2.drewN nq := ⟨_, rfl⟩
  rw [← hw3]
  have hbl3 : Below w2.heap.size w2 w3 := by rw [hw3]; exact below_drewN (Below.refl _ _) _
  have hw3' := HW2.out.below hbl3
  have HF3 : Hid (Fr (fun k => k = b) w w3) := by unfold Hid; rw [hw3]; exact HF2.out.drewN _
  have hcell : ∀ p, w3.cell? p = w2.cell? p := fun p => by rw [hw3]; rfl
  rw [← hcell] at a3
  clear hcell hw3 cr c0 c1 c2 c3 c4 c5 c6 f1 f6 a0 a1 a2
  obtain ⟨c0, c1, c2, c3, c4, c5, c6, cf⟩ := hw3'.cells
  have f1 := cf 1
  have f6 := cf 6
  have HW3 := hide hw3'
  clear cf hw3'
  go_wp2
  go_step3
  go_wp2
  go_step3
  go_wp2
  rw [← HJ1.out]
  refine jumpQ_ret ?_
  go_ret
  exact alone_end (y := nextW x ⟨8, ka, ib, ic⟩ none) HF3.out HW3.out ic (by simp [nextW, HZ.out]; omega) (by simp [nextW, HZ.out]; omega) (by simp [nextW]) (by simp [nextW])

set_option maxRecDepth 100000 in
set_option maxHeartbeats 2000000 in
theorem wstep_set {w : World} {b : Nat} {vc va : Value} {code : List Ins} {x : Wk} {n : Nat} {st : Nat → Nat} (hw : WkAt w b vc code x) (ha : Along w va st n) (i : Ins) (hi : code[x.place]? = some i) (hok : opsValid i code.length n = true) (ho : i.op = 3) :
    Calls Try.prog 28 #[.pointer (some ⟨b, 0, none⟩), va] w fun e w' => Alone w b vc code (nextW x i none) e w' := by
  obtain ⟨c0, c1, -, -, -, -, -, -⟩ := hw.cells
  obtain ⟨a, cap, hvc, hcap, hcode⟩ := code_form hw.own
  have hle := hw.le
  have hsm := hw.small
  have hlt : x.place < code.length := (List.getElem?_eq_some_iff.1 hi).1
  have hie : code[x.place] = i := (List.getElem?_eq_some_iff.1 hi).2
  obtain ⟨g, ha', d0, d1, d2, d3⟩ := hcode x.place hlt
  rw [hie] at d0 d1 d2 d3
  obtain ⟨ga, gcap, rfl, -, -⟩ := along_at ha
  have HOK := hide hok
  obtain ⟨op, ia, ib, ic⟩ := i
  dsimp only at *
  have hrg := valid_reg hok (by dsimp only; omega)
  dsimp only at hrg
  subst ho
  obtain ⟨hr0, hr1⟩ := hrg
  obtain ⟨ka, rfl⟩ := Int.eq_ofNat_of_zero_le hr0
  have hka : ka < 4 := by omega
  have HW := hide hw
  have hd0 : decide ((code.length : Int) ≤ (x.place : Int)) = false := by simp; omega
  have hp0 : (0 : Int) ≤ (x.place : Int) := by omega
  have hp1 : (x.place : Int) < (code.length : Int) := by omega
  rw [hvc, ha'] at c0
  have wrp : IntKind.i64.wrap ((x.place : Int) + 1) = (x.place : Int) + 1 := by rw [IntKind.wrap_i64]; omega
  clear hcode hok hi hie hle hw ha
  go_enter Try.func28, Try.ntmps28
  go_wp2
  refine wp_scope_ahead 3 ?_
  generalize hJ : jumpQ Try.prog _ _ 3 = J
  have HJ := hide hJ
  clear hJ
  go_wp2
  go_quiet (fail)
  go_wp2
  obtain ⟨w1, hw1⟩ : ∃ w1, w1 = w.drewN nq := ⟨_, rfl⟩
  rw [← hw1]
  have hcell : ∀ p, w1.cell? p = w.cell? p := fun p => by rw [hw1]; rfl
  rw [← hcell] at c0 c1 d0 d1 d2 d3
  clear hcell
  have hbl : Below w.heap.size w w1 := by rw [hw1]; exact below_drewN (Below.refl _ _) _
  clear hw1
  have n0 := World.new_ne w1 _ c0
  have n2 := World.new_ne w1 _ d0
  go_region_held3 (fun w' => w'.cell? ⟨b, 0, none⟩ = some (.slice (some ⟨g, 0, none⟩) code.length cap) ∧ w'.cell? ⟨b, 1, none⟩ = some (.int .i64 x.place) ∧ w'.cell? ⟨g, x.place * 4, none⟩ = some (.int .i64 3) ∧ w'.cell? ⟨g, x.place * 4 + 1, none⟩ = some (.int .i64 ka) ∧ w'.cell? ⟨g, x.place * 4 + 2, none⟩ = some (.int .i64 ib) ∧ w'.cell? ⟨g, x.place * 4 + 3, none⟩ = some (.int .i64 ic)) (go_keep) (fail)
  clear wrp
  have hbl2 : Below w.heap.size w (w1.alloc (.cells #[.int .i64 3, .int .i64 ka, .int .i64 ib, .int .i64 ic] 56)).drew := (hbl.alloc hbl.size _).drew
  have a0 : (w1.alloc (.cells #[.int .i64 3, .int .i64 ka, .int .i64 ib, .int .i64 ic] 56)).drew.cell? ⟨w1.heap.size, 0, none⟩ = some (.int .i64 3) := by simp [go_sem]
  have a1 : (w1.alloc (.cells #[.int .i64 3, .int .i64 ka, .int .i64 ib, .int .i64 ic] 56)).drew.cell? ⟨w1.heap.size, 1, none⟩ = some (.int .i64 ka) := by simp [go_sem]
  have a2 : (w1.alloc (.cells #[.int .i64 3, .int .i64 ka, .int .i64 ib, .int .i64 ic] 56)).drew.cell? ⟨w1.heap.size, 2, none⟩ = some (.int .i64 ib) := by simp [go_sem]
  have a3 : (w1.alloc (.cells #[.int .i64 3, .int .i64 ka, .int .i64 ib, .int .i64 ic] 56)).drew.cell? ⟨w1.heap.size, 3, none⟩ = some (.int .i64 ic) := by simp [go_sem]
  have HNE : Hid (b ≠ w1.heap.size) := fun e => n0 e.symm
  generalize (w1.alloc (.cells #[.int .i64 3, .int .i64 ka, .int .i64 ib, .int .i64 ic] 56)).drew = w2 at *
  clear c0 c1 d0 d1 d2 d3 n0 n2
  have hw2 := HW.out.below hbl2
  obtain ⟨c0, c1, c2, c3, c4, c5, c6, cf⟩ := hw2.cells
  have f1 := cf 1
  have f6 := cf 6
  have HCF := hide cf
  have HF2 : Hid (Fr (fun k => k = b) w w2) := Fr.of_below hbl2
  have HW2 := hide hw2
  clear cf hw2
  go_wp2
  refine wp_goto ?_
  show J (.goto 2) _ _
  rw [← HJ.out]
  refine ⟨_, rfl, ?_⟩
  clear HJ
  generalize hJ1 : jumpQ Try.prog _ _ 2 = J1
  have HJ1 := hide hJ1
  clear hJ1
  have cr := HW2.out.regCell ka hka
  have fr := HCF.out (2 + ka)
  have hk0 : (0 : Int) ≤ (ka : Int) := by omega
  have hk1 : (ka : Int) < 4 := by omega
  have nb : b ≠ w1.heap.size := HNE.out
  go_wp2
  go_region_held3 (fun w' => w'.cell? ⟨w1.heap.size, 1, none⟩ = some (.int .i64 ka) ∧ w'.cell? ⟨w1.heap.size, 3, none⟩ = some (.int .i64 ic)) (go_keep) (fail)
  have HW3 := hide (HW2.out.reg ka hka ic)
  have HF3 : Hid (Fr (fun k => k = b) w (w2.setCell ⟨b, 2 + ka, none⟩ (.int .i64 ic)).drew) := (Fr.setCell (S := fun k => k = b) HF2.out (p := ⟨b, 2 + ka, none⟩) (Or.inr rfl) _).drewN 1
  have HW3' : Hid (WkAt (w2.setCell ⟨b, 2 + ka, none⟩ (.int .i64 ic)).drew b vc code ⟨x.place, upd x.r ka ic, x.steps⟩) := HW3.out.below ((Below.refl _ _).drew)
  clear c0 c1 c2 c3 c4 c5 c6 f1 f6 a0 a1 a2 a3 cr fr HW3
  generalize (w2.setCell ⟨b, 2 + ka, none⟩ (.int .i64 ic)).drew = w3 at *
  obtain ⟨c0, c1, c2, c3, c4, c5, c6, cf⟩ := HW3'.out.cells
  have f1 := cf 1
  have f6 := cf 6
  clear cf
  go_wp2
  refine wp_goto ?_
  show J1 (.goto 6) _ _
  rw [← HJ1.out]
  refine ⟨_, rfl, ?_⟩
  clear HJ1
  generalize hJ2 : jumpQ Try.prog _ _ 1 = J2
  have HJ2 := hide hJ2
  clear hJ2
  go_wp2
  rw [← HJ2.out]
  refine jumpQ_ret ?_
  go_ret
  exact alone_end (y := nextW x ⟨3, ka, ib, ic⟩ none) HF3.out HW3'.out _ (by simp [nextW]) (by simp [nextW]; omega) (by simp [nextW]) (by simp [nextW])

end Go.Proofs.Ythfdgdfnflilfaa
/- Package workers: Step: the instructions that go along no stream. (Made by mkw5.py.) -/
namespace Go.Proofs.Ythfdgdfnflilfaa
open Go.RowKit Go.Conc


set_option maxRecDepth 100000 in
theorem Try.mixed : Try.prog.follows .mixedOrders = true := by kernel_rfl

set_option maxRecDepth 100000 in
set_option maxHeartbeats 2000000 in
theorem wstep_alu {w : World} {b : Nat} {vc va : Value} {code : List Ins} {x : Wk} {n : Nat} {st : Nat → Nat} (hw : WkAt w b vc code x) (ha : Along w va st n) (i : Ins) (hi : code[x.place]? = some i) (hok : opsValid i code.length n = true) (ho : i.op = 4 ∨ i.op = 5 ∨ i.op = 6 ∨ i.op = 7) :
    Calls Try.prog 28 #[.pointer (some ⟨b, 0, none⟩), va] w fun e w' => Alone w b vc code (nextW x i none) e w' := by
  obtain ⟨c0, c1, -, -, -, -, -, -⟩ := hw.cells
  obtain ⟨a, cap, hvc, hcap, hcode⟩ := code_form hw.own
  have hle := hw.le
  have hsm := hw.small
  have hlt : x.place < code.length := (List.getElem?_eq_some_iff.1 hi).1
  have hie : code[x.place] = i := (List.getElem?_eq_some_iff.1 hi).2
  obtain ⟨g, ha', d0, d1, d2, d3⟩ := hcode x.place hlt
  rw [hie] at d0 d1 d2 d3
  obtain ⟨ga, gcap, rfl, -, -⟩ := along_at ha
  have HOK := hide hok
  obtain ⟨op, ia, ib, ic⟩ := i
  dsimp only at *
  have hrg := valid_reg hok (by dsimp only; omega)
  have hal := valid_alu hok ho
  dsimp only at hrg hal
  obtain ⟨hr0, hr1⟩ := hrg
  obtain ⟨ka, rfl⟩ := Int.eq_ofNat_of_zero_le hr0
  obtain ⟨⟨hb0, hb1⟩, hc0, hc1⟩ := hal
  obtain ⟨kb, rfl⟩ := Int.eq_ofNat_of_zero_le hb0
  obtain ⟨kc, rfl⟩ := Int.eq_ofNat_of_zero_le hc0
  have hka : ka < 4 := by omega
  have hkb : kb < 4 := by omega
  have hkc : kc < 4 := by omega
  have q1 : (op == 1) = false := by simp; omega
  have q2 : (op == 2) = false := by simp; omega
  have q3 : (op == 3) = false := by simp; omega
  have q8 : (op == 8) = false := by simp; omega
  have q9 : (op == 9) = false := by simp; omega
  have HO := hide ho
  have HNX : Hid (nextW x ⟨op, ka, kb, kc⟩ none = ⟨x.place + 1, upd x.r ka (alu op (x.r kb) (x.r kc)), wrap64 (x.steps + 1)⟩) := by
    have e1 : ¬ op = 1 := by omega
    have e2 : ¬ op = 2 := by omega
    have e3 : ¬ op = 3 := by omega
    have e8 : ¬ op = 8 := by omega
    have e9 : ¬ op = 9 := by omega
    unfold Hid; simp [nextW, e1, e2, e3, e8, e9]
  clear ho
  have HW := hide hw
  have hd0 : decide ((code.length : Int) ≤ (x.place : Int)) = false := by simp; omega
  have hp0 : (0 : Int) ≤ (x.place : Int) := by omega
  have hp1 : (x.place : Int) < (code.length : Int) := by omega
  rw [hvc, ha'] at c0
  have wrp : IntKind.i64.wrap ((x.place : Int) + 1) = (x.place : Int) + 1 := by rw [IntKind.wrap_i64]; omega
  clear hcode hok hi hie hle hw ha
  go_enter Try.func28, Try.ntmps28
  go_wp2
  refine wp_scope_ahead 3 ?_
  generalize hJ : jumpQ Try.prog _ _ 3 = J
  have HJ := hide hJ
  clear hJ
  go_wp2
  go_quiet (fail)
  go_wp2
  obtain ⟨w1, hw1⟩ : ∃ w1, w1 = w.drewN nq := ⟨_, rfl⟩
  rw [← hw1]
  have hcell : ∀ p, w1.cell? p = w.cell? p := fun p => by rw [hw1]; rfl
  rw [← hcell] at c0 c1 d0 d1 d2 d3
  clear hcell
  have hbl : Below w.heap.size w w1 := by rw [hw1]; exact below_drewN (Below.refl _ _) _
  clear hw1
  have n0 := World.new_ne w1 _ c0
  have n2 := World.new_ne w1 _ d0
  go_region_held3 (fun w' => w'.cell? ⟨b, 0, none⟩ = some (.slice (some ⟨g, 0, none⟩) code.length cap) ∧ w'.cell? ⟨b, 1, none⟩ = some (.int .i64 x.place) ∧ w'.cell? ⟨g, x.place * 4, none⟩ = some (.int .i64 op) ∧ w'.cell? ⟨g, x.place * 4 + 1, none⟩ = some (.int .i64 ka) ∧ w'.cell? ⟨g, x.place * 4 + 2, none⟩ = some (.int .i64 kb) ∧ w'.cell? ⟨g, x.place * 4 + 3, none⟩ = some (.int .i64 kc)) (go_keep) (fail)
  clear wrp
  have hbl2 : Below w.heap.size w (w1.alloc (.cells #[.int .i64 op, .int .i64 ka, .int .i64 kb, .int .i64 kc] 56)).drew := (hbl.alloc hbl.size _).drew
  have a0 : (w1.alloc (.cells #[.int .i64 op, .int .i64 ka, .int .i64 kb, .int .i64 kc] 56)).drew.cell? ⟨w1.heap.size, 0, none⟩ = some (.int .i64 op) := by simp [go_sem]
  have a1 : (w1.alloc (.cells #[.int .i64 op, .int .i64 ka, .int .i64 kb, .int .i64 kc] 56)).drew.cell? ⟨w1.heap.size, 1, none⟩ = some (.int .i64 ka) := by simp [go_sem]
  have a2 : (w1.alloc (.cells #[.int .i64 op, .int .i64 ka, .int .i64 kb, .int .i64 kc] 56)).drew.cell? ⟨w1.heap.size, 2, none⟩ = some (.int .i64 kb) := by simp [go_sem]
  have a3 : (w1.alloc (.cells #[.int .i64 op, .int .i64 ka, .int .i64 kb, .int .i64 kc] 56)).drew.cell? ⟨w1.heap.size, 3, none⟩ = some (.int .i64 kc) := by simp [go_sem]
  have HNE : Hid (b ≠ w1.heap.size) := fun e => n0 e.symm
  generalize (w1.alloc (.cells #[.int .i64 op, .int .i64 ka, .int .i64 kb, .int .i64 kc] 56)).drew = w2 at *
  clear c0 c1 d0 d1 d2 d3 n0 n2
  have hw2 := HW.out.below hbl2
  obtain ⟨c0, c1, c2, c3, c4, c5, c6, cf⟩ := hw2.cells
  have f1 := cf 1
  have f6 := cf 6
  have HCF := hide cf
  have HF2 : Hid (Fr (fun k => k = b) w w2) := Fr.of_below hbl2
  have HW2 := hide hw2
  clear cf hw2
  go_wp2
  refine wp_goto ?_
  show J (.goto 5) _ _
  rw [← HJ.out]
  refine ⟨_, rfl, ?_⟩
  clear HJ
  generalize hJ1 : jumpQ Try.prog _ _ 2 = J1
  have HJ1 := hide hJ1
  clear hJ1
  have cb := HW2.out.regCell kb hkb
  have cc := HW2.out.regCell kc hkc
  have hkb0 : (0 : Int) ≤ (kb : Int) := by omega
  have hkb1 : (kb : Int) < 4 := by omega
  have hkc0 : (0 : Int) ≤ (kc : Int) := by omega
  have hkc1 : (kc : Int) < 4 := by omega
  obtain ⟨xb, hxb⟩ : ∃ xb, xb = x.r kb := ⟨_, rfl⟩
  obtain ⟨xc, hxc⟩ : ∃ xc, xc = x.r kc := ⟨_, rfl⟩
  rw [← hxb] at cb
  rw [← hxc] at cc
  rw [← hxb, ← hxc] at HNX
  clear hxb hxc
  have HR : Hid (∀ wx : World, Calls Try.prog 54 #[.int .i64 op, .int .i64 xb, .int .i64 xc] wx fun e w' => e = .returned (.int .i64 (alu op xb xc)) ∧ w' = wx) := fun wx => reckoned_calls op xb xc wx HO.out
  generalize alu op xb xc = v at *
  have cr := HW2.out.regCell ka hka
  have fr := HCF.out (2 + ka)
  have hk0 : (0 : Int) ≤ (ka : Int) := by omega
  have hk1 : (ka : Int) < 4 := by omega
  have nb : b ≠ w1.heap.size := HNE.out
  go_wp2
  refine wp_region_still_tail 23 Try.mixed (by kernel_rfl) ?_
  simp only [List.take_succ_cons, List.take_zero, List.drop_succ_cons, List.drop_zero]
  iterate 19 still_step
  still_call (unhide HR _)
  iterate 3 still_step
  refine wpStill_nil ?_
  show wpList _ _ _ _ _ w2.drew
  go_wp2
  have HW3 := hide (HW2.out.reg ka hka v)
  have HF3 : Hid (Fr (fun k => k = b) w (w2.setCell ⟨b, 2 + ka, none⟩ (.int .i64 v)).drew) := (Fr.setCell (S := fun k => k = b) HF2.out (p := ⟨b, 2 + ka, none⟩) (Or.inr rfl) _).drewN 1
  have HW3' : Hid (WkAt (w2.setCell ⟨b, 2 + ka, none⟩ (.int .i64 v)).drew b vc code ⟨x.place, upd x.r ka v, x.steps⟩) := HW3.out.below ((Below.refl _ _).drew)
  clear c0 c1 c2 c3 c4 c5 c6 f1 f6 a0 a1 a2 a3 cr fr HW3 cb cc
  generalize (w2.setCell ⟨b, 2 + ka, none⟩ (.int .i64 v)).drew = w3 at *
  obtain ⟨c0, c1, c2, c3, c4, c5, c6, cf⟩ := HW3'.out.cells
  have f1 := cf 1
  have f6 := cf 6
  clear cf
  go_wp2
  refine wp_goto ?_
  show J1 (.goto 6) _ _
  rw [← HJ1.out]
  refine ⟨_, rfl, ?_⟩
  clear HJ1
  generalize hJ2 : jumpQ Try.prog _ _ 1 = J2
  have HJ2 := hide hJ2
  clear hJ2
  go_wp2
  rw [← HJ2.out]
  refine jumpQ_ret ?_
  go_ret
  exact alone_end (y := nextW x ⟨op, ka, kb, kc⟩ none) HF3.out HW3'.out _ (by rw [HNX.out]; simp) (by rw [HNX.out]; dsimp only; omega) (by rw [HNX.out]) (by rw [HNX.out])

end Go.Proofs.Ythfdgdfnflilfaa

/- Part 6: Workers8, Model2, Race1, Race2. -/
import Derived.Test.YthfdgdfnflilfaaDoorPart5
/- Package workers: Step: WRITE. (Made by mkw7.py.) -/
namespace Go.Proofs.YthfdgdfnflilfaaDoor
open Go.RowKit Go.Conc

/-- What comes of an instruction that writes. -/
def StepWrite (w : World) (b : Nat) (vc : Value) (code : List Ins) (x : Wk) (i : Ins) (st : Nat → Nat) (VW : Nat → Value) (CH : Nat → Option Nat) (M : Nat → Sm) (e : Ending) (w' : World) : Prop :=
  (e = .returned (.int .i64 3) ∧ CH i.b.toNat ≠ none ∧ (M i.b.toNat).room ≤ (M i.b.toNat).words.length - (M i.b.toNat).read ∧ Below w.heap.size w w') ∨
  (e = .returned (.int .i64 1) ∧ ¬ (CH i.b.toNat ≠ none ∧ (M i.b.toNat).room ≤ (M i.b.toNat).words.length - (M i.b.toNat).read) ∧ WkAt w' b vc code (nextW x i none) ∧
    ∃ vw', (∀ g, vw'.ownBlock = some g → (VW i.b.toNat).ownBlock = some g ∨ w.heap.size ≤ g) ∧
    StAt w' (st i.b.toNat) vw' (CH i.b.toNat) false { M i.b.toNat with words := (M i.b.toNat).words ++ [x.r i.a.toNat] } ∧
    Fr (fun k => k = b ∨ k = st i.b.toNat ∨ (VW i.b.toNat).ownBlock = some k ∨ CH i.b.toNat = some k) w w')

theorem put_calls {w : World} {b : Nat} {vw : Value} {ch : Option Nat} {m : Sm} (x : Int) (h : StAt w b vw ch false m) (hsm : m.words.length < 4398046511104) :
    Calls Tryd.prog 50 #[.pointer (some ⟨b, 0, none⟩), .int .i64 x] w fun e w' => Puts w b vw ch m x e w' := by
  cases ch with
  | none => exact put_none x h hsm
  | some c => exact put_some x h hsm

set_option maxRecDepth 100000 in
set_option maxHeartbeats 2000000 in
theorem wstep_write_no {w : World} {b : Nat} {vc va : Value} {code : List Ins} {x : Wk} {n : Nat} {st : Nat → Nat} (hw : WkAt w b vc code x) {VW : Nat → Value} {CH : Nat → Option Nat} {SRC : Nat → Bool} {M : Nat → Sm} (he : Env w va n st VW CH SRC M) (i : Ins) (hi : code[x.place]? = some i) (hok : opsValid i code.length n = true) (ho : i.op = 2) (hsrc : SRC i.b.toNat = false) (hsm2 : (M i.b.toNat).words.length < 4398046511104) (hcs : CH i.b.toNat ≠ none ∧ (M i.b.toNat).room ≤ (M i.b.toNat).words.length - (M i.b.toNat).read) :
    Calls Tryd.prog 30 #[.pointer (some ⟨b, 0, none⟩), va] w fun e w' => StepWrite w b vc code x i st VW CH M e w' := by
  obtain ⟨c0, c1, -, -, -, -, -, -⟩ := hw.cells
  obtain ⟨a, cap, hvc, hcap, hcode⟩ := code_form hw.own
  have hle := hw.le
  have hsm := hw.small
  have hlt : x.place < code.length := (List.getElem?_eq_some_iff.1 hi).1
  have hie : code[x.place] = i := (List.getElem?_eq_some_iff.1 hi).2
  obtain ⟨g, ha', d0, d1, d2, d3⟩ := hcode x.place hlt
  rw [hie] at d0 d1 d2 d3
  have HE := hide he
  obtain ⟨ga, gcap, rfl, hgl, hal⟩ := along_at he.along
  have HAL := hide hal
  clear hal
  have HOK := hide hok
  obtain ⟨op, ia, ib, ic⟩ := i
  dsimp only at *
  have hrg := valid_reg hok (by dsimp only; omega)
  have hstm := valid_stream hok (by dsimp only; omega)
  dsimp only at hrg hstm
  subst ho
  obtain ⟨hr0, hr1⟩ := hrg
  obtain ⟨ka, rfl⟩ := Int.eq_ofNat_of_zero_le hr0
  obtain ⟨hb0, hb1⟩ := hstm
  obtain ⟨kb, rfl⟩ := Int.eq_ofNat_of_zero_le hb0
  have hka : ka < 4 := by omega
  have hkb : kb < n := by omega
  
  simp only [Int.toNat_natCast] at hsrc hsm2 hcs
  
  have HCS := hide hcs
  clear hcs
  have HW := hide hw
  have hd0 : decide ((code.length : Int) ≤ (x.place : Int)) = false := by simp; omega
  have hp0 : (0 : Int) ≤ (x.place : Int) := by omega
  have hp1 : (x.place : Int) < (code.length : Int) := by omega
  rw [hvc, ha'] at c0
  have wrp : IntKind.i64.wrap ((x.place : Int) + 1) = (x.place : Int) + 1 := by rw [IntKind.wrap_i64]; omega
  have HLT := hide hlt
  clear hcode hok hi hie hle hw he
  go_enter Tryd.func30, Tryd.ntmps30
  go_wp2
  refine wp_scope_ahead 3 ?_
  generalize hJ : jumpQ Tryd.prog _ _ 3 = J
  have HJ := hide hJ
  clear hJ
  go_wp2
  go_quiet (fail)
  go_wp2
  obtain ⟨w1, hw1⟩ : ∃ w1, w1 = w.drewN nq := ⟨_, rfl⟩
  rw [← hw1]
  have hcell : ∀ p, w1.cell? p = w.cell? p := fun p => by rw [hw1]; rfl
  rw [← hcell] at c0 c1 d0 d1 d2 d3
  clear hcell
  have hbl : Below w.heap.size w w1 := by rw [hw1]; exact below_drewN (Below.refl _ _) _
  clear hw1
  have n0 := World.new_ne w1 _ c0
  have n2 := World.new_ne w1 _ d0
  go_region_held3 (fun w' => w'.cell? ⟨b, 0, none⟩ = some (.slice (some ⟨g, 0, none⟩) code.length cap) ∧ w'.cell? ⟨b, 1, none⟩ = some (.int .i64 x.place) ∧ w'.cell? ⟨g, x.place * 4, none⟩ = some (.int .i64 2) ∧ w'.cell? ⟨g, x.place * 4 + 1, none⟩ = some (.int .i64 ka) ∧ w'.cell? ⟨g, x.place * 4 + 2, none⟩ = some (.int .i64 kb) ∧ w'.cell? ⟨g, x.place * 4 + 3, none⟩ = some (.int .i64 ic)) (go_keep) (fail)
  clear wrp
  have hbl2 : Below w.heap.size w (w1.alloc (.cells #[.int .i64 2, .int .i64 ka, .int .i64 kb, .int .i64 ic] 31)).drew := (hbl.alloc hbl.size _).drew
  have a0 : (w1.alloc (.cells #[.int .i64 2, .int .i64 ka, .int .i64 kb, .int .i64 ic] 31)).drew.cell? ⟨w1.heap.size, 0, none⟩ = some (.int .i64 2) := by simp [go_sem]
  have a1 : (w1.alloc (.cells #[.int .i64 2, .int .i64 ka, .int .i64 kb, .int .i64 ic] 31)).drew.cell? ⟨w1.heap.size, 1, none⟩ = some (.int .i64 ka) := by simp [go_sem]
  have a2 : (w1.alloc (.cells #[.int .i64 2, .int .i64 ka, .int .i64 kb, .int .i64 ic] 31)).drew.cell? ⟨w1.heap.size, 2, none⟩ = some (.int .i64 kb) := by simp [go_sem]
  have a3 : (w1.alloc (.cells #[.int .i64 2, .int .i64 ka, .int .i64 kb, .int .i64 ic] 31)).drew.cell? ⟨w1.heap.size, 3, none⟩ = some (.int .i64 ic) := by simp [go_sem]
  have HNE : Hid (b ≠ w1.heap.size) := fun e => n0 e.symm
  have HAB : Hid ((w1.alloc (.cells #[.int .i64 2, .int .i64 ka, .int .i64 kb, .int .i64 ic] 31)).drew.heap[w1.heap.size]? = some (.cells #[.int .i64 2, .int .i64 ka, .int .i64 kb, .int .i64 ic] 31 (0, 0))) := heap_alloc_new _ _
  have HS12 : Hid (w1.heap.size < (w1.alloc (.cells #[.int .i64 2, .int .i64 ka, .int .i64 kb, .int .i64 ic] 31)).drew.heap.size) := by unfold Hid; simp
  generalize (w1.alloc (.cells #[.int .i64 2, .int .i64 ka, .int .i64 kb, .int .i64 ic] 31)).drew = w2 at *
  clear c0 c1 d0 d1 d2 d3 n0 n2
  have hw2 := HW.out.below hbl2
  obtain ⟨c0, c1, c2, c3, c4, c5, c6, cf⟩ := hw2.cells
  have f1 := cf 1
  have f6 := cf 6
  have HCF := hide cf
  have HF2 : Hid (Fr (fun k => k = b) w w2) := Fr.of_below hbl2
  have HW2 := hide hw2
  clear cf hw2
  go_wp2
  refine wp_goto ?_
  show J (.goto 1) _ _
  rw [← HJ.out]
  refine ⟨_, rfl, ?_⟩
  clear HJ
  generalize hJ1 : jumpQ Tryd.prog _ _ 2 = J1
  have HJ1 := hide hJ1
  clear hJ1
  have da := HAL.out w2 hbl2 kb hkb
  have HT := hide (((unhide HE).at' kb hkb).below hbl2)
  rw [hsrc] at HT
  have cr := HW2.out.regCell ka hka
  have hk0 : (0 : Int) ≤ (ka : Int) := by omega
  have hk1 : (ka : Int) < 4 := by omega
  have hkb0 : (0 : Int) ≤ (kb : Int) := by omega
  have hkb1 : (kb : Int) < (n : Int) := by omega
  obtain ⟨v, hv⟩ : ∃ v, v = x.r ka := ⟨_, rfl⟩
  rw [← hv] at cr
  have HVV := hide hv
  clear hv
  have HP : Hid (∀ wx, Below w2.heap.size w2 wx → Calls Tryd.prog 50 #[.pointer (some ⟨st kb, 0, none⟩), .int .i64 v] wx fun e w' => e = .returned (.bool false) ∧ w' = wx) := fun wx hx =>
    (put_calls v (HT.out.below hx) hsm2).mono fun e w' h => by
      rcases h with ⟨_, h1, _⟩ | ⟨h1, _, _, h2⟩
      · exact absurd (h1 HCS.out.1) (by have := HCS.out.2; omega)
      · exact ⟨h1, h2⟩
  go_wp2
  go_region_held3 (fun w' => w'.cell? ⟨w1.heap.size, 1, none⟩ = some (.int .i64 ka) ∧ w'.cell? ⟨w1.heap.size, 2, none⟩ = some (.int .i64 kb) ∧ w'.cell? ⟨ga, kb, none⟩ = some (.pointer (some ⟨st kb, 0, none⟩)) ∧ w'.cell? ⟨b, 2 + ka, none⟩ = some (.int .i64 v)) (go_keep) ((go_at_call 50; refine (unhide HP _ ?_).mono ?_; (repeat (first | exact Below.refl _ _ | apply Below.drew | apply below_drewN)); rintro e w3 ⟨rfl, rfl⟩))
  go_wp2
  rw [← HJ1.out]
  refine jumpQ_ret ?_
  go_ret
  refine Or.inl ⟨rfl, ?_, ?_, hbl2.drew⟩
  · simpa using HCS.out.1
  · simpa using HCS.out.2

set_option maxRecDepth 100000 in
set_option maxHeartbeats 2000000 in
theorem wstep_write_yes {w : World} {b : Nat} {vc va : Value} {code : List Ins} {x : Wk} {n : Nat} {st : Nat → Nat} (hw : WkAt w b vc code x) {VW : Nat → Value} {CH : Nat → Option Nat} {SRC : Nat → Bool} {M : Nat → Sm} (he : Env w va n st VW CH SRC M) (i : Ins) (hi : code[x.place]? = some i) (hok : opsValid i code.length n = true) (ho : i.op = 2) (hsrc : SRC i.b.toNat = false) (hsm2 : (M i.b.toNat).words.length < 4398046511104) (hcs : ¬ (CH i.b.toNat ≠ none ∧ (M i.b.toNat).room ≤ (M i.b.toNat).words.length - (M i.b.toNat).read)) :
    Calls Tryd.prog 30 #[.pointer (some ⟨b, 0, none⟩), va] w fun e w' => StepWrite w b vc code x i st VW CH M e w' := by
  obtain ⟨c0, c1, -, -, -, -, -, -⟩ := hw.cells
  obtain ⟨a, cap, hvc, hcap, hcode⟩ := code_form hw.own
  have hle := hw.le
  have hsm := hw.small
  have hlt : x.place < code.length := (List.getElem?_eq_some_iff.1 hi).1
  have hie : code[x.place] = i := (List.getElem?_eq_some_iff.1 hi).2
  obtain ⟨g, ha', d0, d1, d2, d3⟩ := hcode x.place hlt
  rw [hie] at d0 d1 d2 d3
  have HE := hide he
  obtain ⟨ga, gcap, rfl, hgl, hal⟩ := along_at he.along
  have HAL := hide hal
  clear hal
  have HOK := hide hok
  obtain ⟨op, ia, ib, ic⟩ := i
  dsimp only at *
  have hrg := valid_reg hok (by dsimp only; omega)
  have hstm := valid_stream hok (by dsimp only; omega)
  dsimp only at hrg hstm
  subst ho
  obtain ⟨hr0, hr1⟩ := hrg
  obtain ⟨ka, rfl⟩ := Int.eq_ofNat_of_zero_le hr0
  obtain ⟨hb0, hb1⟩ := hstm
  obtain ⟨kb, rfl⟩ := Int.eq_ofNat_of_zero_le hb0
  have hka : ka < 4 := by omega
  have hkb : kb < n := by omega
  
  simp only [Int.toNat_natCast] at hsrc hsm2 hcs
  
  have HCS := hide hcs
  clear hcs
  have HW := hide hw
  have hd0 : decide ((code.length : Int) ≤ (x.place : Int)) = false := by simp; omega
  have hp0 : (0 : Int) ≤ (x.place : Int) := by omega
  have hp1 : (x.place : Int) < (code.length : Int) := by omega
  rw [hvc, ha'] at c0
  have wrp : IntKind.i64.wrap ((x.place : Int) + 1) = (x.place : Int) + 1 := by rw [IntKind.wrap_i64]; omega
  have HLT := hide hlt
  clear hcode hok hi hie hle hw he
  go_enter Tryd.func30, Tryd.ntmps30
  go_wp2
  refine wp_scope_ahead 3 ?_
  generalize hJ : jumpQ Tryd.prog _ _ 3 = J
  have HJ := hide hJ
  clear hJ
  go_wp2
  go_quiet (fail)
  go_wp2
  obtain ⟨w1, hw1⟩ : ∃ w1, w1 = w.drewN nq := ⟨_, rfl⟩
  rw [← hw1]
  have hcell : ∀ p, w1.cell? p = w.cell? p := fun p => by rw [hw1]; rfl
  rw [← hcell] at c0 c1 d0 d1 d2 d3
  clear hcell
  have hbl : Below w.heap.size w w1 := by rw [hw1]; exact below_drewN (Below.refl _ _) _
  clear hw1
  have n0 := World.new_ne w1 _ c0
  have n2 := World.new_ne w1 _ d0
  go_region_held3 (fun w' => w'.cell? ⟨b, 0, none⟩ = some (.slice (some ⟨g, 0, none⟩) code.length cap) ∧ w'.cell? ⟨b, 1, none⟩ = some (.int .i64 x.place) ∧ w'.cell? ⟨g, x.place * 4, none⟩ = some (.int .i64 2) ∧ w'.cell? ⟨g, x.place * 4 + 1, none⟩ = some (.int .i64 ka) ∧ w'.cell? ⟨g, x.place * 4 + 2, none⟩ = some (.int .i64 kb) ∧ w'.cell? ⟨g, x.place * 4 + 3, none⟩ = some (.int .i64 ic)) (go_keep) (fail)
  clear wrp
  have hbl2 : Below w.heap.size w (w1.alloc (.cells #[.int .i64 2, .int .i64 ka, .int .i64 kb, .int .i64 ic] 31)).drew := (hbl.alloc hbl.size _).drew
  have a0 : (w1.alloc (.cells #[.int .i64 2, .int .i64 ka, .int .i64 kb, .int .i64 ic] 31)).drew.cell? ⟨w1.heap.size, 0, none⟩ = some (.int .i64 2) := by simp [go_sem]
  have a1 : (w1.alloc (.cells #[.int .i64 2, .int .i64 ka, .int .i64 kb, .int .i64 ic] 31)).drew.cell? ⟨w1.heap.size, 1, none⟩ = some (.int .i64 ka) := by simp [go_sem]
  have a2 : (w1.alloc (.cells #[.int .i64 2, .int .i64 ka, .int .i64 kb, .int .i64 ic] 31)).drew.cell? ⟨w1.heap.size, 2, none⟩ = some (.int .i64 kb) := by simp [go_sem]
  have a3 : (w1.alloc (.cells #[.int .i64 2, .int .i64 ka, .int .i64 kb, .int .i64 ic] 31)).drew.cell? ⟨w1.heap.size, 3, none⟩ = some (.int .i64 ic) := by simp [go_sem]
  have HNE : Hid (b ≠ w1.heap.size) := fun e => n0 e.symm
  have HAB : Hid ((w1.alloc (.cells #[.int .i64 2, .int .i64 ka, .int .i64 kb, .int .i64 ic] 31)).drew.heap[w1.heap.size]? = some (.cells #[.int .i64 2, .int .i64 ka, .int .i64 kb, .int .i64 ic] 31 (0, 0))) := heap_alloc_new _ _
  have HS12 : Hid (w1.heap.size < (w1.alloc (.cells #[.int .i64 2, .int .i64 ka, .int .i64 kb, .int .i64 ic] 31)).drew.heap.size) := by unfold Hid; simp
  generalize (w1.alloc (.cells #[.int .i64 2, .int .i64 ka, .int .i64 kb, .int .i64 ic] 31)).drew = w2 at *
  clear c0 c1 d0 d1 d2 d3 n0 n2
  have hw2 := HW.out.below hbl2
  obtain ⟨c0, c1, c2, c3, c4, c5, c6, cf⟩ := hw2.cells
  have f1 := cf 1
  have f6 := cf 6
  have HCF := hide cf
  have HF2 : Hid (Fr (fun k => k = b) w w2) := Fr.of_below hbl2
  have HW2 := hide hw2
  clear cf hw2
  go_wp2
  refine wp_goto ?_
  show J (.goto 1) _ _
  rw [← HJ.out]
  refine ⟨_, rfl, ?_⟩
  clear HJ
  generalize hJ1 : jumpQ Tryd.prog _ _ 2 = J1
  have HJ1 := hide hJ1
  clear hJ1
  have da := HAL.out w2 hbl2 kb hkb
  have HT := hide (((unhide HE).at' kb hkb).below hbl2)
  rw [hsrc] at HT
  have cr := HW2.out.regCell ka hka
  have hk0 : (0 : Int) ≤ (ka : Int) := by omega
  have hk1 : (ka : Int) < 4 := by omega
  have hkb0 : (0 : Int) ≤ (kb : Int) := by omega
  have hkb1 : (kb : Int) < (n : Int) := by omega
  obtain ⟨v, hv⟩ : ∃ v, v = x.r ka := ⟨_, rfl⟩
  rw [← hv] at cr
  have HVV := hide hv
  clear hv
  have hsb := HT.out.blk
  have nb1 : b ≠ st kb := ne_of_types HW2.out.blk hsb (by decide)
  have nb2 : ∀ c, CH kb = some c → b ≠ c := fun c hc => by
    obtain ⟨⟨s, r, h1⟩, _⟩ := HT.out.chan c hc
    exact ne_of_chan HW2.out.blk h1
  have nb3 : ∀ c, (VW kb).ownBlock = some c → b ≠ c := fun c hc => by
    obtain ⟨cur, h1⟩ := own_block HT.out.own hc
    exact ne_of_types HW2.out.blk h1 (by decide)
  have na1 : w1.heap.size ≠ st kb := ne_of_types HAB.out hsb (by decide)
  have na2 : ∀ c, CH kb = some c → w1.heap.size ≠ c := fun c hc => by
    obtain ⟨⟨s, r, h1⟩, _⟩ := HT.out.chan c hc
    exact ne_of_chan HAB.out h1
  have na3 : ∀ c, (VW kb).ownBlock = some c → w1.heap.size ≠ c := fun c hc => by
    obtain ⟨cur, h1⟩ := own_block HT.out.own hc
    exact ne_of_types HAB.out h1 (by decide)
  have no1 : ∀ y, vc.ownBlock = some y → y ≠ st kb := fun y hy => by
    obtain ⟨cur, h1⟩ := own_block HW2.out.own hy
    exact ne_of_types h1 hsb (by decide)
  have no2 : ∀ y, vc.ownBlock = some y → ∀ c, CH kb = some c → y ≠ c := fun y hy c hc => by
    obtain ⟨cur, h1⟩ := own_block HW2.out.own hy
    obtain ⟨⟨s, r, h2⟩, _⟩ := HT.out.chan c hc
    exact ne_of_chan h1 h2
  have no3 : ∀ y, vc.ownBlock = some y → ∀ c, (VW kb).ownBlock = some c → y ≠ c := fun y hy c hc => by
    obtain ⟨cur, h1⟩ := own_block HW2.out.own hy
    obtain ⟨cur', h2⟩ := own_block HT.out.own hc
    exact ne_of_types h1 h2 (by decide)
  have hga : ∃ cs : List Value, w2.heap[ga]? = some (.cells cs.toArray 67 (0, 0)) ∧ cs[kb]? = some (.pointer (some ⟨st kb, 0, none⟩)) := by
    obtain ⟨⟨g', cap', hv', cs, hg', hcs'⟩, -⟩ := ((unhide HE).below hbl2).along
    cases hv'
    exact ⟨cs, hg', hcs' kb hkb⟩
  obtain ⟨gcs, hgb, hgk⟩ := hga
  have ng1 : ga ≠ st kb := ne_of_types hgb hsb (by decide)
  have ng2 : ∀ c, CH kb = some c → ga ≠ c := fun c hc => by
    obtain ⟨⟨s, r, h1⟩, _⟩ := HT.out.chan c hc
    exact ne_of_chan hgb h1
  have ng3 : ∀ c, (VW kb).ownBlock = some c → ga ≠ c := fun c hc => by
    obtain ⟨cur, h1⟩ := own_block HT.out.own hc
    exact ne_of_types hgb h1 (by decide)
  have HN := hide (And.intro (And.intro nb1 (And.intro nb2 nb3)) (And.intro na1 (And.intro na2 na3)))
  have HP : Hid (∀ wx, (∃ q, wx = w2.drewN q) → Calls Tryd.prog 50 #[.pointer (some ⟨st kb, 0, none⟩), .int .i64 v] wx fun e w' => e = .returned (.bool true) ∧
      (w'.cell? ⟨w1.heap.size, 1, none⟩ = some (.int .i64 ka) ∧ w'.cell? ⟨w1.heap.size, 2, none⟩ = some (.int .i64 kb) ∧ w'.cell? ⟨ga, kb, none⟩ = some (.pointer (some ⟨st kb, 0, none⟩)) ∧ w'.cell? ⟨b, 2 + ka, none⟩ = some (.int .i64 v)) ∧
      WkAt w' b vc code x ∧ ∃ vw', (∀ g, vw'.ownBlock = some g → (VW kb).ownBlock = some g ∨ w.heap.size ≤ g) ∧ StAt w' (st kb) vw' (CH kb) false { M kb with words := (M kb).words ++ [v] } ∧
      (∀ y, vw'.ownBlock = some y ∨ y = st kb ∨ CH kb = some y → y ≠ b) ∧
      Fr (fun k => k = b ∨ k = st kb ∨ (VW kb).ownBlock = some k ∨ CH kb = some k) w w') := by
    rintro wx ⟨q, rfl⟩
    have hx : Below w2.heap.size w2 (w2.drewN q) := below_drewN (Below.refl _ _) q
    refine (put_calls v (HT.out.below hx) hsm2).mono fun e w' h => ?_
    rcases h with ⟨h1, h2, vw', h3, h4, h5⟩ | ⟨_, h1, h2, _⟩
    · have keep : ∀ k, k < w2.heap.size → k ≠ st kb → (∀ c, (VW kb).ownBlock = some c → k ≠ c) → (∀ c, CH kb = some c → k ≠ c) → w'.heap[k]? = w2.heap[k]? := fun k hk e1 e2 e3 =>
        h5.block k hk (fun h => h.elim e1 (fun h => h.elim (fun h => e2 k h rfl) (fun h => e3 k h rfl)))
      have kb' := keep b (lt_of_blk HW2.out.blk) nb1 nb3 nb2
      have ka' := keep w1.heap.size (lt_of_blk HAB.out) na1 na3 na2
      have kg' := keep ga (lt_of_blk hgb) ng1 ng3 ng2
      have hw' : WkAt w' b vc code x := HW2.out.stays fun y hy => by
        rcases hy with rfl | hy
        · exact kb'
        · obtain ⟨cur, h6⟩ := own_block HW2.out.own hy
          exact keep y (lt_of_blk h6) (no1 y hy) (no3 y hy) (no2 y hy)
      refine ⟨h1, ⟨row_cell (ka'.trans HAB.out) rfl, row_cell (ka'.trans HAB.out) rfl, row_cell (kg'.trans hgb) hgk, ?_⟩, hw', vw', fun g hg => ?_, h4, ?_, ?_⟩
      · rw [HVV.out]; exact hw'.regCell ka hka
      · rcases h3 g hg with h6 | h6
        · exact Or.inl h6
        · exact Or.inr (Nat.le_trans hbl2.size h6)
      · intro y hy
        rcases hy with hy | rfl | hy
        · obtain ⟨cur, h6⟩ := own_block h4.own hy
          exact ne_of_types h6 hw'.blk (by decide)
        · exact fun e => nb1 e.symm
        · exact fun e => nb2 y hy e.symm
      · exact (Fr.of_below (hbl2.trans (hx.mono hbl2.size))).trans h5 (fun y _ h => Or.inr h)
    · exact absurd ⟨h1, h2⟩ HCS.out
  clear nb1 nb2 nb3 na1 na2 na3 no1 no2 no3 ng1 ng2 ng3 hgb hgk hsb
  go_wp2
  go_region_held3 (fun w' => w'.cell? ⟨w1.heap.size, 1, none⟩ = some (.int .i64 ka) ∧ w'.cell? ⟨w1.heap.size, 2, none⟩ = some (.int .i64 kb) ∧ w'.cell? ⟨ga, kb, none⟩ = some (.pointer (some ⟨st kb, 0, none⟩)) ∧ w'.cell? ⟨b, 2 + ka, none⟩ = some (.int .i64 v)) (go_keep) ((go_at_call 50; refine (unhide HP _ ⟨1, rfl⟩).mono ?_; rintro e w3 ⟨rfl, ⟨s1, s2, s3, s4⟩, hw3, vw', hvw, hst3, hyb, hfr3⟩))
  have HW3 := hide hw3
  have HREST := hide (And.intro hvw (And.intro hst3 (And.intro hyb hfr3)))
  clear hvw hst3 hyb hfr3 s1 s2 s3 s4 hw3 c0 c1 c2 c3 c4 c5 c6 f1 f6 a0 a1 a2 a3 cr da
  obtain ⟨c0, c1, c2, c3, c4, c5, c6, cf⟩ := HW3.out.cells
  have f1 := cf 1
  have f6 := cf 6
  clear cf
  go_wp2
  refine wp_goto ?_
  show J1 (.goto 6) _ _
  rw [← HJ1.out]
  refine ⟨_, rfl, ?_⟩
  clear HJ1
  generalize hJ2 : jumpQ Tryd.prog _ _ 1 = J2
  have HJ2 := hide hJ2
  clear hJ2
  go_wp2
  rw [← HJ2.out]
  refine jumpQ_ret ?_
  go_ret
  obtain ⟨hvw, hst3, hyb, hfr3⟩ := HREST.out
  obtain ⟨q1, q2, q3⟩ := alone_end (w := w3) (y := nextW x ⟨2, ka, kb, ic⟩ none) (Fr.refl _ _) HW3.out ((x.place : Int) + 1) (by simp [nextW]) (by have := HLT.out; simp [nextW]; omega) (by simp [nextW]) (by simp [nextW])
  refine Or.inr ⟨rfl, ?_, q2, vw', ?_, ?_, ?_⟩
  · simpa using HCS.out
  · simpa using hvw
  · simp only [Int.toNat_natCast]
    rw [← HVV.out]
    refine hst3.stays fun y hy => ?_
    have hne : y ≠ b := hyb y (by rcases hy with h | h | h; exact Or.inr (Or.inl h); exact Or.inl h; exact Or.inr (Or.inr h))
    rw [Below.heap_setCell _ _ _ _ hne, Below.heap_setCell _ _ _ _ hne]
  · simp only [Int.toNat_natCast]
    exact Fr.setCell (S := fun k => k = b ∨ k = st kb ∨ (VW kb).ownBlock = some k ∨ CH kb = some k) (Fr.setCell (S := fun k => k = b ∨ k = st kb ∨ (VW kb).ownBlock = some k ∨ CH kb = some k) hfr3 (p := ⟨b, 1, none⟩) (Or.inr (Or.inl rfl)) _) (p := ⟨b, 6, none⟩) (Or.inr (Or.inl rfl)) _

end Go.Proofs.YthfdgdfnflilfaaDoor
/- No schedule and no room changes what flows (Kahn): of two races each worker's road is the beginning of the other's. -/
namespace Go.Proofs.YthfdgdfnflilfaaDoor
open Go.RowKit

def Cmp {α : Type} (a b : List α) : Prop := a <+: b ∨ b <+: a

theorem Cmp.symm {α : Type} {a b : List α} (h : Cmp a b) : Cmp b a := Or.symm h
theorem Cmp.refl {α : Type} (a : List α) : Cmp a a := Or.inl (List.prefix_refl a)

theorem Cmp.get {α : Type} {a b : List α} (h : Cmp a b) {j : Nat} {x y : α} (hx : a[j]? = some x) (hy : b[j]? = some y) : x = y := by
  rcases h with ⟨t, rfl⟩ | ⟨t, rfl⟩
  · rw [List.getElem?_append_left (List.getElem?_eq_some_iff.1 hx).1, hx] at hy
    exact Option.some.inj hy
  · rw [List.getElem?_append_left (List.getElem?_eq_some_iff.1 hy).1, hy] at hx
    exact (Option.some.inj hx).symm

theorem Cmp.eq {α : Type} {a b : List α} (h : Cmp a b) (hl : a.length = b.length) : a = b := by
  rcases h with h | h
  · exact h.eq_of_length hl
  · exact (h.eq_of_length hl.symm).symm

theorem Cmp.le {α : Type} {a b : List α} (h : Cmp a b) (hl : a.length ≤ b.length) : a <+: b := by
  rcases h with h | h
  · exact h
  · have := h.length_le
    rw [h.eq_of_length (by omega)]
    exact List.prefix_refl _

theorem Cmp.take {α : Type} (l : List α) (m n : Nat) : Cmp (l.take m) (l.take n) := by
  rcases Nat.le_total m n with h | h
  · exact Or.inl (List.take_prefix_take_left h)
  · exact Or.inr (List.take_prefix_take_left h)

theorem Cmp.init {α : Type} {a b : List α} {x y : α} (h : Cmp (a ++ [x]) (b ++ [y])) : Cmp a b := by
  rcases h with h | h
  · refine Or.inl (List.prefix_of_prefix_length_le ((List.prefix_append a [x]).trans h) (List.prefix_append b [y]) ?_)
    have := h.length_le; simp at this; exact this
  · refine Or.inr (List.prefix_of_prefix_length_le ((List.prefix_append b [y]).trans h) (List.prefix_append a [x]) ?_)
    have := h.length_le; simp at this; exact this

theorem outW_prefix {N : Net} {k s : Nat} {a b : List Wk} (h : a <+: b) : outW N k s a <+: outW N k s b := by
  obtain ⟨t, rfl⟩ := h
  exact ⟨outW N k s t, by simp [outW]⟩

theorem full_length (G : Rc × (Nat → List Wk)) (k : Nat) : (full G k).length = (G.2 k).length + 1 := by simp [full]

theorem words_cmp {N : Net} {A B : Rc × (Nat → List Wk)} (gA : GI N A) (gB : GI N B) (h : ∀ k, k < N.workers.length → Cmp (full A k) (full B k)) (s : Nat) (hs : s < N.streams.length) (hq : srcd N s = false) :
    Cmp (A.1.s s).words (B.1.s s).words := by
  by_cases hw : ∃ k, k < N.workers.length ∧ usesB (codeOf N k) 2 s = true
  · obtain ⟨k, hk, hu⟩ := hw
    rw [gA.wr k s hk hs hu, gB.wr k s hk hs hu]
    rcases (h k hk).init with h | h
    · exact Or.inl (outW_prefix h)
    · exact Or.inr (outW_prefix h)
  · have hn : ∀ k, k < N.workers.length → usesB (codeOf N k) 2 s = false := by
      intro k hk
      cases hu : usesB (codeOf N k) 2 s
      · rfl
      · exact absurd ⟨k, hk, hu⟩ hw
    rw [gA.nowr s hs hq hn, gB.nowr s hs hq hn]
    exact Cmp.refl _

theorem full_head {N : Net} (rooms : List Int) (k : Nat) (hk : k < N.workers.length) : ∀ es, (full (grun N rooms es) k)[0]? = some ⟨0, fun _ => 0, 0⟩
  | [] => by simp [full, grun, initR, Rc.w, List.getD, hk]
  | e :: es => by
    have ih := full_head rooms k hk es
    generalize hG : grun N rooms es = G at ih
    simp only [grun, hG]
    cases e with
    | inr s => exact ih
    | inl j =>
      simp only [ev]
      split
      · by_cases hj : k = j
        · subst hj
          simp only [full, if_true]
          rw [List.getElem?_append_left (by simp)]
          exact ih
        · simp only [full, if_neg hj]
          cases ht : G.2 k with
          | nil =>
            simp only [full, ht, List.nil_append] at ih ⊢
            rw [← ih]
            have : (doStep N G.1 j).w k = G.1.w k := by
              simp only [doStep]
              split
              · rfl
              · exact getD_set_ne _ _ _ _ _ (fun e => hj e.symm)
            rw [this]
          | cons x t =>
            simp only [full, ht, List.cons_append, List.getElem?_cons_zero] at ih ⊢
            exact ih
      · exact ih

theorem doStep_w_ne (N : Net) (R : Rc) (j k : Nat) (h : k ≠ j) : (doStep N R j).w k = R.w k := by
  simp only [doStep]
  split
  · rfl
  · exact getD_set_ne _ _ _ _ _ (fun e => h e.symm)

theorem agree {N : Net} (ok : Ok N) (r1 r2 : List Int) (es2 : List (Nat ⊕ Nat)) : ∀ es1, ∀ k, k < N.workers.length → Cmp (full (grun N r1 es1) k) (full (grun N r2 es2) k)
  | [], k, hk => by
    have h2 := full_head r2 k hk es2
    refine Or.inl ?_
    cases hf : full (grun N r2 es2) k with
    | nil => rw [hf] at h2; simp at h2
    | cons x t =>
      rw [hf] at h2
      simp at h2
      subst h2
      refine ⟨t, ?_⟩
      simp [full, grun, initR, Rc.w, List.getD, hk]
  | e :: es, k, hk => by
    have ih := agree ok r1 r2 es2 es
    have gA := gi_run ok r1 es
    have gB := gi_run ok r2 es2
    generalize hA : grun N r1 es = A at ih gA
    generalize hB : grun N r2 es2 = B at ih gB ⊢
    simp only [grun, hA]
    cases e with
    | inr s => exact ih k hk
    | inl j =>
      simp only [ev]
      split
      · rename_i hst
        by_cases hj : k = j
        · subst hj
          have hc := ih k hk
          cases hi : insAt N k (A.1.w k) with
          | none => have h1 := hst.2; simp [stateOf, hi] at h1
          | some i =>
            have hmem : i ∈ codeOf N k := List.mem_of_getElem? hi
            have hb := (ok.ins k hk i hmem).2.2
            have hu := uses_of_ins hi
            have hfull : full (doStep N A.1 k, fun j => if j = k then A.2 k ++ [A.1.w k] else A.2 j) k = full A k ++ [nextW (A.1.w k) i (A.1.s i.b.toNat).words[(A.1.s i.b.toNat).read]?] := by
              simp only [full, if_true]
              rw [doStep_some hi]
              congr 2
              exact getD_set_self _ _ _ _ (by rw [gA.lenW]; exact hk)
            rw [hfull]
            rcases hc with hc | hc
            · obtain ⟨t, ht⟩ := hc
              cases t with
              | nil => rw [List.append_nil] at ht; rw [← ht]; exact Or.inr (List.prefix_append _ _)
              | cons y rest =>
                have hlen : (B.2 k).length = (A.2 k).length + 1 + rest.length := by
                  have := congrArg List.length ht
                  simp [full] at this
                  omega
                have hjlt : (A.2 k).length < (B.2 k).length := by omega
                obtain ⟨i', h1, h2, h3⟩ := gB.tr5 k hk (A.2 k).length hjlt
                have hat : (B.2 k)[(A.2 k).length] = A.1.w k := by
                  have e1 : (full B k)[(A.2 k).length]? = some (B.2 k)[(A.2 k).length] := by
                    simp only [full]; rw [List.getElem?_append_left hjlt]; exact List.getElem?_eq_getElem hjlt
                  rw [← ht, List.getElem?_append_left (by rw [full_length]; omega)] at e1
                  simp [full] at e1
                  exact e1.symm
                have htk : (B.2 k).take (A.2 k).length = A.2 k := by
                  have e1 : (full B k).take (A.2 k).length = (B.2 k).take (A.2 k).length := by
                    simp only [full]; rw [List.take_append_of_le_length (by omega)]
                  rw [← e1, ← ht]
                  simp [full]
                have hy : (full B k)[(A.2 k).length + 1]? = some y := by
                  rw [← ht, List.getElem?_append_right (by rw [full_length]; omega), full_length]
                  simp
                rw [hat] at h1
                rw [hi] at h1
                cases h1
                rw [hy, hat, htk] at h2
                have h2 := Option.some.inj h2
                rw [htk] at h3
                have hyw : y = nextW (A.1.w k) i (A.1.s i.b.toNat).words[(A.1.s i.b.toNat).read]? := by
                  rw [h2]
                  by_cases ho : i.op = 1
                  · have hbb := hb (Or.inl ho)
                    have hlt' : i.b.toNat < N.streams.length := by omega
                    have hbe : i.b = ((i.b.toNat : Nat) : Int) := by omega
                    have hu1 : usesB (codeOf N k) 1 (i.b.toNat : Nat) = true := by rw [ho] at hu; rw [← hbe]; exact hu
                    have old := gA.rd k i.b.toNat hk hlt' hu1
                    congr 1
                    cases hq : srcd N i.b.toNat
                    · rw [hq] at old
                      simp only [Bool.false_eq_true, if_false] at old
                      rw [← old] at h3 ⊢
                      have hlB := h3 ho hq
                      have hlA : (A.1.s i.b.toNat).read < (A.1.s i.b.toNat).words.length := by
                        have hle := gA.le _ hlt'
                        rcases Nat.lt_or_ge (A.1.s i.b.toNat).read (A.1.s i.b.toNat).words.length with hl | hg
                        · exact hl
                        · exfalso
                          have heq : (A.1.s i.b.toNat).read = (A.1.s i.b.toNat).words.length := by omega
                          have hs2 := hst.2
                          simp only [stateOf, hi] at hs2
                          rw [if_pos ⟨ho, hq, heq⟩] at hs2
                          cases hs2
                      have hcw := words_cmp gA gB ih _ hlt' hq
                      rw [List.getElem?_eq_getElem hlB, List.getElem?_eq_getElem hlA]
                      congr 1
                      exact (hcw.get (List.getElem?_eq_getElem hlA) (List.getElem?_eq_getElem hlB)).symm
                    · rw [hq] at old
                      simp only [if_true] at old
                      rw [old, gA.src _ hlt' hq, gB.src _ hlt' hq]
                      by_cases hle : inN N k i.b.toNat (A.2 k) ≤ (srcWords N i.b.toNat).length
                      · rw [Nat.min_eq_left hle]
                      · rw [Nat.min_eq_right (by omega), List.getElem?_eq_none (Nat.le_refl _), List.getElem?_eq_none (by omega)]
                  · exact nextW_congr _ _ _ _ ho
                rw [← hyw]
                exact Or.inl ⟨rest, by rw [← ht]; simp⟩
            · exact Or.inr (hc.trans (List.prefix_append _ _))
        · have hfull : full (doStep N A.1 j, fun j' => if j' = j then A.2 j ++ [A.1.w j] else A.2 j') k = full A k := by
            simp only [full, if_neg hj]
            rw [doStep_w_ne _ _ _ _ hj]
          rw [hfull]
          exact ih k hk
      · exact ih k hk

/-- The history of a stream. -/
def hist (N : Net) (R : Rc) (s : Nat) : List Int := if srcd N s then (R.s s).words.take (R.s s).read else (R.s s).words

/-- P9. -/
theorem hist_cmp {N : Net} (ok : Ok N) (r1 r2 : List Int) (es1 es2 : List (Nat ⊕ Nat)) (s : Nat) (hs : s < N.streams.length) :
    Cmp (hist N (grun N r1 es1).1 s) (hist N (grun N r2 es2).1 s) := by
  have gA := gi_run ok r1 es1
  have gB := gi_run ok r2 es2
  have h := agree ok r1 r2 es2 es1
  simp only [hist]
  cases hq : srcd N s
  · exact words_cmp gA gB h s hs hq
  · simp only [if_true]
    rw [gA.src s hs hq, gB.src s hs hq]
    exact Cmp.take _ _ _

/-- P10, by true counts. -/
theorem local_eq {N : Net} (ok : Ok N) (r1 r2 : List Int) (es1 es2 : List (Nat ⊕ Nat)) (k : Nat) (hk : k < N.workers.length) (hc : ((grun N r1 es1).2 k).length = ((grun N r2 es2).2 k).length) :
    (grun N r1 es1).1.w k = (grun N r2 es2).1.w k := by
  have h := (agree ok r1 r2 es2 es1 k hk).eq (by simp [full, hc])
  have := congrArg (fun l => l.getLast?) h
  simpa [full] using this

/-- Nobody can go on, and nobody waits to write. -/
def Stuck (N : Net) (R : Rc) : Prop := ∀ k, k < N.workers.length → stateOf N R k = 2 ∨ stateOf N R k = 4

theorem state_two {N : Net} {R : Rc} {k : Nat} {i : Ins} (hi : insAt N k (R.w k) = some i) (h : stateOf N R k = 2 ∨ stateOf N R k = 4) :
    i.op = 1 ∧ srcd N i.b.toNat = false ∧ (R.s i.b.toNat).read = (R.s i.b.toNat).words.length := by
  simp only [stateOf, hi] at h
  by_cases hc : i.op = 1 ∧ srcd N i.b.toNat = false ∧ (R.s i.b.toNat).read = (R.s i.b.toNat).words.length
  · exact hc
  · rw [if_neg hc] at h
    split at h <;> omega

theorem stuck_le {N : Net} (ok : Ok N) (r1 r2 : List Int) (es1 : List (Nat ⊕ Nat)) (hst : Stuck N (grun N r1 es1).1) : ∀ es2, ∀ k, k < N.workers.length → ((grun N r2 es2).2 k).length ≤ ((grun N r1 es1).2 k).length
  | [], k, hk => by simp [grun]
  | e :: es, k, hk => by
    have ih := stuck_le ok r1 r2 es1 hst es
    have gA := gi_run ok r1 es1
    have gB := gi_run ok r2 es
    have hag := agree ok r1 r2 es es1
    generalize hA : grun N r1 es1 = A at *
    generalize hB : grun N r2 es = B at *
    simp only [grun, hB]
    cases e with
    | inr s => exact ih k hk
    | inl j =>
      simp only [ev]
      split
      · rename_i hs1
        by_cases hj : k = j
        · subst hj
          simp only [if_true, List.length_append, List.length_cons, List.length_nil]
          have hle := ih k hk
          rcases Nat.lt_or_ge (B.2 k).length (A.2 k).length with hl | hg
          · omega
          · exfalso
            have heq : full A k = full B k := (hag k hk).eq (by simp [full]; omega)
            have htr : A.2 k = B.2 k := by
              have := congrArg List.dropLast heq
              simpa [full] using this
            have hww : A.1.w k = B.1.w k := by
              have := congrArg (fun l => l.getLast?) heq
              simpa [full] using this
            cases hi : insAt N k (B.1.w k) with
            | none => have := hs1.2; simp [stateOf, hi] at this
            | some i =>
              have hiA : insAt N k (A.1.w k) = some i := by rw [hww]; exact hi
              obtain ⟨ho, hq, hrd⟩ := state_two hiA (hst k hk)
              have hmem : i ∈ codeOf N k := List.mem_of_getElem? hi
              have hbb := (ok.ins k hk i hmem).2.2 (Or.inl ho)
              have hlt' : i.b.toNat < N.streams.length := by omega
              have hbe : i.b = ((i.b.toNat : Nat) : Int) := by omega
              have hu := uses_of_ins hi
              have hu1 : usesB (codeOf N k) 1 (i.b.toNat : Nat) = true := by rw [ho] at hu; rw [← hbe]; exact hu
              have oA := gA.rd k i.b.toNat hk hlt' hu1
              have oB := gB.rd k i.b.toNat hk hlt' hu1
              rw [hq] at oA oB
              simp only [Bool.false_eq_true, if_false] at oA oB
              rw [htr] at oA
              have hlB : (B.1.s i.b.toNat).read < (B.1.s i.b.toNat).words.length := by
                have hle := gB.le _ hlt'
                rcases Nat.lt_or_ge (B.1.s i.b.toNat).read (B.1.s i.b.toNat).words.length with hl | hg
                · exact hl
                · exfalso
                  have heq : (B.1.s i.b.toNat).read = (B.1.s i.b.toNat).words.length := by omega
                  have hs2 := hs1.2
                  simp only [stateOf, hi] at hs2
                  rw [if_pos ⟨ho, hq, heq⟩] at hs2
                  cases hs2
              have hwl : (B.1.s i.b.toNat).words.length ≤ (A.1.s i.b.toNat).words.length := by
                by_cases hw : ∃ k', k' < N.workers.length ∧ usesB (codeOf N k') 2 i.b.toNat = true
                · obtain ⟨k', hk', hu'⟩ := hw
                  rw [gA.wr k' _ hk' hlt' hu', gB.wr k' _ hk' hlt' hu']
                  exact (outW_prefix (((hag k' hk').init.symm).le (ih k' hk'))).length_le
                · have hn : ∀ k, k < N.workers.length → usesB (codeOf N k) 2 i.b.toNat = false := by
                    intro k' hk'
                    cases hu' : usesB (codeOf N k') 2 i.b.toNat
                    · rfl
                    · exact absurd ⟨k', hk', hu'⟩ hw
                  rw [gB.nowr _ hlt' hq hn]
                  exact Nat.zero_le _
              omega
        · simp only [if_neg hj]
          exact ih k hk
      · exact ih k hk

/-- P11. -/
theorem settled_eq {N : Net} (ok : Ok N) (r1 r2 : List Int) (es1 es2 : List (Nat ⊕ Nat)) (h1 : Stuck N (grun N r1 es1).1) (h2 : Stuck N (grun N r2 es2).1) :
    (∀ k, k < N.workers.length → (grun N r1 es1).1.w k = (grun N r2 es2).1.w k) ∧ (∀ s, s < N.streams.length → hist N (grun N r1 es1).1 s = hist N (grun N r2 es2).1 s) := by
  have l1 := stuck_le ok r1 r2 es1 h1 es2
  have l2 := stuck_le ok r2 r1 es2 h2 es1
  have gA := gi_run ok r1 es1
  have gB := gi_run ok r2 es2
  have hag := agree ok r1 r2 es2 es1
  have hfull : ∀ k, k < N.workers.length → full (grun N r1 es1) k = full (grun N r2 es2) k := fun k hk =>
    (hag k hk).eq (by have := l1 k hk; have := l2 k hk; simp only [full_length]; omega)
  have htr : ∀ k, k < N.workers.length → (grun N r1 es1).2 k = (grun N r2 es2).2 k := fun k hk => by
    have := congrArg List.dropLast (hfull k hk)
    simpa [full] using this
  refine ⟨fun k hk => ?_, fun s hs => ?_⟩
  · have := congrArg (fun l => l.getLast?) (hfull k hk)
    simpa [full] using this
  · simp only [hist]
    cases hq : srcd N s
    · simp only [Bool.false_eq_true, if_false]
      by_cases hw : ∃ k', k' < N.workers.length ∧ usesB (codeOf N k') 2 s = true
      · obtain ⟨k', hk', hu'⟩ := hw
        rw [gA.wr k' _ hk' hs hu', gB.wr k' _ hk' hs hu', htr k' hk']
      · have hn : ∀ k, k < N.workers.length → usesB (codeOf N k) 2 s = false := by
          intro k' hk'
          cases hu' : usesB (codeOf N k') 2 s
          · rfl
          · exact absurd ⟨k', hk', hu'⟩ hw
        rw [gA.nowr _ hs hq hn, gB.nowr _ hs hq hn]
    · simp only [if_true]
      rw [gA.src s hs hq, gB.src s hs hq]
      by_cases hr : ∃ k', k' < N.workers.length ∧ usesB (codeOf N k') 1 s = true
      · obtain ⟨k', hk', hu'⟩ := hr
        rw [gA.rd k' _ hk' hs hu', gB.rd k' _ hk' hs hu', htr k' hk']
      · have hn : ∀ k, k < N.workers.length → usesB (codeOf N k) 1 s = false := by
          intro k' hk'
          cases hu' : usesB (codeOf N k') 1 s
          · rfl
          · exact absurd ⟨k', hk', hu'⟩ hr
        rw [gA.nord _ hs hn, gB.nord _ hs hn]

end Go.Proofs.YthfdgdfnflilfaaDoor
/- A race in memory, and what a net that is one gives. -/
namespace Go.Proofs.YthfdgdfnflilfaaDoor
open Go.RowKit Go.Conc

/-! ### Nets that are nets -/
theorem valid_code {N : Net} (h : validB N = true) {k : Nat} (hk : k < N.workers.length) : validCodeB (codeOf N k) N.streams.length = true := by
  simp only [validB, validWorkersB, Bool.and_eq_true] at h
  have := List.all_eq_true.1 h.1.2.2 (codeOf N k) (by unfold codeOf; rw [getD_eq _ _ _ hk]; exact List.getElem_mem hk)
  exact this
theorem valid_ins {N : Net} (h : validB N = true) {k : Nat} (hk : k < N.workers.length) {i : Ins} (hi : i ∈ codeOf N k) : opsValid i (codeOf N k).length N.streams.length = true := by
  have h1 := valid_code h hk
  simp only [validCodeB, Bool.and_eq_true] at h1
  exact List.all_eq_true.1 h1.2 i hi
theorem valid_len {N : Net} (h : validB N = true) {k : Nat} (hk : k < N.workers.length) : 1 ≤ (codeOf N k).length ∧ (codeOf N k).length ≤ 20 := by
  have h1 := valid_code h hk
  simp only [validCodeB, Bool.and_eq_true, decide_eq_true_eq] at h1
  exact ⟨h1.1.1, h1.1.2⟩
theorem valid_ends {N : Net} (h : validB N = true) {s : Nat} (hs : s < N.streams.length) : usersN N.workers 2 s + (if hasSourceB N.sources s then 1 else 0) ≤ 1 ∧ usersN N.workers 1 s ≤ 1 := by
  simp only [validB, validEndsB, Bool.and_eq_true] at h
  have := List.all_eq_true.1 h.2 s (List.mem_range.2 hs)
  simpa using this
theorem valid_counts {N : Net} (h : validB N = true) : 1 ≤ N.streams.length ∧ N.streams.length ≤ 8 ∧ 1 ≤ N.workers.length ∧ N.workers.length ≤ 6 := by
  simp only [validB, validStreamsB, validWorkersB, Bool.and_eq_true, decide_eq_true_eq] at h
  exact ⟨h.1.1.1.1.1, h.1.1.1.1.2, h.1.2.1.1, h.1.2.1.2⟩

theorem codeOf_out {N : Net} {k : Nat} (h : ¬ k < N.workers.length) : codeOf N k = [] := by
  simp only [codeOf, List.getD]; rw [List.getElem?_eq_none (by omega)]; rfl

/-- Two workers that use a stream are two. -/
theorem two_users (l : List (List Ins)) (op s : Int) : ∀ (j k : Nat) (hj : j < l.length) (hk : k < l.length), j < k → usesB l[j] op s = true → usesB l[k] op s = true → 2 ≤ usersN l op s := by
  induction l with
  | nil => intro j k hj; simp at hj
  | cons c l ih =>
    intro j k hj hk hjk h1 h2
    cases k with
    | zero => omega
    | succ k =>
      have hk' : k < l.length := by simpa using hk
      have h2' : usesB l[k] op s = true := by simpa using h2
      cases j with
      | zero =>
        have h1' : usesB c op s = true := by simpa using h1
        have : 0 < usersN l op s := List.countP_pos_iff.2 ⟨l[k], List.getElem_mem hk', h2'⟩
        simp only [usersN, List.countP_cons, h1', if_true] at this ⊢
        omega
      | succ j =>
        have := ih j k (by simpa using hj) hk' (by omega) (by simpa using h1) h2'
        simp only [usersN, List.countP_cons] at this ⊢
        omega

theorem user_unique {N : Net} {op : Int} {s : Nat} (hu : usersN N.workers op s ≤ 1) {k k' : Nat} (h1 : usesB (codeOf N k) op s = true) (h2 : usesB (codeOf N k') op s = true) : k = k' := by
  have hk : k < N.workers.length := by
    rcases Nat.lt_or_ge k N.workers.length with h | h
    · exact h
    · rw [codeOf_out (by omega)] at h1; cases h1
  have hk' : k' < N.workers.length := by
    rcases Nat.lt_or_ge k' N.workers.length with h | h
    · exact h
    · rw [codeOf_out (by omega)] at h2; cases h2
  unfold codeOf at h1 h2
  rw [getD_eq _ _ _ hk] at h1
  rw [getD_eq _ _ _ hk'] at h2
  rcases Nat.lt_trichotomy k k' with h | h | h
  · have := two_users N.workers op s k k' hk hk' h h1 h2; omega
  · exact h
  · have := two_users N.workers op s k' k hk' hk h h2 h1; omega

theorem uses_pos {N : Net} {op : Int} {s : Nat} {k : Nat} (h1 : usesB (codeOf N k) op s = true) : 0 < usersN N.workers op s := by
  have hk : k < N.workers.length := by
    rcases Nat.lt_or_ge k N.workers.length with h | h
    · exact h
    · rw [codeOf_out (by omega)] at h1; cases h1
  unfold codeOf at h1
  rw [getD_eq _ _ _ hk] at h1
  exact List.countP_pos_iff.2 ⟨N.workers[k], List.getElem_mem hk, h1⟩

theorem stream_of_uses {N : Net} (h : validB N = true) {k : Nat} {op : Int} (ho : op = 1 ∨ op = 2) {s : Nat} (h1 : usesB (codeOf N k) op s = true) : s < N.streams.length := by
  have hk : k < N.workers.length := by
    rcases Nat.lt_or_ge k N.workers.length with h | h
    · exact h
    · rw [codeOf_out (by omega)] at h1; cases h1
  obtain ⟨i, hi, hp⟩ := List.any_eq_true.1 h1
  simp only [Bool.and_eq_true, beq_iff_eq] at hp
  have := valid_stream (valid_ins h hk hi) (by rw [hp.1]; exact ho)
  rw [hp.2] at this
  omega

theorem uses_nat {N : Net} (h : validB N = true) {k : Nat} {op : Int} (ho : op = 1 ∨ op = 2) {s : Int} (h1 : usesB (codeOf N k) op s = true) : ∃ s' : Nat, s = s' := by
  have hk : k < N.workers.length := by
    rcases Nat.lt_or_ge k N.workers.length with h | h
    · exact h
    · rw [codeOf_out (by omega)] at h1; cases h1
  obtain ⟨i, hi, hp⟩ := List.any_eq_true.1 h1
  simp only [Bool.and_eq_true, beq_iff_eq] at hp
  have := valid_stream (valid_ins h hk hi) (by rw [hp.1]; exact ho)
  rw [hp.2] at this
  exact Int.eq_ofNat_of_zero_le this.1

theorem valid_ok {N : Net} (h : validB N = true) : Ok N := by
  refine ⟨fun k hk i hi => ?_, fun s k k' h1 h2 => ?_, fun s k k' h1 h2 => ?_, fun s k hq => ?_⟩
  · have hv := valid_ins h hk hi
    exact ⟨(valid_op hv).1, (valid_op hv).2, fun ho => valid_stream hv ho⟩
  · obtain ⟨s', rfl⟩ := uses_nat h (Or.inr rfl) h1
    have hs := stream_of_uses h (Or.inr rfl) h1
    exact user_unique (by have := (valid_ends h hs).1; omega) h1 h2
  · obtain ⟨s', rfl⟩ := uses_nat h (Or.inl rfl) h1
    have hs := stream_of_uses h (Or.inl rfl) h1
    exact user_unique (valid_ends h hs).2 h1 h2
  · cases hu : usesB (codeOf N k) 2 s
    · rfl
    · have hs := stream_of_uses h (Or.inr rfl) hu
      have h1 := (valid_ends h hs).1
      have h2 := uses_pos hu
      have hq' : hasSourceB N.sources s = true := hq
      rw [hq'] at h1
      simp at h1
      omega

/-! ### A race in memory -/
structure Lay where
  p : Nat
  vS : Value
  vW : Value
  st : Nat → Nat
  VW : Nat → Value
  CH : Nat → Option Nat
  wb : Nat → Nat
  VC : Nat → Value

structure RaceAt (L : Lay) (w : World) (N : Net) (R : Rc) : Prop where
  blk : w.heap[L.p]? = some (.cells #[L.vS, L.vW] 65 (0, 0))
  env : Env w L.vS N.streams.length L.st L.VW L.CH (srcd N) R.s
  rowW : ∃ g cap, L.vW = .slice (some ⟨g, 0, none⟩) N.workers.length cap ∧ ∃ cs : List Value, w.heap[g]? = some (.cells cs.toArray 69 (0, 0)) ∧ ∀ i, i < N.workers.length → cs[i]? = some (.pointer (some ⟨L.wb i, 0, none⟩))
  wk : ∀ k, k < N.workers.length → WkAt w (L.wb k) (L.VC k) (codeOf N k) (R.w k)
  ch : ∀ s, s < N.streams.length → srcd N s = false → ((L.CH s).isSome = true ↔ used N s = true)
  injS : ∀ s t, s < N.streams.length → t < N.streams.length → s ≠ t → L.st s ≠ L.st t ∧ (∀ g, (L.VW s).ownBlock = some g → (L.VW t).ownBlock ≠ some g) ∧ (∀ c, L.CH s = some c → L.CH t ≠ some c)
  injW : ∀ j k, j < N.workers.length → k < N.workers.length → j ≠ k → L.wb j ≠ L.wb k
  lenW : R.W.length = N.workers.length
  lenS : R.S.length = N.streams.length
  ok : validB N = true

/-- The blocks of a race. -/
def Foot (L : Lay) (N : Net) (k : Nat) : Prop :=
  k = L.p ∨ L.vS.ownBlock = some k ∨ L.vW.ownBlock = some k ∨ (∃ s, s < N.streams.length ∧ (k = L.st s ∨ (L.VW s).ownBlock = some k ∨ L.CH s = some k)) ∨ (∃ j, j < N.workers.length ∧ (k = L.wb j ∨ (L.VC j).ownBlock = some k))

theorem RaceAt.codeOk {L : Lay} {w : World} {N : Net} {R : Rc} (h : RaceAt L w N R) {k : Nat} (hk : k < N.workers.length) : CodeOk (codeOf N k) N.streams.length L.CH (srcd N) := by
  refine ⟨fun i hi => valid_ins h.ok hk hi, fun i hi ho => ?_, fun i hi ho => ?_⟩
  · have hv := valid_stream (valid_ins h.ok hk hi) (Or.inl ho)
    have hs : i.b.toNat < N.streams.length := by omega
    cases hq : srcd N i.b.toNat
    · refine Or.inr fun hn => ?_
      have hu : used N i.b.toNat = true := by
        have : usesB (codeOf N k) 1 (i.b.toNat : Nat) = true := List.any_eq_true.2 ⟨i, hi, by simp [ho]; omega⟩
        simp only [used, decide_eq_true_eq]; exact uses_pos this
      have := (h.ch _ hs hq).2 hu
      rw [hn] at this; cases this
    · exact Or.inl rfl
  · have hv := valid_stream (valid_ins h.ok hk hi) (Or.inr ho)
    have hu : usesB (codeOf N k) 2 (i.b.toNat : Nat) = true := List.any_eq_true.2 ⟨i, hi, by simp [ho]; omega⟩
    cases hq : srcd N i.b.toNat
    · rfl
    · rw [(valid_ok h.ok).src _ k hq] at hu; cases hu

/-- What a worker would say is what the model says. -/
theorem RaceAt.state {L : Lay} {w : World} {N : Net} {R : Rc} (h : RaceAt L w N R) {k : Nat} (hk : k < N.workers.length) : stateL (codeOf N k) (R.w k) L.CH (srcd N) R.s = stateOf N R k := by
  simp only [stateL, stateOf, insAt]
  cases hi : (codeOf N k)[(R.w k).place]? with
  | none => rfl
  | some i =>
    dsimp only
    have hm : i ∈ codeOf N k := List.mem_of_getElem? hi
    by_cases ho : i.op = 2
    · have hq := (h.codeOk hk).wr i hm ho
      have hv := valid_stream (valid_ins h.ok hk hm) (Or.inr ho)
      have e := h.ch i.b.toNat (by omega) hq
      by_cases hu : used N i.b.toNat = true
      · simp only [e.2 hu, hu]
      · have : ¬ (L.CH i.b.toNat).isSome = true := fun hc => hu (e.1 hc)
        simp only [this, hu]
    · simp only [ho, false_and]

theorem RaceAt.cells {L : Lay} {w : World} {N : Net} {R : Rc} (h : RaceAt L w N R) : w.cell? ⟨L.p, 0, none⟩ = some L.vS ∧ w.cell? ⟨L.p, 1, none⟩ = some L.vW := ⟨row_cell h.blk rfl, row_cell h.blk rfl⟩

end Go.Proofs.YthfdgdfnflilfaaDoor
/- A race in memory: what stays behind a step of one worker. -/
namespace Go.Proofs.YthfdgdfnflilfaaDoor
open Go.RowKit Go.Conc

theorem RaceAt.below {L : Lay} {w w' : World} {N : Net} {R : Rc} (h : RaceAt L w N R) (hb : Below w.heap.size w w') : RaceAt L w' N R := by
  obtain ⟨g, cap, hv, cs, hg, hcs⟩ := h.rowW
  exact ⟨by rw [hb.block _ (lt_of_blk h.blk)]; exact h.blk, h.env.below hb, ⟨g, cap, hv, cs, by rw [hb.block _ (lt_of_blk hg)]; exact hg, hcs⟩, fun k hk => (h.wk k hk).below hb, h.ch, h.injS, h.injW, h.lenW, h.lenS, h.ok⟩

/-- A chan is no cells. -/
theorem chan_ne_cells {w : World} {a b : Nat} {c : Array Value} {s : TypeId} {f : Nat × Nat} {cap : Nat} {buf : Array Value} {cl tm : Bool} {x y : Nat} (hb : w.heap[b]? = some (.chan cap buf cl x y tm)) (ha : w.heap[a]? = some (.cells c s f)) : b ≠ a := fun e => ne_of_chan ha hb e.symm

theorem RaceAt.upd {L : Lay} {w w' : World} {N : Net} {R : Rc} (h : RaceAt L w N R) {k s : Nat} (hk : k < N.workers.length) (hs : s < N.streams.length) {vw' : Value} {y : Wk} {m' : Sm}
    (hw' : WkAt w' (L.wb k) (L.VC k) (codeOf N k) y) (hst : StAt w' (L.st s) vw' (L.CH s) (srcd N s) m')
    (hvw : ∀ g, vw'.ownBlock = some g → (L.VW s).ownBlock = some g ∨ w.heap.size ≤ g)
    (hf : Fr (fun x => x = L.wb k ∨ x = L.st s ∨ (L.VW s).ownBlock = some x ∨ L.CH s = some x) w w') :
    RaceAt { L with VW := fun t => if t = s then vw' else L.VW t } w' N ⟨R.W.set k y, R.S.set s m'⟩ := by
  have hwb := (h.wk k hk).blk
  have hsA := h.env.at' s hs
  have hsb := hsA.blk
  have kept : ∀ z, z < w.heap.size → z ≠ L.wb k → z ≠ L.st s → (∀ g, (L.VW s).ownBlock = some g → z ≠ g) → (∀ c, L.CH s = some c → z ≠ c) → w'.heap[z]? = w.heap[z]? := fun z hz e1 e2 e3 e4 =>
    hf.block z hz (fun hh => hh.elim e1 (fun hh => hh.elim e2 (fun hh => hh.elim (fun hh => e3 z hh rfl) (fun hh => e4 z hh rfl))))
  -- a block of cells of another make
  have keptC : ∀ (z : Nat) (c : Array Value) (t : TypeId) (f : Nat × Nat), w.heap[z]? = some (.cells c t f) → t ≠ 90 → t ≠ 88 → t ≠ 3 → w'.heap[z]? = w.heap[z]? := fun z c t f hz e1 e2 e3 =>
    kept z (lt_of_blk hz) (ne_of_types hz hwb e1) (ne_of_types hz hsb e2)
      (fun g hg => by obtain ⟨cur, hc⟩ := own_block hsA.own hg; exact ne_of_types hz hc e3)
      (fun c' hc' => by obtain ⟨⟨a, r, h1⟩, _⟩ := hsA.chan c' hc'; exact ne_of_chan hz h1)
  obtain ⟨⟨ga, gcap, hva, csa, hga, hcsa⟩, hsm⟩ := h.env.along
  obtain ⟨gw, wcap, hvw', csw, hgw, hcsw⟩ := h.rowW
  -- another stream
  have other : ∀ t, t < N.streams.length → t ≠ s → StAt w' (L.st t) (L.VW t) (L.CH t) (srcd N t) (R.s t) := fun t ht hne => by
    have hT := h.env.at' t ht
    obtain ⟨i1, i2, i3⟩ := h.injS t s ht hs hne
    refine hT.stays fun z hz => ?_
    rcases hz with rfl | hz | hz
    · exact kept _ (lt_of_blk hT.blk) (ne_of_types hT.blk hwb (by decide)) i1
        (fun g hg => by obtain ⟨cur, hc⟩ := own_block hsA.own hg; exact ne_of_types hT.blk hc (by decide))
        (fun c hc => by obtain ⟨⟨a, r, h1⟩, _⟩ := hsA.chan c hc; exact ne_of_chan hT.blk h1)
    · obtain ⟨cur, hcur⟩ := own_block hT.own hz
      exact kept _ (lt_of_blk hcur) (ne_of_types hcur hwb (by decide)) (ne_of_types hcur hsb (by decide))
        (fun g hg e => by subst e; exact i2 z hz hg)
        (fun c hc => by obtain ⟨⟨a, r, h1⟩, _⟩ := hsA.chan c hc; exact ne_of_chan hcur h1)
    · obtain ⟨⟨a, r, h1⟩, _⟩ := hT.chan z hz
      exact kept _ (lt_of_blk h1) (chan_ne_cells h1 hwb) (chan_ne_cells h1 hsb)
        (fun g hg => by obtain ⟨cur, hc⟩ := own_block hsA.own hg; exact chan_ne_cells h1 hc)
        (fun c hc e => by subst e; exact i3 z hz hc)
  have hls : s < R.S.length := by rw [h.lenS]; exact hs
  have hlk : k < R.W.length := by rw [h.lenW]; exact hk
  refine ⟨?_, ⟨⟨⟨ga, gcap, hva, csa, ?_, hcsa⟩, hsm⟩, fun t ht => ?_⟩, ⟨gw, wcap, hvw', csw, ?_, hcsw⟩, fun j hj => ?_, h.ch, fun t u ht hu hne => ?_, h.injW, by simp [h.lenW], by simp [h.lenS], h.ok⟩
  · rw [keptC _ _ _ _ h.blk (by decide) (by decide) (by decide)]; exact h.blk
  · rw [keptC _ _ _ _ hga (by decide) (by decide) (by decide)]; exact hga
  · dsimp only
    by_cases e : t = s
    · subst e
      rw [if_pos rfl]
      have : (⟨R.W.set k y, R.S.set t m'⟩ : Rc).s t = m' := getD_set_self _ _ _ _ hls
      rw [this]; exact hst
    · rw [if_neg e]
      have : (⟨R.W.set k y, R.S.set s m'⟩ : Rc).s t = R.s t := getD_set_ne _ _ _ _ _ (fun e' => e e'.symm)
      rw [this]; exact other t ht e
  · rw [keptC _ _ _ _ hgw (by decide) (by decide) (by decide)]; exact hgw
  · by_cases e : j = k
    · subst e
      have : (⟨R.W.set j y, R.S.set s m'⟩ : Rc).w j = y := getD_set_self _ _ _ _ hlk
      rw [this]; exact hw'
    · have : (⟨R.W.set k y, R.S.set s m'⟩ : Rc).w j = R.w j := getD_set_ne _ _ _ _ _ (fun e' => e e'.symm)
      rw [this]
      have hJ := h.wk j hj
      refine hJ.stays fun z hz => ?_
      rcases hz with rfl | hz
      · exact kept _ (lt_of_blk hJ.blk) (h.injW j k hj hk e) (ne_of_types hJ.blk hsb (by decide))
          (fun g hg => by obtain ⟨cur, hc⟩ := own_block hsA.own hg; exact ne_of_types hJ.blk hc (by decide))
          (fun c hc => by obtain ⟨⟨a, r, h1⟩, _⟩ := hsA.chan c hc; exact ne_of_chan hJ.blk h1)
      · obtain ⟨cur, hcur⟩ := own_block hJ.own hz
        exact keptC _ _ _ _ hcur (by decide) (by decide) (by decide)
  · obtain ⟨i1, i2, i3⟩ := h.injS t u ht hu hne
    refine ⟨i1, fun g hg hg' => ?_, i3⟩
    dsimp only at hg hg'
    by_cases e : t = s
    · subst e
      rw [if_pos rfl] at hg
      rw [if_neg (fun e' => hne e'.symm)] at hg'
      rcases hvw g hg with h1 | h1
      · exact i2 g h1 hg'
      · obtain ⟨cur, hc⟩ := own_block (h.env.at' u hu).own hg'
        have := lt_of_blk hc; omega
    · rw [if_neg e] at hg
      by_cases e2 : u = s
      · subst e2
        rw [if_pos rfl] at hg'
        rcases hvw g hg' with h1 | h1
        · exact i2 g hg h1
        · obtain ⟨cur, hc⟩ := own_block (h.env.at' t ht).own hg
          have := lt_of_blk hc; omega
      · rw [if_neg e2] at hg'
        exact i2 g hg hg'

/-- A step of one worker that turns no stream. -/
theorem RaceAt.alone {L : Lay} {w w' : World} {N : Net} {R : Rc} (h : RaceAt L w N R) {k : Nat} (hk : k < N.workers.length) {y : Wk}
    (hw' : WkAt w' (L.wb k) (L.VC k) (codeOf N k) y) (hf : Fr (fun x => x = L.wb k) w w') : RaceAt L w' N ⟨R.W.set k y, R.S⟩ := by
  have hs : 0 < N.streams.length := (valid_counts h.ok).1
  have hwb := (h.wk k hk).blk
  have hS := h.env.at' 0 hs
  have hst : StAt w' (L.st 0) (L.VW 0) (L.CH 0) (srcd N 0) (R.s 0) := hS.stays fun z hz => by
    refine hf.block z ?_ ?_
    · rcases hz with rfl | hz | hz
      · exact lt_of_blk hS.blk
      · obtain ⟨cur, hc⟩ := own_block hS.own hz; exact lt_of_blk hc
      · obtain ⟨⟨a, r, h1⟩, _⟩ := hS.chan z hz; exact lt_of_blk h1
    · rcases hz with rfl | hz | hz
      · exact ne_of_types hS.blk hwb (by decide)
      · obtain ⟨cur, hc⟩ := own_block hS.own hz; exact ne_of_types hc hwb (by decide)
      · obtain ⟨⟨a, r, h1⟩, _⟩ := hS.chan z hz; exact chan_ne_cells h1 hwb
  have := h.upd hk hs hw' hst (fun g hg => Or.inl hg) (hf.mono fun x _ hx => Or.inl hx)
  have e1 : (fun t => if t = 0 then L.VW 0 else L.VW t) = L.VW := by funext t; split <;> simp_all
  have e2 : R.S.set 0 (R.s 0) = R.S := by
    have hl : 0 < R.S.length := by rw [h.lenS]; exact hs
    have : R.s 0 = R.S[0] := getD_eq _ _ _ hl
    rw [this]; exact List.set_getElem_self hl
  rw [e1, e2] at this
  exact this

end Go.Proofs.YthfdgdfnflilfaaDoor

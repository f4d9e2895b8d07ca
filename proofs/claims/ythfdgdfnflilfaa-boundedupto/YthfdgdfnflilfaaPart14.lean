/- Part 14: Keep7, Open1. -/
import Derived.ProofKit
import Derived.OpenShut
import Derived.JoinedCond
import Derived.ReadAgain
import Derived.Deep.Slices
import Derived.Test.YthfdgdfnflilfaaRows
import Derived.Test.YthfdgdfnflilfaaPart13
/- millracekeep: Bounded of a net, the walk. -/
namespace Go.Proofs.Ythfdgdfnflilfaa
open Go.RowKit Go.Conc

def boxN (sa ar aw : Option Addr) (sl sc rl cr wl cw : Nat) : Obj := .cells #[.slice sa sl sc, .slice ar rl cr, .slice aw wl cw] 26

/-- Look's answer, written out. -/
theorem bat_look {w : World} {box : Obj} {p g : Nat} {n : Net} {R : Rc} {M : List Int} {k : Nat} {wr : World} (h : BAt w box p g n R M k wr) (j : Nat) (hj : j < n.workers.length) :
    Calls Try.prog 10 #[.pointer (some ⟨p, 0, none⟩), .int .i64 j] wr fun e w' => e = .returned (.tuple #[.agg #[.int .i64 (R.w j).place, .int .i64 ((R.w j).r 0), .int .i64 ((R.w j).r 1), .int .i64 ((R.w j).r 2), .int .i64 ((R.w j).r 3), .int .i64 (R.w j).steps, .int .i64 (stateOf n R j : Nat)], .int .i64 0]) ∧ Below wr.heap.size wr w' :=
  has_look h.has j hj

theorem madeCells_zero (n : Nat) : intRow (List.replicate n 0) = List.replicate n (.int .i64 0) := by simp [intRow]

set_option maxRecDepth 100000 in
set_option maxHeartbeats 8000000 in
theorem bounded_net {n : Net} {v vl : Value} {l : List Int} {w : World} (hn : NetAt w v n) (hl : IntsAt w vl l) (hll : l.length ≤ 1048576) (hr : ∀ x ∈ l, InR x) (hok : validB n = true) :
    Calls Try.prog 4 #[v, vl] w fun e w' => e = .returned (.bool true) ∧ Below w.heap.size w w' := by
  have HS : Hid (∀ wx, Calls Try.prog 8 #[] wx fun e w' => e = .returned (.bool true) ∧ Below wx.heap.size wx w') := sure_calls
  have HNet : Hid (∀ wx, Below w.heap.size w wx → NetAt wx v n) := fun wx hx => hn.below hx
  obtain ⟨vs, vr, vw, rfl, h1, h2, h3⟩ := hn
  obtain ⟨sa, sc, rfl, hsn, -, -⟩ := h1.open
  obtain ⟨ar, cr, rfl⟩ := h2.form
  obtain ⟨aw, cw, rfl⟩ := h3.form
  obtain ⟨la, lc, rfl, hln, -, hcl⟩ := hl.open
  have HC : Hid (∀ wx, Below w.heap.size w wx → ∀ k (hk : k < l.length), ∃ b off c, c < 8 ∧ la = some ⟨b, off, none⟩ ∧ wx.cell? ⟨b, off + k, none⟩ = some (.int .i64 l[k]) ∧ ∀ wy, Calls Try.prog 11 #[.int .i64 l[k], .int .i64 8] wy fun e w' => e = .returned (.int .i64 (c : Nat)) ∧ w' = wy) := fun wx hx k hk => by
    obtain ⟨b, off, e1, e2⟩ := hcl wx hx k hk
    exact ⟨b, off, pickN l[k] 8, pickN_lt _ _ (by decide), e1, e2, fun wy => pick_calls l[k] 8 wy (hr _ (List.getElem_mem hk)) (by decide) (by decide)⟩
  have hcount := valid_counts hok
  obtain ⟨hs1, hs8, hw1, hw6⟩ := hcount
  have HN : Hid (∀ wx, Below w.heap.size w wx → Calls Try.prog 9 #[.agg #[.slice sa n.streams.length sc, .slice ar n.sources.length cr, .slice aw n.workers.length cw]] wx fun e w' => ∃ p, e = .returned (.tuple #[.pointer (some ⟨p, 0, none⟩), .int .i64 0]) ∧ Has (fun b => b < wx.heap.size) p n (initR n n.streams) w' ∧ Below wx.heap.size wx w') := fun wx hx => has_new (HNet.out wx hx) hok
  have hb0 : Below (w.heap.size + 1) (w.alloc (boxN sa ar aw n.streams.length sc n.sources.length cr n.workers.length cw)) (w.alloc (boxN sa ar aw n.streams.length sc n.sources.length cr n.workers.length cw)) := Below.refl _ _
  have t0 : (w.alloc (boxN sa ar aw n.streams.length sc n.sources.length cr n.workers.length cw)).heap[w.heap.size]? = some (boxN sa ar aw n.streams.length sc n.sources.length cr n.workers.length cw) := heap_alloc_new _ _
  have HB0 := hide hb0
  have HT0 := hide t0
  have hmk := run_make_row' (P := Try.prog) 22 3 (.int .i64 0) 8 Try.underlying22 Try.info3 rfl .i64 .i64 n.streams.length (by omega) (by omega)
  rw [madeCells_zrow] at hmk
  have HOk := hide hok
  generalize hsl : n.streams.length = sl at *
  generalize hrl : n.sources.length = rl at *
  generalize hwl : n.workers.length = wl at *
  have HSL := hide hsl
  have HWL := hide hwl
  have HRL := hide hrl
  clear h1 h2 h3 hcl hl hr hb0 t0 hok hsl hwl hrl
  go_enter Try.func4, Try.ntmps4
  go_wp2_with fail
  refine (unhide HS _).mono ?_
  rintro e w1 ⟨rfl, hb1⟩
  have hb01 := below_box2 HB0.out hb1
  have t1 : w1.heap[w.heap.size]? = some (.cells #[.slice sa sl sc, .slice ar rl cr, .slice aw wl cw] 26 (0, 0)) := by rw [hb1.block _ (by simp)]; exact HT0.out
  have z0 := (blk_cell t1 0 _ rfl).1
  have z1 := (blk_cell t1 1 _ rfl).1
  have z2 := (blk_cell t1 2 _ rfl).1
  have HB1 := hide hb01
  clear hb01 hb1 t1 HB0 HT0 HS
  go_wp2_with fail
  refine (unhide HN _ (below_box HB1.out)).mono ?_
  rintro e w2 ⟨p, rfl, hr2, hb2⟩
  have HB2 := hide (below_box2 HB1.out hb2)
  have y0 := (hb2.cell (lt_of_cell z0)).trans z0
  have hgt2 : w.heap.size + 1 ≤ w2.heap.size := by have := HB2.out.size; simpa using this
  have HR2 : Hid (Has (fun b => b < w.heap.size + 1) p n (initR n n.streams) w2) := hr2.mono fun b hb => by have := HB1.out.size; simp at this; omega
  clear hb2 hr2 HB1 z0 z1 z2 HN
  go_wp2
  have HBA : Hid (BAt w (boxN sa ar aw sl sc rl cr wl cw) p w2.heap.size n (initR n n.streams) (List.replicate sl 0) 0 (w2.alloc (.cells (zrow (.int .i64 0) sl) 3))) := by
    have hb3 : Below w2.heap.size w2 (w2.alloc (.cells (zrow (.int .i64 0) sl) 3)) := (Below.refl _ _).alloc (Nat.le_refl _) _
    refine ⟨(HR2.out.add hb3).mono fun b hb => ?_, by rw [← HSL.out]; exact BInv.init HOk.out, ?_, below_box2 HB2.out hb3, hgt2⟩
    · rcases hb with hb | hb
      · exact Or.inl hb
      · exact Or.inr (by subst hb; simp)
    · have := heap_alloc_new w2 (.cells (zrow (.int .i64 0) sl) 3)
      rw [madeCells_zero]
      simpa [zrow] using this
  clear HR2 HB2 y0 hmk
  go_loopw [9] (fun i wr => ∃ (k : Nat) (R : Rc) (M : List Int), k ≤ l.length ∧ i = .int .i64 k ∧ BAt w (boxN sa ar aw sl sc rl cr wl cw) p w2.heap.size n R M k wr) (fun i _ => l.length - (intOf i).toNat)
  case atStart => exact ⟨0, _, _, Nat.zero_le _, rfl, HBA.out⟩
  case round =>
    clear HBA
    obtain ⟨k, R, M, hk, rfl, hbat⟩ := hrel
    obtain ⟨wo, hwo⟩ : ∃ wo, wo = wr := ⟨_, rfl⟩
    subst hwo
    have t0 : wo.heap[w.heap.size]? = some (.cells #[.slice sa sl sc, .slice ar rl cr, .slice aw wl cw] 26 (0, 0)) := by
      rw [hbat.bel.block _ (by simp)]; exact heap_alloc_new _ _
    have HT := hide t0
    have HBA := hide hbat
    have hML : M.length = sl := by rw [← HSL.out]; exact hbat.inv.grew.1
    by_cases hlt : k < l.length
    · obtain ⟨b, off, c, hc8, rfl, d0, hpk⟩ := HC.out wo (below_box hbat.bel) k hlt
      have HPk := hide hpk
      have hdl := lt_of_cell d0
      have htl := lt_of_blk t0
      have HD := hide d0
      have HL : Hid (∀ wx, Below wo.heap.size wo wx → ∀ j, j < wl → Calls Try.prog 10 #[.pointer (some ⟨p, 0, none⟩), .int .i64 j] wx fun e w' => e = .returned (.tuple #[.agg #[.int .i64 (R.w j).place, .int .i64 ((R.w j).r 0), .int .i64 ((R.w j).r 1), .int .i64 ((R.w j).r 2), .int .i64 ((R.w j).r 3), .int .i64 (R.w j).steps, .int .i64 (stateOf n R j : Nat)], .int .i64 0]) ∧ Below wx.heap.size wx w') := fun wx hx j hj => bat_look (hbat.below hx) j (by rw [HWL.out]; exact hj)
      clear hpk t0 hbat d0 HC
      go_wp2
      go_loopw [10, 11] (fun f i wq => ∃ j : Nat, j ≤ wl ∧ i = .int .i64 j ∧ f = .bool (goesB n R j) ∧ Below wo.heap.size wo wq) (fun _ i _ => wl - (intOf i).toNat)
      case atStart => exact ⟨0, Nat.zero_le _, rfl, rfl, Below.refl _ _⟩
      case round =>
        obtain ⟨j, hj, rfl, rfl, hbq⟩ := hrel
        have z2 : wr.cell? ⟨w.heap.size, 2, none⟩ = some (.slice aw wl cw) := (hbq.cell (p := ⟨w.heap.size, 2, none⟩) htl).trans (blk_cell HT.out 2 _ rfl).1
        have HBq := hide hbq
        by_cases hjlt : j < wl
        · have HL1 := hide (HL.out wr hbq j hjlt)
          have HG := hide (goesB_succ n R j)
          clear hbq HL HPk HBA HD
          go_wp2_with fail
          refine (unhide HL1).mono ?_
          rintro e w3 ⟨rfl, hb3⟩
          have hbz : Below wo.heap.size wo (w3.alloc (.cells #[.int .i64 (R.w j).place, .int .i64 ((R.w j).r 0), .int .i64 ((R.w j).r 1), .int .i64 ((R.w j).r 2), .int .i64 ((R.w j).r 3), .int .i64 (R.w j).steps, .int .i64 (stateOf n R j : Nat)] 44)) := (HBq.out.trans (hb3.mono HBq.out.size)).alloc (by have := HBq.out.size; have := hb3.size; omega) _
          have HBz := hide hbz
          clear hb3 hbz HL1 z2 HBq
          generalize ((R.w j).place : Int) = a0 at *
          generalize ((R.w j).r 0) = a1 at *
          generalize ((R.w j).r 1) = a2 at *
          generalize ((R.w j).r 2) = a3 at *
          generalize ((R.w j).r 3) = a4 at *
          generalize ((R.w j).steps) = a5 at *
          generalize hst : stateOf n R j = st at *
          have HST := hide hst
          clear hst
          cases hgo : goesB n R j
          · by_cases hs1 : st = 1
            · subst hs1
              go_wp2
              go_roundw
              case rel => exact ⟨j + 1, by omega, by go_num, by rw [HG.out, hgo]; simp, HBz.out⟩
              case measure => simp [intOf]; omega
            · have hs2 : ((st : Int) == 1) = false := by simp; omega
              go_wp2
              go_roundw
              case rel => exact ⟨j + 1, by omega, by go_num, by rw [HG.out, hgo]; simp [hs1], HBz.out⟩
              case measure => simp [intOf]; omega
          · go_wp2
            go_roundw
            case rel => exact ⟨j + 1, by omega, by go_num, by rw [HG.out, hgo]; simp, HBz.out⟩
            case measure => simp [intOf]; omega
        · have hjw : j = wl := by omega
          subst hjw
          have hb4 := HBA.out.below hbq
          have d0 := (hbq.cell hdl).trans HD.out
          have t4 : wr.heap[w.heap.size]? = some (.cells #[.slice sa sl sc, .slice ar rl cr, .slice aw j cw] 26 (0, 0)) := (hbq.block _ htl).trans HT.out
          have htl4 := lt_of_blk t4
          have HB4 := hide hb4
          have HT4 := hide t4
          have HHo : Hid (∀ R' M' wx, BAt w (boxN sa ar aw sl sc rl cr j cw) p w2.heap.size n R' M' (k + 1) wx → Calls Try.prog 14 #[.pointer (some ⟨p, 0, none⟩), .agg #[.slice sa sl sc, .slice ar rl cr, .slice aw j cw], .slice (some ⟨w2.heap.size, 0, none⟩) sl sl] wx fun e w' => e = .returned (.bool true) ∧ BAt w (boxN sa ar aw sl sc rl cr j cw) p w2.heap.size n R' M' (k + 1) w') := fun R' M' wx hx => by
            have hML' : M'.length = sl := by rw [← HSL.out]; exact hx.inv.grew.1
            have hi := ints_of_blk hx.row (by omega)
            rw [hML'] at hi
            exact (has_holds hx.has (HNet.out wx (below_box hx.bel)) hi hx.inv.grew).mono fun e w' ⟨q1, q2⟩ => ⟨q1, hx.below q2⟩
          have HBox : Hid (∀ R' M' k' wx, BAt w (boxN sa ar aw sl sc rl cr j cw) p w2.heap.size n R' M' k' wx → wx.cell? ⟨w.heap.size, 0, none⟩ = some (.slice sa sl sc) ∧ wx.cell? ⟨w.heap.size, 1, none⟩ = some (.slice ar rl cr) ∧ wx.cell? ⟨w.heap.size, 2, none⟩ = some (.slice aw j cw)) := fun R' M' k' wx hx => by
            have t5 : wx.heap[w.heap.size]? = some (.cells #[.slice sa sl sc, .slice ar rl cr, .slice aw j cw] 26 (0, 0)) := by
              rw [hx.bel.block _ (by simp)]; exact heap_alloc_new _ _
            exact ⟨row_cell t5 rfl, row_cell t5 rfl, row_cell t5 rfl⟩
          obtain ⟨z0, z1, -⟩ := HBox.out _ _ _ _ hb4
          have hk0 : (0 : Int) ≤ (k : Int) := by omega
          have hk1 : (k : Int) < (l.length : Int) := by omega
          clear hb4 t4 HD HT HBA hbq HBq
          go_wp2_with fail
          refine (unhide HPk _).mono ?_
          rintro e w4 ⟨rfl, rfl⟩
          by_cases hcw : c < j
          · have HS1 : Hid (∀ wx, Below w4.heap.size w4 wx → Calls Try.prog 12 #[.pointer (some ⟨p, 0, none⟩), .int .i64 c] wx fun e w' => e = .returned (.tuple #[.int .i64 (stateOf n R c), .int .i64 0]) ∧ BAt w (boxN sa ar aw sl sc rl cr j cw) p w2.heap.size n (stepR n R c) M (k + 1) w' ∧ wx.heap.size ≤ w'.heap.size ∧ ∀ b, w4.heap.size ≤ b → b < wx.heap.size → w'.heap[b]? = wx.heap[b]?) := fun wx hx => bat_step HB4.out hx c (by rw [HWL.out]; exact hcw) (by omega)
            have HL1 := hide (bat_look HB4.out c (by rw [HWL.out]; exact hcw))
            have HL2 : Hid (∀ wx, BAt w (boxN sa ar aw sl sc rl cr j cw) p w2.heap.size n (stepR n R c) M (k + 1) wx → Calls Try.prog 10 #[.pointer (some ⟨p, 0, none⟩), .int .i64 c] wx fun e w' => e = .returned (.tuple #[.agg #[.int .i64 ((stepR n R c).w c).place, .int .i64 (((stepR n R c).w c).r 0), .int .i64 (((stepR n R c).w c).r 1), .int .i64 (((stepR n R c).w c).r 2), .int .i64 (((stepR n R c).w c).r 3), .int .i64 ((stepR n R c).w c).steps, .int .i64 (stateOf n (stepR n R c) c : Nat)], .int .i64 0]) ∧ Below wx.heap.size wx w') := fun wx hx => bat_look hx c (by rw [HWL.out]; exact hcw)
            have hWl := (has_len HB4.out.has).1
            have HCase : Hid ((stateOf n R c = 1 ∧ ((stepR n R c).w c).steps = wrap64 ((R.w c).steps + 1)) ∨ (stateOf n R c ≠ 1 ∧ (stepR n R c) = R)) := by
              by_cases hst : stateOf n R c = 1
              · refine Or.inl ⟨hst, ?_⟩
                rw [stepR, if_pos hst]
                exact doStep_steps (by rw [hWl, HWL.out]; exact hcw) hst
              · exact Or.inr ⟨hst, by rw [stepR, if_neg hst]⟩
            have hc7 : (((c : Nat) : Int) == 7) = false := by simp; omega
            clear d0 hWl HL HPk HB4 HT4 HNet
            rcases HCase.out with ⟨hst, h5⟩ | ⟨hst, h5⟩
            · clear HCase
              rw [hst] at HL1 HS1
              generalize stepR n R c = R2 at *
              have H5 : Hid (IntKind.i64.wrap ((R.w c).steps + 1) = (R2.w c).steps) := by unfold Hid; rw [IntKind.wrap_i64, h5, wrap64]
              clear h5 hst
              generalize ((R.w c).place : Int) = a0 at *
              generalize ((R.w c).r 0) = a1 at *
              generalize ((R.w c).r 1) = a2 at *
              generalize ((R.w c).r 2) = a3 at *
              generalize ((R.w c).r 3) = a4 at *
              generalize ((R.w c).steps) = a5 at *
              generalize ((R2.w c).place : Int) = b0 at *
              generalize ((R2.w c).r 0) = b1 at *
              generalize ((R2.w c).r 1) = b2 at *
              generalize ((R2.w c).r 2) = b3 at *
              generalize ((R2.w c).r 3) = b4 at *
              generalize ((R2.w c).steps) = b5 at *
              generalize (stateOf n R2 c) = b6 at *
              go_wp2_with fail
              refine (unhide HL1).mono ?_
              rintro e w5 ⟨rfl, hb5⟩
              have hs5 := hb5.size
              have HB5 := hide hb5
              clear hb5 HL1
              go_wp2_with fail
              refine (unhide HS1 _ ?_).mono ?_
              · exact HB5.out.alloc (by omega) _
              rintro e w6 ⟨rfl, hbat6, hsz6, hbl6⟩
              have u6 : w6.heap[w5.heap.size]? = some (.cells #[.int .i64 a0, .int .i64 a1, .int .i64 a2, .int .i64 a3, .int .i64 a4, .int .i64 a5, .int .i64 (1 : Nat)] 44 (0, 0)) := (hbl6 _ hs5 (by simp)).trans (heap_alloc_new _ _)
              have HB6 := hide hbat6
              have HU6 := hide u6
              clear hbat6 hbl6 u6 hsz6 HS1 HB5
              go_wp2_with fail
              refine (unhide HL2 _ HB6.out).mono ?_
              rintro e w7 ⟨rfl, hb7⟩
              have ul := lt_of_blk HU6.out
              have u7 := (hb7.block _ ul).trans HU6.out
              have ul7 := lt_of_blk u7
              have x2 := (blk_cell u7 5 _ rfl).1
              have x3 := (blk_cell u7 6 _ rfl).1
              have w5l := H5.out
              have HB7 : Hid (BAt w (boxN sa ar aw sl sc rl cr j cw) p w2.heap.size n R2 M (k + 1) (w7.alloc (.cells #[.int .i64 b0, .int .i64 b1, .int .i64 b2, .int .i64 b3, .int .i64 b4, .int .i64 b5, .int .i64 (b6 : Nat)] 44))) := (HB6.out.below hb7).below ((Below.refl _ _).alloc (Nat.le_refl _) _)
              clear hb7 HB6 HU6 u7 HL2 H5
              obtain ⟨z0, z1, z2⟩ := HBox.out _ _ _ _ HB7.out
              go_wp2_with fail
              refine (unhide HHo _ _ _ HB7.out).mono ?_
              rintro e w8 ⟨rfl, hb8⟩
              have HB8 := hide hb8
              clear hb8 HB7 z0 z1 z2 HHo HBox
              go_wp2
              go_roundw
              case rel => exact ⟨k + 1, R2, M, by omega, by go_num, HB8.out⟩
              case measure => simp [intOf]; omega
            · clear HCase
              rw [h5] at HL2 HS1
              clear h5
              generalize hst2 : stateOf n R c = st at *
              have HST2 := hide hst2
              clear hst2
              have e1 : (((st : Nat) : Int) == 1) = false := by simp; omega
              have e2 : (((st : Nat) : Int) != 1) = true := by simp; omega
              have e3 : (((st : Nat) : Int) != ((st : Nat) : Int)) = false := by simp
              generalize ((R.w c).place : Int) = a0 at *
              generalize ((R.w c).r 0) = a1 at *
              generalize ((R.w c).r 1) = a2 at *
              generalize ((R.w c).r 2) = a3 at *
              generalize ((R.w c).r 3) = a4 at *
              generalize ((R.w c).steps) = a5 at *
              have hlk : ∀ wx : World, (Op.equalIn 10000 44 (.agg #[.int .i64 a0, .int .i64 a1, .int .i64 a2, .int .i64 a3, .int .i64 a4, .int .i64 a5, .int .i64 (st : Nat)]) (.agg #[.int .i64 a0, .int .i64 a1, .int .i64 a2, .int .i64 a3, .int .i64 a4, .int .i64 a5, .int .i64 (st : Nat)])).run Try.prog wx = .ok true wx := fun wx => by rw [eqLook]; simp
              go_wp2_with fail
              refine (unhide HL1).mono ?_
              rintro e w5 ⟨rfl, hb5⟩
              have hs5 := hb5.size
              have HB5 := hide hb5
              clear hb5 HL1
              go_wp2_with fail
              refine (unhide HS1 _ ?_).mono ?_
              · exact HB5.out.alloc (by omega) _
              rintro e w6 ⟨rfl, hbat6, hsz6, hbl6⟩
              have u6 : w6.heap[w5.heap.size]? = some (.cells #[.int .i64 a0, .int .i64 a1, .int .i64 a2, .int .i64 a3, .int .i64 a4, .int .i64 a5, .int .i64 (st : Nat)] 44 (0, 0)) := (hbl6 _ hs5 (by simp)).trans (heap_alloc_new _ _)
              have HB6 := hide hbat6
              have HU6 := hide u6
              clear hbat6 hbl6 u6 hsz6 HS1 HB5
              go_wp2_with fail
              refine (unhide HL2 _ HB6.out).mono ?_
              rintro e w7 ⟨rfl, hb7⟩
              have ul := lt_of_blk HU6.out
              have u7 := (hb7.block _ ul).trans HU6.out
              have ul7 := lt_of_blk u7
              have x0 := (blk_cell u7 0 _ rfl).1
              have x1 := (blk_cell u7 1 _ rfl).1
              have x2 := (blk_cell u7 2 _ rfl).1
              have x3 := (blk_cell u7 3 _ rfl).1
              have x4 := (blk_cell u7 4 _ rfl).1
              have x5 := (blk_cell u7 5 _ rfl).1
              have x6 := (blk_cell u7 6 _ rfl).1
              have HB7 : Hid (BAt w (boxN sa ar aw sl sc rl cr j cw) p w2.heap.size n R M (k + 1) (w7.alloc (.cells #[.int .i64 a0, .int .i64 a1, .int .i64 a2, .int .i64 a3, .int .i64 a4, .int .i64 a5, .int .i64 (st : Nat)] 44))) := (HB6.out.below hb7).below ((Below.refl _ _).alloc (Nat.le_refl _) _)
              clear hb7 HB6 HU6 u7 HL2
              obtain ⟨z0, z1, z2⟩ := HBox.out _ _ _ _ HB7.out
              go_wp2_with fail
              refine (unhide HHo _ _ _ HB7.out).mono ?_
              rintro e w8 ⟨rfl, hb8⟩
              have HB8 := hide hb8
              clear hb8 HB7 z0 z1 z2 HHo HBox
              go_wp2
              go_roundw
              case rel => exact ⟨k + 1, R, M, by omega, by go_num, HB8.out⟩
              case measure => simp [intOf]; omega
          · have hcw' : decide (((c : Nat) : Int) < (j : Int)) = false := by simp; omega
            by_cases h7 : c = 7
            · subst h7
              have HG := hide (bat_grow HB4.out)
              rw [HWL.out, HSL.out] at HG
              clear d0 HL HPk HB4 HT4 HNet
              go_wp2_with fail
              refine (unhide HG).mono ?_
              clear HG
              rintro e w7 (⟨bb, hbb, rfl, hb7⟩ | ⟨t, ht, hgo, rfl, hm0, hm1, hcell, hfro, hb7⟩)
              · have HB7 := hide hb7
                obtain ⟨z0, z1, z2⟩ := HBox.out _ _ _ _ hb7
                clear hb7
                rcases hbb with rfl | rfl
                · go_wp2_with fail
                  refine (unhide HHo _ _ _ HB7.out).mono ?_
                  rintro e w8 ⟨rfl, hb8⟩
                  have HB8 := hide hb8
                  clear hb8 HB7 z0 z1 z2 HHo HBox
                  go_wp2
                  go_roundw
                  case rel => exact ⟨k + 1, R, M, by omega, by go_num, HB8.out⟩
                  case measure => simp [intOf]; omega
                · go_wp2_with fail
                  refine (unhide HHo _ _ _ HB7.out).mono ?_
                  rintro e w8 ⟨rfl, hb8⟩
                  have HB8 := hide hb8
                  clear hb8 HB7 z0 z1 z2 HHo HBox
                  go_wp2
                  go_roundw
                  case rel => exact ⟨k + 1, R, M, by omega, by go_num, HB8.out⟩
                  case measure => simp [intOf]; omega
              · have HB7 := hide hb7
                obtain ⟨z0, z1, z2⟩ := HBox.out _ _ _ _ hb7
                have hm : M.length = sl := hML
                rw [hgo]
                clear hb7
                generalize M.getD t 0 = mv at *
                go_wp2_with fail
                refine (unhide HHo _ _ _ HB7.out).mono ?_
                rintro e w8 ⟨rfl, hb8⟩
                have HB8 := hide hb8
                clear hb8 HB7 z0 z1 z2 HHo HBox
                go_wp2
                go_roundw
                case rel => exact ⟨k + 1, _, _, by omega, by go_num, HB8.out⟩
                case measure => simp [intOf]; omega
            · have h7' : (((c : Nat) : Int) == 7) = false := by simp; omega
              have HB7 := hide HB4.out.mono
              obtain ⟨z0, z1, z2⟩ := HBox.out _ _ _ _ HB4.out
              clear d0 HL HPk HB4 HT4 HNet
              go_wp2_with fail
              refine (unhide HHo _ _ _ HB7.out).mono ?_
              rintro e w8 ⟨rfl, hb8⟩
              have HB8 := hide hb8
              clear hb8 HB7 z0 z1 z2 HHo HBox
              go_wp2
              go_roundw
              case rel => exact ⟨k + 1, R, M, by omega, by go_num, HB8.out⟩
              case measure => simp [intOf]; omega
    · clear HC
      go_wp2
      go_ret
      exact ⟨rfl, below_box HBA.out.bel⟩

end Go.Proofs.Ythfdgdfnflilfaa
/- What comes in, read as nets and lists of numbers. -/
namespace Go.Proofs.Ythfdgdfnflilfaa
open Go.ChangeShapes Go.WideShapes Go.ChangeAt Go.RowKit Go.Deep

/-- A number of 64 bits. -/
def Fits (c : Int) : Prop := -9223372036854775808 ≤ c ∧ c ≤ 9223372036854775807

namespace bulks
theorem one_le {H : Type} (d : DataW H) : 1 ≤ Rows.uptoBulk d := by
  cases d with
  | lit l => cases l <;> simp [Rows.uptoBulk]
  | nil => simp [Rows.uptoBulk]
  | ptr d => simp [Rows.uptoBulk]
  | slice elems spare => simp [Rows.uptoBulk]
  | agg parts => simp [Rows.uptoBulk]
  | iface t d => simp [Rows.uptoBulk]
  | map entries => simp [Rows.uptoBulk]
  | held h => simp [Rows.uptoBulk]
theorem part_le {H : Type} {d : DataW H} {l : List (DataW H)} (h : d ∈ l) : Rows.uptoBulk d ≤ Rows.uptoBulkAll l := by
  induction l with
  | nil => cases h
  | cons x r ih =>
    simp only [Rows.uptoBulkAll]
    cases List.mem_cons.1 h with
    | inl e => subst e; omega
    | inr e => have := ih e; omega
theorem length_le {H : Type} (l : List (DataW H)) : l.length ≤ Rows.uptoBulkAll l := by
  induction l with
  | nil => simp [Rows.uptoBulkAll]
  | cons x r ih => have := one_le x; simp only [Rows.uptoBulkAll, List.length_cons]; omega
end bulks

instance : Inhabited Ins := ⟨⟨0, 0, 0, 0⟩⟩
instance : Inhabited Src := ⟨⟨0, []⟩⟩

section
variable {H : Type} {enc : TypeId × Value → H} {w : World}

/-- A slice that came in, element by element. -/
theorem sl_of_trod {t e : TypeId} {c fuel : Nat} {cs : List Value} {d : DataW H} {ps : List MemPlace} (ht : Try.prog.underlying t = some (.slice e)) (hc : Try.prog.cellsOf e = c) (hc0 : 0 < c)
    (h : DataW.trod enc Try.prog w 0 (fun _ => true) true fuel t cs = some (d, ps)) (hb : Rows.uptoBulk d ≤ 1048576) :
    ∃ (v : Value) (len n : Nat) (CS : Nat → List Value) (D : Nat → DataW H) (Pl : Nat → List MemPlace), cs = [v] ∧ len ≤ 1048576 ∧ Sl w v len c (fun i j => (CS i).getD j (.bool false)) ∧
      ∀ i, i < len → (CS i).length = c ∧ DataW.trod enc Try.prog w 0 (fun _ => true) true n e (CS i) = some (D i, Pl i) ∧ Rows.uptoBulk (D i) ≤ 1048576 := by
  rcases open_slice ht h with ⟨rfl, h0⟩ | ⟨a, len, cap, m, n, D, Pl, rfl, -, hl, hm, hmm, hx, hi⟩
  · exact ⟨.slice none 0 0, 0, 0, fun _ => [], fun _ => .nil, fun _ => [], rfl, by omega, ⟨none, 0, rfl, by omega, by omega, Or.inl rfl⟩, fun i hi => by omega⟩
  · simp only [if_true] at hmm
    subst hmm
    obtain ⟨hd, -⟩ := Prod.mk.inj hx
    have hbl : ∀ i, i < len → Rows.uptoBulk (D i) ≤ 1048576 := fun i hi => by
      rw [hd] at hb
      simp only [Rows.uptoBulk] at hb
      have := bulks.part_le (d := D i) (l := (List.range len).map D) (List.mem_map.2 ⟨i, List.mem_range.2 hi, rfl⟩)
      omega
    have hlen : len ≤ 1048576 := by
      rw [hd] at hb
      simp only [Rows.uptoBulk] at hb
      have := bulks.length_le ((List.range len).map D)
      simp at this
      omega
    rw [hc] at hi
    obtain ⟨CS, hCS⟩ := choose_lt (α := List Value) (p := fun i cs' => w.cells? 0 (a.add (i * c)) c = some cs' ∧ DataW.trod enc Try.prog w 0 (fun _ => true) true n e cs' = some (D i, Pl i)) hi
    have hcell : ∀ i, i < len → (CS i).length = c ∧ ∀ j, j < c → w.cell? ((a.add (i * c)).add j) = (CS i)[j]? := fun i hi' => by
      obtain ⟨-, q1, q2⟩ := World.cells?_some (hCS i (by omega)).1
      exact ⟨q1, q2⟩
    refine ⟨_, len, n, CS, D, Pl, rfl, hlen, ⟨some a, _, rfl, by omega, hl, ?_⟩, fun i hi' => ⟨(hcell i hi').1, (hCS i (by omega)).2, hbl i hi'⟩⟩
    rcases Nat.eq_zero_or_pos len with h0 | h0
    · exact Or.inl h0
    · obtain ⟨b, off, spot⟩ := a
      have hspot : spot = none := by
        have := (hcell 0 h0).2 0 hc0
        rw [List.getElem?_eq_getElem (by rw [(hcell 0 h0).1]; exact hc0)] at this
        simpa [Addr.add] using World.cell?_spot this
      subst hspot
      refine Or.inr ⟨b, off, rfl, fun i hi' j hj => ?_⟩
      have := (hcell i hi').2 j hj
      rw [add_plain, add_plain] at this
      rw [this, List.getElem?_eq_getElem (by rw [(hcell i hi').1]; exact hj)]
      simp [List.getD, (hcell i hi').1, hj]

theorem inR_of_wf {x : Int} (h : (Lit.int .i64 x).wf = true) : Fits x := bounds_i64 h

theorem range_getD {α : Type} (V : Nat → α) (len i : Nat) (d : α) (h : i < len) : ((List.range len).map V).getD i d = V i := by simp [List.getD, h]

theorem ints_of_trod {fuel : Nat} {cs : List Value} {d : DataW H} {ps : List MemPlace} (h : DataW.trod enc Try.prog w 0 (fun _ => true) true fuel 22 cs = some (d, ps)) (hb : Rows.uptoBulk d ≤ 1048576) :
    ∃ v l, cs = [v] ∧ IntsAt w v l ∧ l.length ≤ 1048576 ∧ ∀ x ∈ l, Fits x := by
  obtain ⟨v, len, n, CS, D, Pl, hcs, hlen, hsl, hi⟩ := sl_of_trod (e := 3) Try.underlying22 (by kernel_rfl) Nat.one_pos h hb
  obtain ⟨V, hV⟩ := choose_lt (α := Int) (n := len) (p := fun i x => CS i = [.int .i64 x] ∧ Fits x) (fun i hi' => by
    obtain ⟨q1, q2, q3⟩ := hi i hi'
    obtain ⟨x, hx, -, hw⟩ := DataW.trod_int Try.underlying3 q2
    exact ⟨x, hx, inR_of_wf hw⟩)
  refine ⟨v, (List.range len).map V, hcs, ?_, by simpa using hlen, fun x hx => ?_⟩
  · have hl : ((List.range len).map V).length = len := by simp
    unfold IntsAt
    rw [hl]
    refine hsl.congr fun i hi' j hj => ?_
    have hj0 : j = 0 := by omega
    subst hj0
    rw [(hV i hi').1, range_getD _ _ _ _ hi']
    rfl
  · obtain ⟨i, hi', rfl⟩ := List.mem_map.1 hx
    exact (hV i (List.mem_range.1 hi')).2

set_option maxRecDepth 100000 in
theorem ins_of_trod {fuel : Nat} {cs : List Value} {x : DataW H × List MemPlace} (h : DataW.trod enc Try.prog w 0 (fun _ => true) true fuel 56 cs = some x) : ∃ i : Ins, cs = [.int .i64 i.op, .int .i64 i.a, .int .i64 i.b, .int .i64 i.c] := by
  obtain ⟨xs, n, -, -, hl, hxs, hf⟩ := DataW.trod_struct Try.underlying56 h
  have c56 : Try.prog.cellsOf 56 = 4 := by kernel_rfl
  have hl4 : cs.length = 4 := hl.trans c56
  have hx4 : xs.length = 4 := hxs
  have c3 : Try.prog.cellsOf 3 = 1 := by kernel_rfl
  match cs, hl4, xs, hx4 with
  | [c0, c1, c2, c3'], _, [y0, y1, y2, y3], _ =>
    have e0 : DataW.trod enc Try.prog w 0 (fun _ => true) true n 3 (([c0, c1, c2, c3'].drop 0).take (Try.prog.cellsOf 3)) = some y0 := hf 0 _ rfl
    have e1 : DataW.trod enc Try.prog w 0 (fun _ => true) true n 3 (([c0, c1, c2, c3'].drop 1).take (Try.prog.cellsOf 3)) = some y1 := hf 1 _ rfl
    have e2 : DataW.trod enc Try.prog w 0 (fun _ => true) true n 3 (([c0, c1, c2, c3'].drop 2).take (Try.prog.cellsOf 3)) = some y2 := hf 2 _ rfl
    have e3 : DataW.trod enc Try.prog w 0 (fun _ => true) true n 3 (([c0, c1, c2, c3'].drop 3).take (Try.prog.cellsOf 3)) = some y3 := hf 3 _ rfl
    rw [c3] at e0 e1 e2 e3
    obtain ⟨z0, g0, -⟩ := DataW.trod_int Try.underlying3 e0
    obtain ⟨z1, g1, -⟩ := DataW.trod_int Try.underlying3 e1
    obtain ⟨z2, g2, -⟩ := DataW.trod_int Try.underlying3 e2
    obtain ⟨z3, g3, -⟩ := DataW.trod_int Try.underlying3 e3
    simp at g0 g1 g2 g3
    exact ⟨⟨z0, z1, z2, z3⟩, by rw [g0, g1, g2, g3]⟩

theorem code_of_trod {fuel : Nat} {cs : List Value} {d : DataW H} {ps : List MemPlace} (h : DataW.trod enc Try.prog w 0 (fun _ => true) true fuel 57 cs = some (d, ps)) (hb : Rows.uptoBulk d ≤ 1048576) :
    ∃ v l, cs = [v] ∧ CodeAt w v l ∧ l.length ≤ 1048576 := by
  obtain ⟨v, len, n, CS, D, Pl, hcs, hlen, hsl, hi⟩ := sl_of_trod (c := 4) (e := 56) Try.underlying57 (by kernel_rfl) (by decide) h hb
  obtain ⟨V, hV⟩ := choose_lt (α := Ins) (n := len) (p := fun i x => CS i = [.int .i64 x.op, .int .i64 x.a, .int .i64 x.b, .int .i64 x.c]) (fun i hi' => ins_of_trod (hi i hi').2.1)
  refine ⟨v, (List.range len).map V, hcs, ?_, by simpa using hlen⟩
  have hl : ((List.range len).map V).length = len := by simp
  unfold CodeAt
  rw [hl]
  refine hsl.congr fun i hi' j hj => ?_
  rw [hV i hi', range_getD _ _ _ _ hi']
  have : j = 0 ∨ j = 1 ∨ j = 2 ∨ j = 3 := by omega
  rcases this with rfl | rfl | rfl | rfl <;> rfl

theorem workers_of_trod {fuel : Nat} {cs : List Value} {d : DataW H} {ps : List MemPlace} (h : DataW.trod enc Try.prog w 0 (fun _ => true) true fuel 24 cs = some (d, ps)) (hb : Rows.uptoBulk d ≤ 1048576) :
    ∃ v l, cs = [v] ∧ WorkersAt w v l ∧ l.length ≤ 1048576 ∧ ∀ c ∈ l, c.length ≤ 1048576 := by
  obtain ⟨v, len, n, CS, D, Pl, hcs, hlen, hsl, hi⟩ := sl_of_trod (c := 1) (e := 57) Try.underlying24 (by kernel_rfl) (by decide) h hb
  obtain ⟨V, hV⟩ := choose_lt (α := Value × List Ins) (n := len) (p := fun i x => CS i = [x.1] ∧ CodeAt w x.1 x.2 ∧ x.2.length ≤ 1048576) (fun i hi' => by
    obtain ⟨q1, q2, q3⟩ := hi i hi'
    obtain ⟨v', l', e1, e2, e3⟩ := code_of_trod q2 q3
    exact ⟨(v', l'), e1, e2, e3⟩)
  refine ⟨v, (List.range len).map fun i => (V i).2, hcs, ⟨fun i => (V i).1, ?_, fun i hi' => ?_⟩, by simpa using hlen, fun c hc => ?_⟩
  · have hl : ((List.range len).map fun i => (V i).2).length = len := by simp
    rw [hl]
    refine hsl.congr fun i hi' j hj => ?_
    have hj0 : j = 0 := by omega
    subst hj0
    rw [(hV i hi').1]
    rfl
  · have hi2 : i < len := by simpa using hi'
    simpa using (hV i hi2).2.1
  · obtain ⟨i, hi', rfl⟩ := List.mem_map.1 hc
    exact (hV i (List.mem_range.1 hi')).2.2

set_option maxRecDepth 100000 in
theorem source_of_trod {fuel : Nat} {cs : List Value} {d : DataW H} {ps : List MemPlace} (h : DataW.trod enc Try.prog w 0 (fun _ => true) true fuel 54 cs = some (d, ps)) (hb : Rows.uptoBulk d ≤ 1048576) :
    ∃ (s : Src) (v : Value), cs = [.int .i64 s.stream, v] ∧ IntsAt w v s.words ∧ s.words.length ≤ 1048576 := by
  obtain ⟨xs, n, -, hx, hl, hxs, hf⟩ := DataW.trod_struct Try.underlying54 h
  have c54 : Try.prog.cellsOf 54 = 2 := by kernel_rfl
  have hl2 : cs.length = 2 := hl.trans c54
  have hx2 : xs.length = 2 := hxs
  have c3 : Try.prog.cellsOf 3 = 1 := by kernel_rfl
  have c22 : Try.prog.cellsOf 22 = 1 := by kernel_rfl
  match cs, hl2, xs, hx2, hx with
  | [c0, c1], _, [y0, y1], _, hx =>
    have e0 : DataW.trod enc Try.prog w 0 (fun _ => true) true n 3 (([c0, c1].drop 0).take (Try.prog.cellsOf 3)) = some y0 := hf 0 _ rfl
    have e1 : DataW.trod enc Try.prog w 0 (fun _ => true) true n 22 (([c0, c1].drop 1).take (Try.prog.cellsOf 22)) = some y1 := hf 1 _ rfl
    rw [c3] at e0
    rw [c22] at e1
    obtain ⟨z0, g0, -⟩ := DataW.trod_int Try.underlying3 e0
    have hd : d = .agg [y0.1, y1.1] := by have := (Prod.mk.inj hx).1; simpa using this
    have hby : Rows.uptoBulk y1.1 ≤ 1048576 := by
      rw [hd] at hb
      simp only [Rows.uptoBulk, Rows.uptoBulkAll] at hb
      omega
    obtain ⟨v', l', q1, q2, q3, -⟩ := ints_of_trod (d := y1.1) (ps := y1.2) e1 hby
    simp at g0 q1
    exact ⟨⟨z0, l'⟩, v', by rw [g0, q1], q2, q3⟩

theorem sources_of_trod {fuel : Nat} {cs : List Value} {d : DataW H} {ps : List MemPlace} (h : DataW.trod enc Try.prog w 0 (fun _ => true) true fuel 23 cs = some (d, ps)) (hb : Rows.uptoBulk d ≤ 1048576) :
    ∃ v l, cs = [v] ∧ SourcesAt w v l ∧ l.length ≤ 1048576 ∧ ∀ s ∈ l, s.words.length ≤ 1048576 := by
  obtain ⟨v, len, n, CS, D, Pl, hcs, hlen, hsl, hi⟩ := sl_of_trod (c := 2) (e := 54) Try.underlying23 (by kernel_rfl) (by decide) h hb
  obtain ⟨V, hV⟩ := choose_lt (α := Value × Src) (n := len) (p := fun i x => CS i = [.int .i64 x.2.stream, x.1] ∧ IntsAt w x.1 x.2.words ∧ x.2.words.length ≤ 1048576) (fun i hi' => by
    obtain ⟨q1, q2, q3⟩ := hi i hi'
    obtain ⟨s', v', e1, e2, e3⟩ := source_of_trod q2 q3
    exact ⟨(v', s'), e1, e2, e3⟩)
  refine ⟨v, (List.range len).map fun i => (V i).2, hcs, ⟨fun i => (V i).1, ?_, fun i hi' => ?_⟩, by simpa using hlen, fun c hc => ?_⟩
  · have hl : ((List.range len).map fun i => (V i).2).length = len := by simp
    rw [hl]
    refine hsl.congr fun i hi' j hj => ?_
    rw [(hV i hi').1, range_getD _ _ _ _ hi']
    have : j = 0 ∨ j = 1 := by omega
    rcases this with rfl | rfl <;> rfl
  · have hi2 : i < len := by simpa using hi'
    simpa using (hV i hi2).2.1
  · obtain ⟨i, hi', rfl⟩ := List.mem_map.1 hc
    exact (hV i (List.mem_range.1 hi')).2.2

/-- How long a net's lists are at the most. -/
def ShortNet (n : Net) : Prop := n.streams.length ≤ 1048576 ∧ n.sources.length ≤ 1048576 ∧ n.workers.length ≤ 1048576 ∧ (∀ s ∈ n.sources, s.words.length ≤ 1048576) ∧ (∀ c ∈ n.workers, c.length ≤ 1048576)

set_option maxRecDepth 100000 in
theorem net_of_trod {fuel : Nat} {v : Value} {d : DataW H} {ps : List MemPlace} (hv : ∃ cs, v = .agg cs) (h : DataW.trod enc Try.prog w 0 (fun _ => true) true fuel 26 v.cells.toList = some (d, ps)) (hb : Rows.uptoBulk d ≤ 1048576) :
    ∃ n, NetAt w v n ∧ ShortNet n := by
  obtain ⟨cs, rfl⟩ := hv
  obtain ⟨xs, n, -, hx, hl, hxs, hf⟩ := DataW.trod_struct Try.underlying26 h
  have c26 : Try.prog.cellsOf 26 = 3 := by kernel_rfl
  have hl3 : cs.toList.length = 3 := hl.trans c26
  have hx3 : xs.length = 3 := hxs
  have c22 : Try.prog.cellsOf 22 = 1 := by kernel_rfl
  have c23 : Try.prog.cellsOf 23 = 1 := by kernel_rfl
  have c24 : Try.prog.cellsOf 24 = 1 := by kernel_rfl
  obtain ⟨cl⟩ := cs
  simp only [Value.cells] at hl3 hf
  match cl, hl3, xs, hx3, hx with
  | [k0, k1, k2], _, [y0, y1, y2], _, hx =>
    have e0 : DataW.trod enc Try.prog w 0 (fun _ => true) true n 22 (([k0, k1, k2].drop 0).take (Try.prog.cellsOf 22)) = some y0 := hf 0 _ rfl
    have e1 : DataW.trod enc Try.prog w 0 (fun _ => true) true n 23 (([k0, k1, k2].drop 1).take (Try.prog.cellsOf 23)) = some y1 := hf 1 _ rfl
    have e2 : DataW.trod enc Try.prog w 0 (fun _ => true) true n 24 (([k0, k1, k2].drop 2).take (Try.prog.cellsOf 24)) = some y2 := hf 2 _ rfl
    rw [c22] at e0
    rw [c23] at e1
    rw [c24] at e2
    have hd : d = .agg [y0.1, y1.1, y2.1] := by have := (Prod.mk.inj hx).1; simpa using this
    rw [hd] at hb
    simp only [Rows.uptoBulk, Rows.uptoBulkAll] at hb
    obtain ⟨v0, l0, q0, r0, s0, -⟩ := ints_of_trod (d := y0.1) (ps := y0.2) e0 (by omega)
    obtain ⟨v1, l1, q1, r1, s1, t1⟩ := sources_of_trod (d := y1.1) (ps := y1.2) e1 (by omega)
    obtain ⟨v2, l2, q2, r2, s2, t2⟩ := workers_of_trod (d := y2.1) (ps := y2.2) e2 (by omega)
    simp at q0 q1 q2
    subst q0 q1 q2
    exact ⟨⟨l0, l1, l2⟩, ⟨_, _, _, rfl, r0, r1, r2⟩, s0, s1, s2, t1, t2⟩

end

theorem Try.kids : Kids Try.prog (· < Try.prog.types.size) := kids_rows (by kernel_rfl) (by kernel_rfl)
theorem Try.full : ∀ t e, t < Try.prog.types.size → Try.prog.underlying t = some (.slice e) → 0 < Try.prog.cellsOf e := slices_full_of Try.prog (by kernel_rfl)

theorem trodAll_carry {H : Type} {enc : TypeId × Value → H} {P : Program} {w w' : World} {sp : Nat → Bool} : ∀ {ts : List TypeId} {vs : List Value} {ds : List (DataW H)} {ps : List MemPlace}, DataW.TrodAll enc P w 0 sp true ts vs ds ps → (∀ p ∈ ps, w.sameAt w' p) → DataW.TrodAll enc P w' 0 sp true ts vs ds ps
  | [], [], [], _, h, _ => h
  | _ :: _, _ :: _, _ :: _, _, ⟨p, q, ⟨n, h1⟩, h2, e⟩, hs =>
    ⟨p, q, ⟨n, DataW.trod_carry n _ _ _ h1 fun x hx => hs x (by rw [e]; exact List.mem_append_left _ hx)⟩, trodAll_carry h2 (fun x hx => hs x (by rw [e]; exact List.mem_append_right _ hx)), e⟩

set_option maxRecDepth 100000 in
/-- A law that answers true, and has left alone all that was there. -/
theorem post_law {H : Type} {enc : TypeId × Value → H} {f : Func} {s : ChangeSpec} {W W' : World} {args : Array Value} {ds : List (DataW H)} {before : List MemPlace} {fresh handsOn again : Bool}
    (hvars : s.vars = []) (hres : f.resultTypes = #[4]) (hT : ∀ t ∈ f.params.toList, t < Try.prog.types.size)
    (hfn : (s.fn H (ds ++ [])).results = [.lit (.bool true)]) (hfa : (s.fn H (ds ++ [])).args = ds) (hfv : (s.fn H (ds ++ [])).vars = [])
    (hW : DataW.Whole enc Try.prog f.params.toList s.vars false W args.toList ds [] before) (hb : Below W.heap.size W W') :
    s.post enc Try.prog f false fresh handsOn again W args (.bool true) W' := by
  have hW0 := hW
  obtain ⟨p, q, hA, hV, hpq, hz, -⟩ := hW
  rw [hvars] at hV
  have hq : q = [] := hV
  subst hq
  have hbe : before = p := by rw [hpq]; simp
  subst hbe
  have hargs : ∀ sp : Nat → Bool, (∀ x ∈ before, sp x.block = true) → DataW.TrodAll enc Try.prog W' 0 sp true f.params.toList args.toList ds before := fun sp hsp =>
    trodAll_carry (DataW.TrodAll.respare Try.kids Try.full hT hA hsp) fun x hx => hb.same (hA.lt x hx)
  have hr : ∀ (b : Nat) (sp : Nat → Bool) (hd : Bool), DataW.TrodAll enc Try.prog W' b sp hd f.resultTypes.toList ((Value.bool true).resultList f.resultTypes.size) [.lit (.bool true)] [] := fun b sp hd => by
    rw [hres]; exact trodAll_mk1 (shut_bool Try.underlying4 _)
  have hold : ∀ x ∈ before, (fun b => decide (b < W.heap.size)) x.block = true := fun x hx => by simpa using hA.lt x hx
  refine ⟨ds, [], before, [], before, [], hW0, by rw [hfn]; exact hr _ _ _, by rw [hfa]; exact hargs _ hold, by rw [hvars, hfv]; rfl, hb.frame _, fun _ => ?_⟩
  refine ⟨?_, _, [], ([] ++ before) ++ [], ⟨[] ++ before, [], trodAll_append (hargs _ (fun _ _ => rfl)) (hr _ _ _), by rw [hvars]; exact (rfl : ([] : List MemPlace) = []), rfl, ?_, fun h => by cases h⟩, ?_⟩
  · exact ok_one hres rfl (okWide_bool_mk Try.underlying4 _)
  · intro b off hp
    have hp' : MemPlace.cell b off ∈ before := by simpa using hp
    rw [hb.frozen (p := ⟨b, off, none⟩) (hA.lt _ hp')]
    exact hz b off (by rw [hpq]; simpa using hp')
  · intro x hx _
    simpa using hx

end Go.Proofs.Ythfdgdfnflilfaa

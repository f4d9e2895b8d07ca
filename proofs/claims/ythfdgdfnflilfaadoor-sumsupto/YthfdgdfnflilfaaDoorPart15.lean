/- Part 15: SumW, Open1, Open2. -/
import Derived.ProofKit
import Derived.OpenShut
import Derived.JoinedCond
import Derived.ReadAgain
import Derived.Deep.Slices
import Derived.Deep.DeepHandedRow
import Derived.Deep.DeepWitnessRowRef
import Derived.Lay
import Derived.Handy
import Derived.Test.YthfdgdfnflilfaaDoorRows
import Derived.Test.YthfdgdfnflilfaaDoorCards
import Derived.Test.YthfdgdfnflilfaaDoorTie
import Derived.Test.YthfdgdfnflilfaaDoorPart14
/- millracekeep: Sums, the walk. -/
namespace Go.Proofs.YthfdgdfnflilfaaDoor
open Go.RowKit Go.Conc

theorem below3 {w : World} {o0 o1 o2 : Obj} : Below w.heap.size w (((w.alloc o0).alloc o1).alloc o2) := (((Below.refl _ _).alloc (Nat.le_refl _) _).alloc (by simp) _).alloc (by simp; omega) _

theorem fill_start (w1 : World) (rm sr : List Value) :
    Fill w1 w1.heap.size rm sr [] (.slice none 0 0) [] (((w1.alloc (.cells rm.toArray 3)).alloc (.cells sr.toArray 25)).alloc (.cells #[.slice (some ⟨w1.heap.size, 0, none⟩) 5 5, .slice (some ⟨w1.heap.size + 1, 0, none⟩) 2 2, .slice none 0 0] 29)) := by
  refine ⟨?_, ?_, ?_, ⟨rfl, Or.inl ⟨rfl, rfl⟩⟩, fun i h => by simp at h, below3, by simp⟩
  · exact heap_old' (by simp; omega) (heap_old' (by simp) (heap_new' rfl))
  · exact heap_old' (by simp) (heap_new' (by simp))
  · exact heap_new' (by simp)

theorem cell_at_new {w : World} {u0 : Value} {t : TypeId} {b : Nat} (hb : b = w.heap.size) : ∀ (j : Nat) (u : Value), [u0][j]? = some u → (w.alloc (.cells #[u0] t)).cell? ((⟨b, 0, none⟩ : Addr).add j) = some u := by
  subst hb; exact cell_one_new _ _ _

set_option maxRecDepth 100000 in
set_option maxHeartbeats 8000000 in
theorem sums_calls {w : World} {va vb vr vl : Value} {a b rooms l : List Int} (ha : IntsAt w va a) (hb : IntsAt w vb b) (hr : IntsAt w vr rooms) (hl : IntsAt w vl l)
    (fa : ∀ x ∈ a, Fits64 x) (fb : ∀ x ∈ b, Fits64 x) (fr : ∀ x ∈ rooms, InR x) (fl : ∀ x ∈ l, InR x) (ll : l.length ≤ 1048576) :
    Calls Tryd.prog 3 #[va, vb, vr, vl] w fun e w' => e = .returned (.bool true) ∧ Below w.heap.size w w' := by
  have HS : Hid (∀ wx, Calls Tryd.prog 8 #[] wx fun e w' => e = .returned (.bool true) ∧ Below wx.heap.size wx w') := sure_calls
  obtain ⟨i0, hi, hz0, hz1, hz2⟩ := info_parts Tryd.infoSI
  obtain ⟨aa, ca, rfl, han, hca, -⟩ := ha.open
  obtain ⟨ab, cb, rfl, hbn, hcb, -⟩ := hb.open
  obtain ⟨ar, cr, rfl, -, -, -⟩ := hr.open
  obtain ⟨al, cl, rfl, -, -, -⟩ := hl.open
  obtain ⟨la, hla⟩ : ∃ la, la = min a.length 50 := ⟨_, rfl⟩
  obtain ⟨lb, hlb⟩ : ∃ lb, lb = min b.length 50 := ⟨_, rfl⟩
  have ha' : IntsAt w (.slice aa la ca) (a.take la) := ha.take la (by omega)
  have hb' : IntsAt w (.slice ab lb cb) (b.take lb) := hb.take lb (by omega)
  have hal : (a.take la).length = la := by simp; omega
  have hbl : (b.take lb).length = lb := by simp; omega
  have fa' : ∀ x ∈ a.take la, Fits64 x := fun x hx => fa x (List.mem_of_mem_take hx)
  have fb' : ∀ x ∈ b.take lb, Fits64 x := fun x hx => fb x (List.mem_of_mem_take hx)
  generalize a.take la = a1 at *
  generalize b.take lb = b1 at *
  have HRd : Hid (∀ wx, Below w.heap.size w wx → ∀ k, k < min la lb → ∃ ga oa gb ob, aa = some ⟨ga, oa, none⟩ ∧ ab = some ⟨gb, ob, none⟩ ∧ wx.cell? ⟨ga, oa + k, none⟩ = some (.int .i64 (a1.getD k 0)) ∧ wx.cell? ⟨gb, ob + k, none⟩ = some (.int .i64 (b1.getD k 0))) := fun wx hx k hk => by
    obtain ⟨a2, c2, e1, -, -, q1⟩ := ha'.openD
    obtain ⟨a3, c3, e2, -, -, q2⟩ := hb'.openD
    cases e1; cases e2
    obtain ⟨g1, o1, r1, -, s1⟩ := q1 k (by omega)
    obtain ⟨g2, o2, r2, -, s2⟩ := q2 k (by omega)
    exact ⟨g1, o1, g2, o2, r1, r2, s1 wx hx, s2 wx hx⟩
  have HC : Hid (∀ wx n0 v vals w1, n0 = w1.heap.size → Below w.heap.size w w1 → Fill w1 n0 (intRow [1, 1, 1, 1, 1]) [.int .i64 0, .slice aa la ca, .int .i64 1, .slice ab lb cb] [sumCode0, sumCode1, sumCode2] v vals wx → Below w.heap.size w wx ∧
      Calls Tryd.prog 9 #[.agg #[.slice (some ⟨n0, 0, none⟩) 5 5, .slice (some ⟨n0 + 1, 0, none⟩) 2 2, v], .slice ar rooms.length cr] wx fun e w1 => ∃ a2 c2, e = .returned (.agg #[.slice a2 5 c2, .slice (some ⟨n0 + 1, 0, none⟩) 2 2, v]) ∧ Below wx.heap.size wx w1 ∧
    ∀ wy, Below w1.heap.size w1 wy → Calls Tryd.prog 10 #[.agg #[.slice a2 5 c2, .slice (some ⟨n0 + 1, 0, none⟩) 2 2, v]] wy fun e w2 => ∃ p, e = .returned (.tuple #[.pointer (some ⟨p, 0, none⟩), .int .i64 0]) ∧ Below wy.heap.size wy w2 ∧
    Calls Tryd.prog 11 #[.pointer (some ⟨p, 0, none⟩), .agg #[.slice a2 5 c2, .slice (some ⟨n0 + 1, 0, none⟩) 2 2, v], .slice al l.length cl] w2 fun e w3 => ∃ p', e = .returned (.pointer (some ⟨p', 0, none⟩)) ∧ Below wy.heap.size wy w3 ∧
    Calls Tryd.prog 12 #[.pointer (some ⟨p', 0, none⟩), .int .i64 5000] w3 fun e w4 => ∃ d : Nat, e = .returned (.tuple #[.int .i64 (d : Nat), .int .i64 (if b1.length + 40 < a1.length then 4 else 3)]) ∧ Below wy.heap.size wy w4 ∧
    Calls Tryd.prog 13 #[.pointer (some ⟨p', 0, none⟩), .int .i64 4] w4 fun e w5 => ∃ a' c', e = .returned (.tuple #[.slice a' (min a1.length b1.length : Nat) c', .int .i64 0]) ∧ Below wy.heap.size wy w5 ∧
      ∀ wr, Below w5.heap.size w5 wr → ∀ i, i < min a1.length b1.length → ∃ g, a' = some ⟨g, 0, none⟩ ∧ wr.cell? ⟨g, i, none⟩ = some (.int .i64 (totAt a1 b1 (i + 1)))) := fun wx n0 v vals w1 e0 h1 hF => by
    subst e0
    have hx : Below w.heap.size w wx := h1.trans (hF.below.mono h1.size)
    have ia : IntsAt wx (.slice aa la ca) a1 := ha'.below hx
    have ib : IntsAt wx (.slice ab lb cb) b1 := hb'.below hx
    exact ⟨hx, sum_calls (hF.net ia ib) (hr.below hx) (hl.below hx) fr fl ll fa' fb' (by omega) (by omega)⟩
  rw [hal, hbl] at HC
  obtain ⟨want, hwant⟩ : ∃ want : Int, want = if lb + 40 < la then 4 else 3 := ⟨_, rfl⟩
  rw [← hwant] at HC
  obtain ⟨mn, hmn⟩ : ∃ mn, mn = min la lb := ⟨_, rfl⟩
  rw [← hmn] at HC HRd
  have HMn := hide hmn
  have hmn0 : mn ≤ 50 := by omega
  have hmla : mn ≤ la := by omega
  have hmlb : mn ≤ lb := by omega
  have HT : Hid (∀ k, wrap64 (wrap64 (wrap64 (totAt a1 b1 k + a1.getD k 0) + a1.getD k 0) + b1.getD k 0) = totAt a1 b1 (k + 1)) := fun k => tot_step a1 b1 k
  have HT0 : Hid (totAt a1 b1 0 = 0) := rfl
  have hla50 : la ≤ 50 := by omega
  have hlb50 : lb ≤ 50 := by omega
  have hlaa : la ≤ a.length := by omega
  have hlbb : lb ≤ b.length := by omega
  have HLA := hide hla
  have HLB := hide hlb
  have HWant := hide hwant
  clear ha hb hr hl ha' hb' fa fb fa' fb' fr fl hal hbl hla hlb hwant hmn
  have hcell : ∀ (w1 : World), Hid (Below w.heap.size w w1 → Below w.heap.size w w1) := fun _ h => h
  go_enter Tryd.func3, Tryd.ntmps3
  go_wp2_with fail
  refine (unhide HS _).mono ?_
  rintro e w1 ⟨rfl, hb1⟩
  have HB1 := hide hb1
  clear hb1 HS hcell
  go_upto_if 25 with fail
  go_cut [0] from 22 (fun v0 wc => w1 = wc ∧ v0 = .slice aa la ca)
  case first =>
    by_cases h50 : 50 < a.length
    · have h50' : (50 : Int) < (a.length : Int) := by omega
      have e50 : la = 50 := by have := HLA.out; omega
      have hc50 : 50 ≤ ca := by omega
      subst e50
      go_wp2
      go_meet
      exact ⟨rfl, rfl⟩
    · have h50' : decide ((50 : Int) < (a.length : Int)) = false := by simp; omega
      have e50 : la = a.length := by have := HLA.out; omega
      subst e50
      go_wp2
      go_meet
      exact ⟨rfl, rfl⟩
  case rest =>
    obtain ⟨rfl, rfl⟩ := hcut
    clear HLA
    go_upto_if 30 with fail
    go_cut [1] from 22 (fun v1 wc => w1 = wc ∧ v1 = .slice ab lb cb)
    case first =>
      by_cases h50 : 50 < b.length
      · have h50' : (50 : Int) < (b.length : Int) := by omega
        have e50 : lb = 50 := by have := HLB.out; omega
        have hc50 : 50 ≤ cb := by omega
        subst e50
        go_wp2
        go_meet
        exact ⟨rfl, rfl⟩
      · have h50' : decide ((50 : Int) < (b.length : Int)) = false := by simp; omega
        have e50 : lb = b.length := by have := HLB.out; omega
        subst e50
        go_wp2
        go_meet
        exact ⟨rfl, rfl⟩
    case rest =>
      obtain ⟨rfl, rfl⟩ := hcut
      clear HLB hlaa hlbb han hbn hca hcb
      have HF0 : Hid (Fill w1 w1.heap.size (intRow [1, 1, 1, 1, 1]) [.int .i64 0, .slice aa la ca, .int .i64 1, .slice ab lb cb] [] (.slice none 0 0) [] (((w1.alloc (.cells #[.int .i64 1, .int .i64 1, .int .i64 1, .int .i64 1, .int .i64 1] 3)).alloc (.cells #[.int .i64 0, .slice aa la ca, .int .i64 1, .slice ab lb cb] 25)).alloc (.cells #[.slice (some ⟨w1.heap.size, 0, none⟩) 5 5, .slice (some ⟨w1.heap.size + 1, 0, none⟩) 2 2, .slice none 0 0] 29))) := fill_start w1 (intRow [1, 1, 1, 1, 1]) [.int .i64 0, .slice aa la ca, .int .i64 1, .slice ab lb cb]
      go_upto_region 7 with fail
      generalize ((w1.alloc (.cells #[.int .i64 1, .int .i64 1, .int .i64 1, .int .i64 1, .int .i64 1] 3)).alloc (.cells #[.int .i64 0, .slice aa la ca, .int .i64 1, .slice ab lb cb] 25)).alloc (.cells #[.slice (some ⟨w1.heap.size, 0, none⟩) 5 5, .slice (some ⟨w1.heap.size + 1, 0, none⟩) 2 2, .slice none 0 0] 29) = wF at *
      have hsz0 := HF0.out.size
      obtain ⟨f0, f0'⟩ := blk_cell (l := [_, _, _]) HF0.out.b2 0 _ rfl
      obtain ⟨f1, f1'⟩ := blk_cell (l := [_, _, _]) HF0.out.b2 1 _ rfl
      obtain ⟨f2, f2'⟩ := blk_cell (l := [_, _, _]) HF0.out.b2 2 _ rfl
      have HO0 : Hid (wF.ownsRow (w1.heap.size + 3) 32 1 (.slice none 0 0) 0 []) := HF0.out.row
      go_wp2_with (at_builtin; refine wpList_append_lies _ rfl (.tmp 41) (.tmp 47) 27 rfl (w1.heap.size + 3) 32 i0 (.slice none 0 0) 1 24 Tryd.underlying27 hi hz0 hz1 hz2 rfl (by decide) (.slice none 0 0) 0 [] rfl ((HO0.out.alloc _).alloc _) ⟨wF.heap.size + 1, 0, none⟩ 1 1 [.slice (some ⟨wF.heap.size, 0, none⟩) 4 4] rfl rfl ?c1 ?c2 (by decide) (by decide) (by decide) (by simp; omega) (wF.heap.size + 1 + 1) (by simp) ?_)
      case c1 => exact cell_at_new (by simp)
      case c2 => intro u hu; simp at hu; subst hu; rfl
      intro g1 g1c w2 ho2 hgr hor hglt
      obtain ⟨e2, hF1⟩ := HF0.out.next sumCode0 _ ho2 hgr
      obtain ⟨k1, k2⟩ := blk_cell (l := [_, _, _]) e2 2 _ rfl
      have HF1 : Hid (Fill w1 w1.heap.size (intRow [1, 1, 1, 1, 1]) [.int .i64 0, .slice aa la ca, .int .i64 1, .slice ab lb cb] [sumCode0] (.slice (some ⟨g1, 0, none⟩) 1 g1c) [.slice (some ⟨wF.heap.size, 0, none⟩) 4 4] (w2.setCell ⟨w1.heap.size + 1 + 1, 2, none⟩ (.slice (some ⟨g1, 0, none⟩) 1 g1c))) := hF1
      clear ho2 hgr hor hglt e2 hF1 HF0 f0 f0' f1 f1' f2 f2' HO0
      go_upto_region 8 with fail
      generalize w2.setCell ⟨w1.heap.size + 1 + 1, 2, none⟩ (.slice (some ⟨g1, 0, none⟩) 1 g1c) = wA at *
      clear k1 k2
      have hsz1 := HF1.out.size
      obtain ⟨f0, f0'⟩ := blk_cell (l := [_, _, _]) HF1.out.b2 0 _ rfl
      obtain ⟨f1, f1'⟩ := blk_cell (l := [_, _, _]) HF1.out.b2 1 _ rfl
      obtain ⟨f2, f2'⟩ := blk_cell (l := [_, _, _]) HF1.out.b2 2 _ rfl
      have HO1 : Hid (wA.ownsRow (w1.heap.size + 3) 32 1 (.slice (some ⟨g1, 0, none⟩) 1 g1c) 1 [.slice (some ⟨wF.heap.size, 0, none⟩) 4 4]) := HF1.out.row
      go_wp2_with (at_builtin; refine wpList_append_lies _ rfl (.tmp 51) (.tmp 58) 27 rfl (w1.heap.size + 3) 32 i0 (.slice none 0 0) 1 24 Tryd.underlying27 hi hz0 hz1 hz2 rfl (by decide) (.slice (some ⟨g1, 0, none⟩) 1 g1c) 1 [.slice (some ⟨wF.heap.size, 0, none⟩) 4 4] rfl ((HO1.out.alloc _).alloc _) ⟨wA.heap.size + 1, 0, none⟩ 1 1 [.slice (some ⟨wA.heap.size, 0, none⟩) 5 5] rfl rfl ?c1 ?c2 (by decide) (by decide) (by decide) (by simp; omega) (wA.heap.size + 1 + 1) (by simp) ?_)
      case c1 => exact cell_at_new (by simp)
      case c2 => intro u hu; simp at hu; subst hu; rfl
      intro g2 g2c w2 ho2 hgr hor hglt
      obtain ⟨e2, hF1⟩ := HF1.out.next sumCode1 _ ho2 hgr
      obtain ⟨k1, k2⟩ := blk_cell (l := [_, _, _]) e2 2 _ rfl
      have HF2 : Hid (Fill w1 w1.heap.size (intRow [1, 1, 1, 1, 1]) [.int .i64 0, .slice aa la ca, .int .i64 1, .slice ab lb cb] [sumCode0, sumCode1] (.slice (some ⟨g2, 0, none⟩) 2 g2c) [.slice (some ⟨wF.heap.size, 0, none⟩) 4 4, .slice (some ⟨wA.heap.size, 0, none⟩) 5 5] (w2.setCell ⟨w1.heap.size + 1 + 1, 2, none⟩ (.slice (some ⟨g2, 0, none⟩) 2 g2c))) := hF1
      clear ho2 hgr hor hglt e2 hF1 HF1 f0 f0' f1 f1' f2 f2' HO1
      go_upto_region 9 with fail
      generalize w2.setCell ⟨w1.heap.size + 1 + 1, 2, none⟩ (.slice (some ⟨g2, 0, none⟩) 2 g2c) = wB at *
      clear k1 k2
      have hsz2 := HF2.out.size
      obtain ⟨f0, f0'⟩ := blk_cell (l := [_, _, _]) HF2.out.b2 0 _ rfl
      obtain ⟨f1, f1'⟩ := blk_cell (l := [_, _, _]) HF2.out.b2 1 _ rfl
      obtain ⟨f2, f2'⟩ := blk_cell (l := [_, _, _]) HF2.out.b2 2 _ rfl
      have HO2 : Hid (wB.ownsRow (w1.heap.size + 3) 32 1 (.slice (some ⟨g2, 0, none⟩) 2 g2c) 2 [.slice (some ⟨wF.heap.size, 0, none⟩) 4 4, .slice (some ⟨wA.heap.size, 0, none⟩) 5 5]) := HF2.out.row
      go_wp2_with (at_builtin; refine wpList_append_lies _ rfl (.tmp 62) (.tmp 68) 27 rfl (w1.heap.size + 3) 32 i0 (.slice none 0 0) 1 24 Tryd.underlying27 hi hz0 hz1 hz2 rfl (by decide) (.slice (some ⟨g2, 0, none⟩) 2 g2c) 2 [.slice (some ⟨wF.heap.size, 0, none⟩) 4 4, .slice (some ⟨wA.heap.size, 0, none⟩) 5 5] rfl ((HO2.out.alloc _).alloc _) ⟨wB.heap.size + 1, 0, none⟩ 1 1 [.slice (some ⟨wB.heap.size, 0, none⟩) 4 4] rfl rfl ?c1 ?c2 (by decide) (by decide) (by decide) (by simp; omega) (wB.heap.size + 1 + 1) (by simp) ?_)
      case c1 => exact cell_at_new (by simp)
      case c2 => intro u hu; simp at hu; subst hu; rfl
      intro g3 g3c w2 ho2 hgr hor hglt
      obtain ⟨e2, hF1⟩ := HF2.out.next sumCode2 _ ho2 hgr
      obtain ⟨k1, k2⟩ := blk_cell (l := [_, _, _]) e2 2 _ rfl
      have HF3 : Hid (Fill w1 w1.heap.size (intRow [1, 1, 1, 1, 1]) [.int .i64 0, .slice aa la ca, .int .i64 1, .slice ab lb cb] [sumCode0, sumCode1, sumCode2] (.slice (some ⟨g3, 0, none⟩) 3 g3c) [.slice (some ⟨wF.heap.size, 0, none⟩) 4 4, .slice (some ⟨wA.heap.size, 0, none⟩) 5 5, .slice (some ⟨wB.heap.size, 0, none⟩) 4 4] (w2.setCell ⟨w1.heap.size + 1 + 1, 2, none⟩ (.slice (some ⟨g3, 0, none⟩) 3 g3c))) := hF1
      clear ho2 hgr hor hglt e2 hF1 HF2 f0 f0' f1 f1' f2 f2' HO2
      go_upto_region 10 with fail
      generalize w2.setCell ⟨w1.heap.size + 1 + 1, 2, none⟩ (.slice (some ⟨g3, 0, none⟩) 3 g3c) = wC at *
      clear k1 k2
      have hsz3 := HF3.out.size
      obtain ⟨f0, f0'⟩ := blk_cell (l := [_, _, _]) HF3.out.b2 0 _ rfl
      obtain ⟨f1, f1'⟩ := blk_cell (l := [_, _, _]) HF3.out.b2 1 _ rfl
      obtain ⟨f2, f2'⟩ := blk_cell (l := [_, _, _]) HF3.out.b2 2 _ rfl
      have HO3 : Hid (wC.ownsRow (w1.heap.size + 3) 32 1 (.slice (some ⟨g3, 0, none⟩) 3 g3c) 3 [.slice (some ⟨wF.heap.size, 0, none⟩) 4 4, .slice (some ⟨wA.heap.size, 0, none⟩) 5 5, .slice (some ⟨wB.heap.size, 0, none⟩) 4 4]) := HF3.out.row
      obtain ⟨hbC, hC1⟩ := HC.out wC _ _ _ w1 rfl HB1.out HF3.out
      have HBC := hide hbC
      have HC1 := hide hC1
      clear hbC hC1 HC HF3 HO3 f0' f1' f2'
      go_wp2_with fail
      refine (unhide HC1).mono ?_
      rintro e w3 ⟨a2, c2, rfl, hb3, hC3⟩
      have HB3 : Hid (Below w.heap.size w w3) := HBC.out.trans (hb3.mono HBC.out.size)
      have HC3 := hide hC3
      clear hb3 hC3 HC1 f0 f1 f2
      go_wp2_with fail
      refine (unhide HC3 _ ((Below.refl _ _).alloc (Nat.le_refl _) _)).mono ?_
      rintro e w4 ⟨p, rfl, hb4, hC4⟩
      have t4 : w4.heap[w3.heap.size]? = some (.cells #[.slice a2 5 c2, .slice (some ⟨w1.heap.size + 1, 0, none⟩) 2 2, .slice (some ⟨g3, 0, none⟩) 3 g3c] 29 (0, 0)) := (hb4.block _ (by simp)).trans (heap_alloc_new _ _)
      have z0 := (blk_cell t4 0 _ rfl).1
      have z1 := (blk_cell t4 1 _ rfl).1
      have z2 := (blk_cell t4 2 _ rfl).1
      have HBw : Hid (∀ wx, Below (w3.alloc (.cells #[.slice a2 5 c2, .slice (some ⟨w1.heap.size + 1, 0, none⟩) 2 2, .slice (some ⟨g3, 0, none⟩) 3 g3c] 29)).heap.size (w3.alloc (.cells #[.slice a2 5 c2, .slice (some ⟨w1.heap.size + 1, 0, none⟩) 2 2, .slice (some ⟨g3, 0, none⟩) 3 g3c] 29)) wx → Below w.heap.size w wx) := fun wx hx => (HB3.out.alloc HB3.out.size _).trans (hx.mono (by have := HB3.out.size; simp; omega))
      have HC4 := hide hC4
      clear hb4 t4 hC4 HC3 HBC
      go_wp2_with fail
      refine (unhide HC4).mono ?_
      rintro e w5 ⟨p', rfl, -, hC5⟩
      have HC5 := hide hC5
      clear hC5 HC4 z0 z1 z2
      go_wp2_with fail
      refine (unhide HC5).mono ?_
      rintro e w6 ⟨d, rfl, -, hC6⟩
      have HC6 := hide hC6
      clear hC6 HC5
      go_wp2_with fail
      refine (unhide HC6).mono ?_
      rintro e w7 ⟨a', c', rfl, hb7, hH⟩
      have HB7 := hide (HBw.out _ hb7)
      have HH := hide hH
      clear hb7 hH HC6 HBw HB3
      go_upto_region 19 with fail
      go_cut [18] from 105 (fun v18 wc => w7 = wc ∧ v18 = .int .i64 mn)
      case first =>
        have hm := HMn.out
        by_cases hlt : lb < la
        · have e : mn = lb := by omega
          subst e
          have hlt' : (mn : Int) < (la : Int) := by omega
          clear hm
          go_wp2
          go_meet
          exact ⟨rfl, rfl⟩
        · have e : mn = la := by omega
          subst e
          have hlt' : decide ((lb : Int) < (mn : Int)) = false := by simp; omega
          clear hm
          go_wp2
          go_meet
          exact ⟨rfl, rfl⟩
      case rest =>
        obtain ⟨rfl, rfl⟩ := hcut
        go_upto_if 115 with fail
        go_cut [19] from 105 (fun v19 wc => w7 = wc ∧ v19 = .int .i64 want)
        case first =>
          have hw := HWant.out
          by_cases h40 : lb + 40 < la
          · rw [if_pos h40] at hw
            have h40' : (40 : Int) < (la : Int) - (lb : Int) := by omega
            subst hw
            go_wp2
            go_meet
            exact ⟨rfl, rfl⟩
          · rw [if_neg h40] at hw
            have h40' : decide ((40 : Int) < (la : Int) - (lb : Int)) = false := by simp; omega
            subst hw
            go_wp2
            go_meet
            exact ⟨rfl, rfl⟩
        case rest =>
          obtain ⟨rfl, rfl⟩ := hcut
          clear HWant HMn
          go_wp2
          go_loopw [20, 21] (fun sm i wr => ∃ (k q : Nat), k ≤ mn ∧ i = .int .i64 k ∧ sm = .int .i64 (totAt a1 b1 k) ∧ wr = w7.drewN q) (fun _ i _ => mn - (intOf i).toNat)
          case atStart => exact ⟨0, 0, Nat.zero_le _, rfl, by rw [HT0.out], rfl⟩
          case round =>
            obtain ⟨k, q, hk, rfl, rfl, hwr⟩ := hrel
            by_cases hlt : k < mn
            · have hbr : Below w7.heap.size w7 wr := by rw [hwr]; exact below_drewN (Below.refl _ _) q
              have HWR := hide hwr
              have HTk := hide (HT.out k)
              obtain ⟨ga, oa, gb, ob, rfl, rfl, d1, d2⟩ := HRd.out wr (HB7.out.trans (hbr.mono HB7.out.size)) k hlt
              obtain ⟨g, rfl, -⟩ := HH.out wr hbr k hlt
              have hH2 : Hid (∀ wx, Below w7.heap.size w7 wx → wx.cell? ⟨g, k, none⟩ = some (.int .i64 (totAt a1 b1 (k + 1)))) := fun wx hx => by
                obtain ⟨g', e, h⟩ := HH.out wx hx k hlt
                cases e
                exact h
              have hk0 : (0 : Int) ≤ (k : Int) := by omega
              have hk1 : (k : Int) < (mn : Int) := by omega
              have hk2 : (k : Int) < (la : Int) := by omega
              have hk3 : (k : Int) < (lb : Int) := by omega
              clear hwr hbr HT HT0 HH HRd
              generalize totAt a1 b1 k = tk at *
              generalize htk : totAt a1 b1 (k + 1) = tk1 at *
              have HTE := hide htk
              clear htk
              generalize a1.getD k 0 = xa at *
              generalize b1.getD k 0 = xb at *
              go_wp2
              go_quiet (fail)
              rw [HTk.out]
              have e3 := hH2.out (wr.drewN nq) (by rw [HWR.out]; exact below_drewN (below_drewN (Below.refl _ _) q) nq)
              have HWq : Hid (wr.drewN nq = w7.drewN (q + nq)) := by unfold Hid; rw [HWR.out]; simp
              clear HTk hH2 d1 d2 HWR
              generalize wr.drewN nq = wq at *
              go_wp2
              go_roundw
              case rel => exact ⟨k + 1, q + nq, by omega, by go_num, by rw [HTE.out], HWq.out⟩
              case measure => simp [intOf]; omega
            · subst hwr
              go_wp2
              go_ret
              exact ⟨rfl, below_drewN HB7.out q⟩

end Go.Proofs.YthfdgdfnflilfaaDoor
/- What comes in, read as nets and lists of numbers. -/
namespace Go.Proofs.YthfdgdfnflilfaaDoor
open Go.ChangeShapes Go.WideShapes Go.ChangeAt Go.RowKit Go.Deep

/-- A number of 64 bits. -/
def Fits (c : Int) : Prop := -9223372036854775808 ≤ c ∧ c ≤ 9223372036854775807

namespace bulks
theorem one_le {H : Type} (d : DataW H) : 1 ≤ Rows.uptoBulk d := by
  cases d with
  | lit l => cases l <;> simp [Rows.uptoBulk]
  | nil => simp [Rows.uptoBulk]
  | ptr d => simp [Rows.uptoBulk]
  | slice elems spare => simp [Rows.uptoBulk]
  | agg parts => simp [Rows.uptoBulk]
  | iface t d => simp [Rows.uptoBulk]
  | map entries => simp [Rows.uptoBulk]
  | held h => simp [Rows.uptoBulk]
theorem part_le {H : Type} {d : DataW H} {l : List (DataW H)} (h : d ∈ l) : Rows.uptoBulk d ≤ Rows.uptoBulkAll l := by
  induction l with
  | nil => cases h
  | cons x r ih =>
    simp only [Rows.uptoBulkAll]
    cases List.mem_cons.1 h with
    | inl e => subst e; omega
    | inr e => have := ih e; omega
theorem length_le {H : Type} (l : List (DataW H)) : l.length ≤ Rows.uptoBulkAll l := by
  induction l with
  | nil => simp [Rows.uptoBulkAll]
  | cons x r ih => have := one_le x; simp only [Rows.uptoBulkAll, List.length_cons]; omega
end bulks

instance : Inhabited Ins := ⟨⟨0, 0, 0, 0⟩⟩
instance : Inhabited Src := ⟨⟨0, []⟩⟩

section
variable {H : Type} {enc : TypeId × Value → H} {w : World}

/-- A slice that came in, element by element. -/
theorem sl_of_trod {t e : TypeId} {c fuel : Nat} {cs : List Value} {d : DataW H} {ps : List MemPlace} (ht : Tryd.prog.underlying t = some (.slice e)) (hc : Tryd.prog.cellsOf e = c) (hc0 : 0 < c)
    (h : DataW.trod enc Tryd.prog w 0 (fun _ => true) true fuel t cs = some (d, ps)) (hb : Rows.uptoBulk d ≤ 1048576) :
    ∃ (v : Value) (len n : Nat) (CS : Nat → List Value) (D : Nat → DataW H) (Pl : Nat → List MemPlace), cs = [v] ∧ len ≤ 1048576 ∧ Sl w v len c (fun i j => (CS i).getD j (.bool false)) ∧
      ∀ i, i < len → (CS i).length = c ∧ DataW.trod enc Tryd.prog w 0 (fun _ => true) true n e (CS i) = some (D i, Pl i) ∧ Rows.uptoBulk (D i) ≤ 1048576 := by
  rcases open_slice ht h with ⟨rfl, h0⟩ | ⟨a, len, cap, m, n, D, Pl, rfl, -, hl, hm, hmm, hx, hi⟩
  · exact ⟨.slice none 0 0, 0, 0, fun _ => [], fun _ => .nil, fun _ => [], rfl, by omega, ⟨none, 0, rfl, by omega, by omega, Or.inl rfl⟩, fun i hi => by omega⟩
  · simp only [if_true] at hmm
    subst hmm
    obtain ⟨hd, -⟩ := Prod.mk.inj hx
    have hbl : ∀ i, i < len → Rows.uptoBulk (D i) ≤ 1048576 := fun i hi => by
      rw [hd] at hb
      simp only [Rows.uptoBulk] at hb
      have := bulks.part_le (d := D i) (l := (List.range len).map D) (List.mem_map.2 ⟨i, List.mem_range.2 hi, rfl⟩)
      omega
    have hlen : len ≤ 1048576 := by
      rw [hd] at hb
      simp only [Rows.uptoBulk] at hb
      have := bulks.length_le ((List.range len).map D)
      simp at this
      omega
    rw [hc] at hi
    obtain ⟨CS, hCS⟩ := choose_lt (α := List Value) (p := fun i cs' => w.cells? 0 (a.add (i * c)) c = some cs' ∧ DataW.trod enc Tryd.prog w 0 (fun _ => true) true n e cs' = some (D i, Pl i)) hi
    have hcell : ∀ i, i < len → (CS i).length = c ∧ ∀ j, j < c → w.cell? ((a.add (i * c)).add j) = (CS i)[j]? := fun i hi' => by
      obtain ⟨-, q1, q2⟩ := World.cells?_some (hCS i (by omega)).1
      exact ⟨q1, q2⟩
    refine ⟨_, len, n, CS, D, Pl, rfl, hlen, ⟨some a, _, rfl, by omega, hl, ?_⟩, fun i hi' => ⟨(hcell i hi').1, (hCS i (by omega)).2, hbl i hi'⟩⟩
    rcases Nat.eq_zero_or_pos len with h0 | h0
    · exact Or.inl h0
    · obtain ⟨b, off, spot⟩ := a
      have hspot : spot = none := by
        have := (hcell 0 h0).2 0 hc0
        rw [List.getElem?_eq_getElem (by rw [(hcell 0 h0).1]; exact hc0)] at this
        simpa [Addr.add] using World.cell?_spot this
      subst hspot
      refine Or.inr ⟨b, off, rfl, fun i hi' j hj => ?_⟩
      have := (hcell i hi').2 j hj
      rw [add_plain, add_plain] at this
      rw [this, List.getElem?_eq_getElem (by rw [(hcell i hi').1]; exact hj)]
      simp [List.getD, (hcell i hi').1, hj]

theorem inR_of_wf {x : Int} (h : (Lit.int .i64 x).wf = true) : Fits x := bounds_i64 h

theorem range_getD {α : Type} (V : Nat → α) (len i : Nat) (d : α) (h : i < len) : ((List.range len).map V).getD i d = V i := by simp [List.getD, h]

theorem ints_of_trod {fuel : Nat} {cs : List Value} {d : DataW H} {ps : List MemPlace} (h : DataW.trod enc Tryd.prog w 0 (fun _ => true) true fuel 22 cs = some (d, ps)) (hb : Rows.uptoBulk d ≤ 1048576) :
    ∃ v l, cs = [v] ∧ IntsAt w v l ∧ l.length ≤ 1048576 ∧ ∀ x ∈ l, Fits x := by
  obtain ⟨v, len, n, CS, D, Pl, hcs, hlen, hsl, hi⟩ := sl_of_trod (e := 3) Tryd.underlying22 (by kernel_rfl) Nat.one_pos h hb
  obtain ⟨V, hV⟩ := choose_lt (α := Int) (n := len) (p := fun i x => CS i = [.int .i64 x] ∧ Fits x) (fun i hi' => by
    obtain ⟨q1, q2, q3⟩ := hi i hi'
    obtain ⟨x, hx, -, hw⟩ := DataW.trod_int Tryd.underlying3 q2
    exact ⟨x, hx, inR_of_wf hw⟩)
  refine ⟨v, (List.range len).map V, hcs, ?_, by simpa using hlen, fun x hx => ?_⟩
  · have hl : ((List.range len).map V).length = len := by simp
    unfold IntsAt
    rw [hl]
    refine hsl.congr fun i hi' j hj => ?_
    have hj0 : j = 0 := by omega
    subst hj0
    rw [(hV i hi').1, range_getD _ _ _ _ hi']
    rfl
  · obtain ⟨i, hi', rfl⟩ := List.mem_map.1 hx
    exact (hV i (List.mem_range.1 hi')).2

set_option maxRecDepth 100000 in
theorem ins_of_trod {fuel : Nat} {cs : List Value} {x : DataW H × List MemPlace} (h : DataW.trod enc Tryd.prog w 0 (fun _ => true) true fuel 31 cs = some x) : ∃ i : Ins, cs = [.int .i64 i.op, .int .i64 i.a, .int .i64 i.b, .int .i64 i.c] ∧ Fits i.c := by
  obtain ⟨xs, n, -, -, hl, hxs, hf⟩ := DataW.trod_struct Tryd.underlying31 h
  have c56 : Tryd.prog.cellsOf 31 = 4 := by kernel_rfl
  have hl4 : cs.length = 4 := hl.trans c56
  have hx4 : xs.length = 4 := hxs
  have c3 : Tryd.prog.cellsOf 3 = 1 := by kernel_rfl
  match cs, hl4, xs, hx4 with
  | [c0, c1, c2, c3'], _, [y0, y1, y2, y3], _ =>
    have e0 : DataW.trod enc Tryd.prog w 0 (fun _ => true) true n 3 (([c0, c1, c2, c3'].drop 0).take (Tryd.prog.cellsOf 3)) = some y0 := hf 0 _ rfl
    have e1 : DataW.trod enc Tryd.prog w 0 (fun _ => true) true n 3 (([c0, c1, c2, c3'].drop 1).take (Tryd.prog.cellsOf 3)) = some y1 := hf 1 _ rfl
    have e2 : DataW.trod enc Tryd.prog w 0 (fun _ => true) true n 3 (([c0, c1, c2, c3'].drop 2).take (Tryd.prog.cellsOf 3)) = some y2 := hf 2 _ rfl
    have e3 : DataW.trod enc Tryd.prog w 0 (fun _ => true) true n 3 (([c0, c1, c2, c3'].drop 3).take (Tryd.prog.cellsOf 3)) = some y3 := hf 3 _ rfl
    rw [c3] at e0 e1 e2 e3
    obtain ⟨z0, g0, -⟩ := DataW.trod_int Tryd.underlying3 e0
    obtain ⟨z1, g1, -⟩ := DataW.trod_int Tryd.underlying3 e1
    obtain ⟨z2, g2, -⟩ := DataW.trod_int Tryd.underlying3 e2
    obtain ⟨z3, g3, -, hw3⟩ := DataW.trod_int Tryd.underlying3 e3
    simp at g0 g1 g2 g3
    exact ⟨⟨z0, z1, z2, z3⟩, by rw [g0, g1, g2, g3], inR_of_wf hw3⟩

theorem code_of_trod {fuel : Nat} {cs : List Value} {d : DataW H} {ps : List MemPlace} (h : DataW.trod enc Tryd.prog w 0 (fun _ => true) true fuel 32 cs = some (d, ps)) (hb : Rows.uptoBulk d ≤ 1048576) :
    ∃ v l, cs = [v] ∧ CodeAt w v l ∧ l.length ≤ 1048576 ∧ ∀ i ∈ l, Fits i.c := by
  obtain ⟨v, len, n, CS, D, Pl, hcs, hlen, hsl, hi⟩ := sl_of_trod (c := 4) (e := 31) Tryd.underlying32 (by kernel_rfl) (by decide) h hb
  obtain ⟨V, hV⟩ := choose_lt (α := Ins) (n := len) (p := fun i x => CS i = [.int .i64 x.op, .int .i64 x.a, .int .i64 x.b, .int .i64 x.c] ∧ Fits x.c) (fun i hi' => ins_of_trod (hi i hi').2.1)
  refine ⟨v, (List.range len).map V, hcs, ?_, by simpa using hlen, fun x hx => by
    obtain ⟨i, hi', rfl⟩ := List.mem_map.1 hx
    exact (hV i (List.mem_range.1 hi')).2⟩
  have hl : ((List.range len).map V).length = len := by simp
  unfold CodeAt
  rw [hl]
  refine hsl.congr fun i hi' j hj => ?_
  rw [(hV i hi').1, range_getD _ _ _ _ hi']
  have : j = 0 ∨ j = 1 ∨ j = 2 ∨ j = 3 := by omega
  rcases this with rfl | rfl | rfl | rfl <;> rfl

theorem workers_of_trod {fuel : Nat} {cs : List Value} {d : DataW H} {ps : List MemPlace} (h : DataW.trod enc Tryd.prog w 0 (fun _ => true) true fuel 27 cs = some (d, ps)) (hb : Rows.uptoBulk d ≤ 1048576) :
    ∃ v l, cs = [v] ∧ WorkersAt w v l ∧ l.length ≤ 1048576 ∧ ∀ c ∈ l, c.length ≤ 1048576 ∧ ∀ i ∈ c, Fits i.c := by
  obtain ⟨v, len, n, CS, D, Pl, hcs, hlen, hsl, hi⟩ := sl_of_trod (c := 1) (e := 32) Tryd.underlying27 (by kernel_rfl) (by decide) h hb
  obtain ⟨V, hV⟩ := choose_lt (α := Value × List Ins) (n := len) (p := fun i x => CS i = [x.1] ∧ CodeAt w x.1 x.2 ∧ x.2.length ≤ 1048576 ∧ ∀ j ∈ x.2, Fits j.c) (fun i hi' => by
    obtain ⟨q1, q2, q3⟩ := hi i hi'
    obtain ⟨v', l', e1, e2, e3⟩ := code_of_trod q2 q3
    exact ⟨(v', l'), e1, e2, e3⟩)
  refine ⟨v, (List.range len).map fun i => (V i).2, hcs, ⟨fun i => (V i).1, ?_, fun i hi' => ?_⟩, by simpa using hlen, fun c hc => ?_⟩
  · have hl : ((List.range len).map fun i => (V i).2).length = len := by simp
    rw [hl]
    refine hsl.congr fun i hi' j hj => ?_
    have hj0 : j = 0 := by omega
    subst hj0
    rw [(hV i hi').1]
    rfl
  · have hi2 : i < len := by simpa using hi'
    simpa using (hV i hi2).2.1
  · obtain ⟨i, hi', rfl⟩ := List.mem_map.1 hc
    exact (hV i (List.mem_range.1 hi')).2.2

set_option maxRecDepth 100000 in
theorem source_of_trod {fuel : Nat} {cs : List Value} {d : DataW H} {ps : List MemPlace} (h : DataW.trod enc Tryd.prog w 0 (fun _ => true) true fuel 25 cs = some (d, ps)) (hb : Rows.uptoBulk d ≤ 1048576) :
    ∃ (s : Src) (v : Value), cs = [.int .i64 s.stream, v] ∧ IntsAt w v s.words ∧ s.words.length ≤ 1048576 ∧ ∀ x ∈ s.words, Fits x := by
  obtain ⟨xs, n, -, hx, hl, hxs, hf⟩ := DataW.trod_struct Tryd.underlying25 h
  have c54 : Tryd.prog.cellsOf 25 = 2 := by kernel_rfl
  have hl2 : cs.length = 2 := hl.trans c54
  have hx2 : xs.length = 2 := hxs
  have c3 : Tryd.prog.cellsOf 3 = 1 := by kernel_rfl
  have c22 : Tryd.prog.cellsOf 22 = 1 := by kernel_rfl
  match cs, hl2, xs, hx2, hx with
  | [c0, c1], _, [y0, y1], _, hx =>
    have e0 : DataW.trod enc Tryd.prog w 0 (fun _ => true) true n 3 (([c0, c1].drop 0).take (Tryd.prog.cellsOf 3)) = some y0 := hf 0 _ rfl
    have e1 : DataW.trod enc Tryd.prog w 0 (fun _ => true) true n 22 (([c0, c1].drop 1).take (Tryd.prog.cellsOf 22)) = some y1 := hf 1 _ rfl
    rw [c3] at e0
    rw [c22] at e1
    obtain ⟨z0, g0, -⟩ := DataW.trod_int Tryd.underlying3 e0
    have hd : d = .agg [y0.1, y1.1] := by have := (Prod.mk.inj hx).1; simpa using this
    have hby : Rows.uptoBulk y1.1 ≤ 1048576 := by
      rw [hd] at hb
      simp only [Rows.uptoBulk, Rows.uptoBulkAll] at hb
      omega
    obtain ⟨v', l', q1, q2, q3, q4⟩ := ints_of_trod (d := y1.1) (ps := y1.2) e1 hby
    simp at g0 q1
    exact ⟨⟨z0, l'⟩, v', by rw [g0, q1], q2, q3, q4⟩

theorem sources_of_trod {fuel : Nat} {cs : List Value} {d : DataW H} {ps : List MemPlace} (h : DataW.trod enc Tryd.prog w 0 (fun _ => true) true fuel 26 cs = some (d, ps)) (hb : Rows.uptoBulk d ≤ 1048576) :
    ∃ v l, cs = [v] ∧ SourcesAt w v l ∧ l.length ≤ 1048576 ∧ ∀ s ∈ l, s.words.length ≤ 1048576 ∧ ∀ x ∈ s.words, Fits x := by
  obtain ⟨v, len, n, CS, D, Pl, hcs, hlen, hsl, hi⟩ := sl_of_trod (c := 2) (e := 25) Tryd.underlying26 (by kernel_rfl) (by decide) h hb
  obtain ⟨V, hV⟩ := choose_lt (α := Value × Src) (n := len) (p := fun i x => CS i = [.int .i64 x.2.stream, x.1] ∧ IntsAt w x.1 x.2.words ∧ x.2.words.length ≤ 1048576 ∧ ∀ y ∈ x.2.words, Fits y) (fun i hi' => by
    obtain ⟨q1, q2, q3⟩ := hi i hi'
    obtain ⟨s', v', e1, e2, e3⟩ := source_of_trod q2 q3
    exact ⟨(v', s'), e1, e2, e3⟩)
  refine ⟨v, (List.range len).map fun i => (V i).2, hcs, ⟨fun i => (V i).1, ?_, fun i hi' => ?_⟩, by simpa using hlen, fun c hc => ?_⟩
  · have hl : ((List.range len).map fun i => (V i).2).length = len := by simp
    rw [hl]
    refine hsl.congr fun i hi' j hj => ?_
    rw [(hV i hi').1, range_getD _ _ _ _ hi']
    have : j = 0 ∨ j = 1 := by omega
    rcases this with rfl | rfl <;> rfl
  · have hi2 : i < len := by simpa using hi'
    simpa using (hV i hi2).2.1
  · obtain ⟨i, hi', rfl⟩ := List.mem_map.1 hc
    exact (hV i (List.mem_range.1 hi')).2.2

/-- How long a net's lists are at the most. -/
def ShortNet (n : Net) : Prop := n.streams.length ≤ 1048576 ∧ n.sources.length ≤ 1048576 ∧ n.workers.length ≤ 1048576 ∧ (∀ s ∈ n.sources, s.words.length ≤ 1048576 ∧ ∀ x ∈ s.words, Fits x) ∧ (∀ c ∈ n.workers, c.length ≤ 1048576 ∧ ∀ i ∈ c, Fits i.c)

set_option maxRecDepth 100000 in
theorem net_of_trod {fuel : Nat} {v : Value} {d : DataW H} {ps : List MemPlace} (hv : ∃ cs, v = .agg cs) (h : DataW.trod enc Tryd.prog w 0 (fun _ => true) true fuel 29 v.cells.toList = some (d, ps)) (hb : Rows.uptoBulk d ≤ 1048576) :
    ∃ n, NetAt w v n ∧ ShortNet n := by
  obtain ⟨cs, rfl⟩ := hv
  obtain ⟨xs, n, -, hx, hl, hxs, hf⟩ := DataW.trod_struct Tryd.underlying29 h
  have c26 : Tryd.prog.cellsOf 29 = 3 := by kernel_rfl
  have hl3 : cs.toList.length = 3 := hl.trans c26
  have hx3 : xs.length = 3 := hxs
  have c22 : Tryd.prog.cellsOf 22 = 1 := by kernel_rfl
  have c23 : Tryd.prog.cellsOf 26 = 1 := by kernel_rfl
  have c24 : Tryd.prog.cellsOf 27 = 1 := by kernel_rfl
  obtain ⟨cl⟩ := cs
  simp only [Value.cells] at hl3 hf
  match cl, hl3, xs, hx3, hx with
  | [k0, k1, k2], _, [y0, y1, y2], _, hx =>
    have e0 : DataW.trod enc Tryd.prog w 0 (fun _ => true) true n 22 (([k0, k1, k2].drop 0).take (Tryd.prog.cellsOf 22)) = some y0 := hf 0 _ rfl
    have e1 : DataW.trod enc Tryd.prog w 0 (fun _ => true) true n 26 (([k0, k1, k2].drop 1).take (Tryd.prog.cellsOf 26)) = some y1 := hf 1 _ rfl
    have e2 : DataW.trod enc Tryd.prog w 0 (fun _ => true) true n 27 (([k0, k1, k2].drop 2).take (Tryd.prog.cellsOf 27)) = some y2 := hf 2 _ rfl
    rw [c22] at e0
    rw [c23] at e1
    rw [c24] at e2
    have hd : d = .agg [y0.1, y1.1, y2.1] := by have := (Prod.mk.inj hx).1; simpa using this
    rw [hd] at hb
    simp only [Rows.uptoBulk, Rows.uptoBulkAll] at hb
    obtain ⟨v0, l0, q0, r0, s0, -⟩ := ints_of_trod (d := y0.1) (ps := y0.2) e0 (by omega)
    obtain ⟨v1, l1, q1, r1, s1, t1⟩ := sources_of_trod (d := y1.1) (ps := y1.2) e1 (by omega)
    obtain ⟨v2, l2, q2, r2, s2, t2⟩ := workers_of_trod (d := y2.1) (ps := y2.2) e2 (by omega)
    simp at q0 q1 q2
    subst q0 q1 q2
    exact ⟨⟨l0, l1, l2⟩, ⟨_, _, _, rfl, r0, r1, r2⟩, s0, s1, s2, t1, t2⟩

end

theorem Tryd.kids : Kids Tryd.prog (· < Tryd.prog.types.size) := kids_rows (by kernel_rfl) (by kernel_rfl)
theorem Tryd.full : ∀ t e, t < Tryd.prog.types.size → Tryd.prog.underlying t = some (.slice e) → 0 < Tryd.prog.cellsOf e := slices_full_of Tryd.prog (by kernel_rfl)

theorem trodAll_carry {H : Type} {enc : TypeId × Value → H} {P : Program} {w w' : World} {sp : Nat → Bool} : ∀ {ts : List TypeId} {vs : List Value} {ds : List (DataW H)} {ps : List MemPlace}, DataW.TrodAll enc P w 0 sp true ts vs ds ps → (∀ p ∈ ps, w.sameAt w' p) → DataW.TrodAll enc P w' 0 sp true ts vs ds ps
  | [], [], [], _, h, _ => h
  | _ :: _, _ :: _, _ :: _, _, ⟨p, q, ⟨n, h1⟩, h2, e⟩, hs =>
    ⟨p, q, ⟨n, DataW.trod_carry n _ _ _ h1 fun x hx => hs x (by rw [e]; exact List.mem_append_left _ hx)⟩, trodAll_carry h2 (fun x hx => hs x (by rw [e]; exact List.mem_append_right _ hx)), e⟩

set_option maxRecDepth 100000 in
/-- A law that answers true, and has left alone all that was there. -/
theorem post_law {H : Type} {enc : TypeId × Value → H} {f : Func} {s : ChangeSpec} {W W' : World} {args : Array Value} {ds : List (DataW H)} {before : List MemPlace} {fresh handsOn again : Bool}
    (hvars : s.vars = []) (hres : f.resultTypes = #[4]) (hT : ∀ t ∈ f.params.toList, t < Tryd.prog.types.size)
    (hfn : (s.fn H (ds ++ [])).results = [.lit (.bool true)]) (hfa : (s.fn H (ds ++ [])).args = ds) (hfv : (s.fn H (ds ++ [])).vars = [])
    (hW : DataW.Whole enc Tryd.prog f.params.toList s.vars false W args.toList ds [] before) (hb : Below W.heap.size W W') :
    s.post enc Tryd.prog f false fresh handsOn again W args (.bool true) W' := by
  have hW0 := hW
  obtain ⟨p, q, hA, hV, hpq, hz, -⟩ := hW
  rw [hvars] at hV
  have hq : q = [] := hV
  subst hq
  have hbe : before = p := by rw [hpq]; simp
  subst hbe
  have hargs : ∀ sp : Nat → Bool, (∀ x ∈ before, sp x.block = true) → DataW.TrodAll enc Tryd.prog W' 0 sp true f.params.toList args.toList ds before := fun sp hsp =>
    trodAll_carry (DataW.TrodAll.respare Tryd.kids Tryd.full hT hA hsp) fun x hx => hb.same (hA.lt x hx)
  have hr : ∀ (b : Nat) (sp : Nat → Bool) (hd : Bool), DataW.TrodAll enc Tryd.prog W' b sp hd f.resultTypes.toList ((Value.bool true).resultList f.resultTypes.size) [.lit (.bool true)] [] := fun b sp hd => by
    rw [hres]; exact trodAll_mk1 (shut_bool Tryd.underlying4 _)
  have hold : ∀ x ∈ before, (fun b => decide (b < W.heap.size)) x.block = true := fun x hx => by simpa using hA.lt x hx
  refine ⟨ds, [], before, [], before, [], hW0, by rw [hfn]; exact hr _ _ _, by rw [hfa]; exact hargs _ hold, by rw [hvars, hfv]; rfl, hb.frame _, fun _ => ?_⟩
  refine ⟨?_, _, [], ([] ++ before) ++ [], ⟨[] ++ before, [], trodAll_append (hargs _ (fun _ _ => rfl)) (hr _ _ _), by rw [hvars]; exact (rfl : ([] : List MemPlace) = []), rfl, ?_, fun h => by cases h⟩, ?_⟩
  · exact ok_one hres rfl (okWide_bool_mk Tryd.underlying4 _)
  · intro b off hp
    have hp' : MemPlace.cell b off ∈ before := by simpa using hp
    rw [hb.frozen (p := ⟨b, off, none⟩) (hA.lt _ hp')]
    exact hz b off (by rw [hpq]; simpa using hp')
  · intro x hx _
    simpa using hx

end Go.Proofs.YthfdgdfnflilfaaDoor
/- What comes in to a law over a net and three lists. -/
namespace Go.Proofs.YthfdgdfnflilfaaDoor
open Go.ChangeShapes Go.WideShapes Go.ChangeAt Go.RowKit

theorem door_own : ownKnob Tryd.prog.godebug = none := by kernel_rfl

theorem fits_of_short {n : Net} (h : ShortNet n) : NetFits n := by
  refine ⟨fun k hk i hi => ?_, fun s hs x hx => (h.2.2.2.1 s hs).2 x hx⟩
  have hm : codeOf n k ∈ n.workers := by unfold codeOf; rw [getD_eq _ _ _ hk]; exact List.getElem_mem hk
  exact (h.2.2.2.2 _ hm).2 i hi

theorem slice_one {v v' : Value} (h : v.cells.toList = [v']) (hs : ∃ a len cap, v = .slice a len cap) : v = v' := by
  obtain ⟨a, len, cap, rfl⟩ := hs
  simpa [Value.cells] using h

set_option maxRecDepth 100000 in
/-- What comes in to a law over a net and three lists. -/
theorem four_open {H : Type} {enc : TypeId × Value → H} {W : World} {base : Nat} {args : Array Value} {ds : List (DataW H)} {p : List MemPlace}
    (hval : ∀ (j : Nat) t v, #[29, 22, 22, 22][j]? = some t → args[j]? = some v → Value.okWide Tryd.prog W .any base t v)
    (hA : DataW.TrodAll enc Tryd.prog W 0 (fun _ => true) true [29, 22, 22, 22] args.toList ds p) (hk : Rows.uptoBulkAll ds ≤ 1048576) :
    ∃ v0 v1 v2 v3 n rooms one two, args = #[v0, v1, v2, v3] ∧ (∃ d0 d1 d2 d3, ds = [d0, d1, d2, d3]) ∧ NetAt W v0 n ∧ NetFits n ∧ (IntsAt W v1 rooms ∧ ∀ x ∈ rooms, InR x) ∧ (IntsAt W v2 one ∧ one.length ≤ 1048576 ∧ ∀ x ∈ one, InR x) ∧ (IntsAt W v3 two ∧ two.length ≤ 1048576 ∧ ∀ x ∈ two, InR x) := by
  obtain ⟨v0, vs0, d0, ds0, p0, q0, e0, rfl, -, h0, r0⟩ := trodAll_cons hA
  obtain ⟨v1, vs1, d1, ds1, p1, q1, rfl, rfl, -, h1, r1⟩ := trodAll_cons r0
  obtain ⟨v2, vs2, d2, ds2, p2, q2, rfl, rfl, -, h2, r2⟩ := trodAll_cons r1
  obtain ⟨v3, vs3, d3, ds3, p3, q3, rfl, rfl, -, h3, r3⟩ := trodAll_cons r2
  obtain ⟨rfl, rfl, -⟩ := trodAll_nil r3
  obtain rfl : args = #[v0, v1, v2, v3] := by cases args; simp_all
  simp only [Rows.uptoBulkAll] at hk
  obtain ⟨cs0, rfl, -⟩ := okWide_struct Tryd.underlying29 (hval 0 29 v0 rfl rfl)
  obtain ⟨f0, g0⟩ := h0
  obtain ⟨f1, g1⟩ := h1
  obtain ⟨f2, g2⟩ := h2
  obtain ⟨f3, g3⟩ := h3
  obtain ⟨n, hn, hsh⟩ := net_of_trod ⟨_, rfl⟩ g0 (by omega)
  obtain ⟨w1, l1, e1, i1, -, f1⟩ := ints_of_trod g1 (by omega)
  obtain ⟨w2, l2, e2, i2, b2, f2⟩ := ints_of_trod g2 (by omega)
  obtain ⟨w3, l3, e3, i3, b3, f3⟩ := ints_of_trod g3 (by omega)
  have e1' := slice_one e1 (okWide_slice Tryd.underlying22 (hval 1 22 v1 rfl rfl))
  have e2' := slice_one e2 (okWide_slice Tryd.underlying22 (hval 2 22 v2 rfl rfl))
  have e3' := slice_one e3 (okWide_slice Tryd.underlying22 (hval 3 22 v3 rfl rfl))
  subst e1' e2' e3'
  exact ⟨_, _, _, _, n, l1, l2, l3, rfl, ⟨_, _, _, _, rfl⟩, hn, fits_of_short hsh, ⟨i1, f1⟩, ⟨i2, b2, f2⟩, ⟨i3, b3, f3⟩⟩

end Go.Proofs.YthfdgdfnflilfaaDoor

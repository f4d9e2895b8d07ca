/- Part 13: KeepP, KeepL, KeepT. -/
import Derived.Deep.LoopGhost
import Derived.Deep.CutBlock
import Derived.Test.YthfdgdfnflilfaaDoorPart12
/- millracekeep: Prefix. -/
namespace Go.Proofs.YthfdgdfnflilfaaDoor
open Go.RowKit Go.Conc

set_option maxRecDepth 100000 in
set_option maxHeartbeats 2000000 in
theorem both_out {N : Net} {v vr v1 v2 : Value} {w : World} (hn : NetAt w v N) (hok : validB N = false) :
    Calls Tryd.prog 14 #[v, vr, v1, v2] w fun e w' => e = .returned (.tuple #[.pointer none, .pointer none, .bool true]) ∧ Below w.heap.size w w' := by
  have HN : Hid (∀ wx, Below w.heap.size w wx → Calls Tryd.prog 10 #[v] wx fun e w' => e = .returned (.tuple #[.pointer none, .int .i64 1]) ∧ Below wx.heap.size wx w') := fun wx hx => new_out (hn.below hx) hok
  obtain ⟨vs0, vr0, vw0, rfl, g1, g2, g3⟩ := hn
  obtain ⟨sa, sc, rfl⟩ := g1.form
  obtain ⟨ar, cr, rfl⟩ := g2.form
  obtain ⟨aw, cw, rfl⟩ := g3.form
  have hb0 : Below w.heap.size w (w.alloc (.cells #[.slice sa N.streams.length sc, .slice ar N.sources.length cr, .slice aw N.workers.length cw] 29)) := (Below.refl _ _).alloc (Nat.le_refl _) _
  have HB0 := hide hb0
  clear g1 g2 g3 hb0
  generalize N.workers.length = wl at *
  generalize N.streams.length = sl at *
  generalize N.sources.length = rl at *
  go_enter Tryd.func14, Tryd.ntmps14
  go_wp2_with fail
  refine (unhide HN _ HB0.out).mono ?_
  rintro e w1 ⟨rfl, hb1⟩
  have HB1 := hide (HB0.out.trans (hb1.mono HB0.out.size))
  clear hb1 HN HB0
  go_wp2
  go_ret3
  exact ⟨rfl, HB1.out⟩

theorem initR_roomy (N : Net) (rooms r : List Int) : initR (roomyN N rooms) r = initR N r := by
  have hl := roomsOf_length N.streams rooms
  simp only [initR, roomyN]
  rw [hl]
  rfl

theorem grun_roomy (N : Net) (rooms r : List Int) : ∀ es, grun (roomyN N rooms) r es = grun N r es
  | [] => by simp only [grun]; rw [initR_roomy]
  | e :: es => by
    simp only [grun]
    rw [grun_roomy N rooms r es]
    rfl

theorem good_cmp {N : Net} {rooms : List Int} {S T : Rc} {c d : Nat} (hok : validB N = true) (hS : Good N S c) (hT : Good (roomyN N rooms) T d) (s : Nat) (hs : s < N.streams.length) : Cmp (histOf (srcd N s) (S.s s)) (histOf (srcd N s) (T.s s)) := by
  obtain ⟨e1, h1, -⟩ := hS.run
  obtain ⟨e2, h2, -⟩ := hT.run
  rw [grun_roomy] at h2
  have := hist_cmp (valid_ok hok) N.streams (roomyN N rooms).streams e1 e2 s hs
  rw [h1, h2] at this
  exact this

theorem Two.has1 {P : Nat → Prop} {p q : Nat} {N M : Net} {S T : Rc} {w : World} (h : Two P p q N M S T w) : Has P p N S w := by
  obtain ⟨A, ha, hP, -⟩ := h.left
  exact ha.mono hP
theorem Two.has2 {P : Nat → Prop} {p q : Nat} {N M : Net} {S T : Rc} {w : World} (h : Two P p q N M S T w) : Has P q M T w := h.swap.has1

set_option maxRecDepth 100000 in
set_option maxHeartbeats 4000000 in
theorem prefix_calls {N : Net} {v vr v1 v2 : Value} {rooms one two : List Int} {w : World} (hn : NetAt w v N) (hr : IntsAt w vr rooms) (h1 : IntsAt w v1 one) (h2 : IntsAt w v2 two) (hf : NetFits N)
    (fr : ∀ x ∈ rooms, InR x) (f1 : ∀ x ∈ one, InR x) (f2 : ∀ x ∈ two, InR x) (l1 : one.length ≤ 1048576) (l2 : two.length ≤ 1048576) :
    Calls Tryd.prog 4 #[v, vr, v1, v2] w fun e w' => e = .returned (.bool true) ∧ Below w.heap.size w w' := by
  have HS : Hid (∀ wx, Calls Tryd.prog 8 #[] wx fun e w' => e = .returned (.bool true) ∧ Below wx.heap.size wx w') := sure_calls
  have hNt : ∀ wx, Below w.heap.size w wx → NetAt wx v N := fun wx hx => hn.below hx
  have hb0 : ∀ o, Below (w.heap.size + 1) (w.alloc o) (w.alloc o) := fun o => Below.refl _ _
  cases hok : validB N
  · have HBo : Hid (∀ wx, Below w.heap.size w wx → Calls Tryd.prog 14 #[v, vr, v1, v2] wx fun e w' => e = .returned (.tuple #[.pointer none, .pointer none, .bool true]) ∧ Below wx.heap.size wx w') := fun wx hx => both_out (hNt wx hx) hok
    obtain ⟨vs0, vr0, vw0, rfl, g1, g2, g3⟩ := hn
    obtain ⟨sa, sc, rfl⟩ := g1.form
    obtain ⟨ar, cr, rfl⟩ := g2.form
    obtain ⟨aw, cw, rfl⟩ := g3.form
    have HB0 := hide (hb0 (.cells #[.slice sa N.streams.length sc, .slice ar N.sources.length cr, .slice aw N.workers.length cw] 29))
    clear g1 g2 g3 hNt hr h1 h2 hb0 fr f1 f2
    generalize N.workers.length = wl at *
    generalize N.streams.length = sl at *
    generalize N.sources.length = rl at *
    go_enter Tryd.func4, Tryd.ntmps4
    go_wp2_with fail
    refine (unhide HS _).mono ?_
    rintro e w1 ⟨rfl, hb1⟩
    have HB1 := hide (below_box2 HB0.out hb1)
    have t1 : w1.heap[w.heap.size]? = some (.cells #[.slice sa sl sc, .slice ar rl cr, .slice aw wl cw] 29 (0, 0)) := by
      rw [HB1.out.block _ (by omega)]; exact heap_alloc_new _ _
    have z0 := (blk_cell t1 0 _ rfl).1
    have z1 := (blk_cell t1 1 _ rfl).1
    have z2 := (blk_cell t1 2 _ rfl).1
    clear hb1 t1 HB0 HS
    go_wp2_with fail
    refine (unhide HBo _ (below_box HB1.out)).mono ?_
    rintro e w2 ⟨rfl, hb2⟩
    have HB2 := hide (below_box (below_box2 HB1.out hb2))
    clear hb2 HBo HB1 z0 z1 z2
    go_wp2
    go_ret
    exact ⟨rfl, HB2.out⟩
  · have hcount := (valid_counts hok).2.1
    have HBo : Hid (∀ wx, Below w.heap.size w wx → Calls Tryd.prog 14 #[v, vr, v1, v2] wx fun e w' => ∃ p q S T, e = .returned (.tuple #[.pointer (some ⟨p, 0, none⟩), .pointer (some ⟨q, 0, none⟩), .bool true]) ∧ Two (fun b => b < wx.heap.size) p q N (roomyN N rooms) S T w' ∧ Good N S one.length ∧ Good (roomyN N rooms) T two.length ∧ Below wx.heap.size wx w') := fun wx hx => both_calls (hNt wx hx) (hr.below hx) (h1.below hx) (h2.below hx) hok hf fr f1 f2 l1 l2
    have HH : Hid (∀ (P : Nat → Prop) p q S T, Good N S one.length → Good (roomyN N rooms) T two.length → ∀ s, s < N.streams.length → ∃ n1 n2 : Nat, ∀ wx, Two P p q N (roomyN N rooms) S T wx → Calls Tryd.prog 13 #[.pointer (some ⟨p, 0, none⟩), .int .i64 s] wx fun e w' => ∃ a c, e = .returned (.tuple #[.slice a n1 c, .int .i64 0]) ∧ Below wx.heap.size wx w' ∧
        ∀ wy, Below w'.heap.size w' wy → Calls Tryd.prog 13 #[.pointer (some ⟨q, 0, none⟩), .int .i64 s] wy fun e w'' => ∃ a2 c2, e = .returned (.tuple #[.slice a2 n2 c2, .int .i64 0]) ∧ Below wy.heap.size wy w'' ∧
        ∀ wz, Below w''.heap.size w'' wz → Calls Tryd.prog 15 #[.slice a n1 c, .slice a2 n2 c2] wz fun e w3 => e = .returned (.bool true) ∧ Below wz.heap.size wz w3) := fun P p q S T hS hT s hs => by
      have hlM : (roomyN N rooms).streams.length = N.streams.length := roomsOf_length _ _
      refine ⟨(histOf (srcd N s) (S.s s)).length, (histOf (srcd N s) (T.s s)).length, fun wx htw => ?_⟩
      refine (has_history htw.has1 s hs).mono fun e w' ⟨a, c, q1, q2, q3⟩ => ⟨a, c, q1, q3, fun wy hy => ?_⟩
      refine (has_history ((htw.below q3).below hy).has2 s (by rw [hlM]; exact hs)).mono fun e w'' ⟨a2, c2, r1, r2, r3⟩ => ⟨a2, c2, r1, r3, fun wz hz => ?_⟩
      have w1l : (S.s s).words.length ≤ 2097152 := by have := hS.words s hs; omega
      have w2l : (T.s s).words.length ≤ 2097152 := by have := hT.words s (by rw [hlM]; exact hs); omega
      have hh : ∀ (b : Bool) (m : Sm), m.words.length ≤ 2097152 → (histOf b m).length ≤ 140737488355328 := fun b m hm => by
        unfold histOf
        split
        · simp; omega
        · omega
      have i1 : IntsAt w' (.slice a (histOf (srcd N s) (S.s s)).length c) (histOf (srcd N s) (S.s s)) := ints_own q2 (hh _ _ w1l)
      have i2 : IntsAt w'' (.slice a2 (histOf (srcd N s) (T.s s)).length c2) (histOf (srcd N s) (T.s s)) := ints_own r2 (hh _ _ w2l)
      exact beginning_calls (((i1.below hy).below r3).below hz) (i2.below hz) (begin_of_cmp (good_cmp hok hS hT s hs))
    obtain ⟨vs0, vr0, vw0, rfl, g1, g2, g3⟩ := hn
    obtain ⟨sa, sc, rfl⟩ := g1.form
    obtain ⟨ar, cr, rfl⟩ := g2.form
    obtain ⟨aw, cw, rfl⟩ := g3.form
    have HB0 := hide (hb0 (.cells #[.slice sa N.streams.length sc, .slice ar N.sources.length cr, .slice aw N.workers.length cw] 29))
    clear g1 g2 g3 hNt hr h1 h2 hb0 fr f1 f2 hf hok
    generalize roomyN N rooms = M at *
    generalize N.workers.length = wl at *
    generalize N.streams.length = sl at *
    generalize N.sources.length = rl at *
    generalize one.length = ol at *
    generalize two.length = tl at *
    go_enter Tryd.func4, Tryd.ntmps4
    go_wp2_with fail
    refine (unhide HS _).mono ?_
    rintro e w1 ⟨rfl, hb1⟩
    have HB1 := hide (below_box2 HB0.out hb1)
    have t1 : w1.heap[w.heap.size]? = some (.cells #[.slice sa sl sc, .slice ar rl cr, .slice aw wl cw] 29 (0, 0)) := by
      rw [HB1.out.block _ (by omega)]; exact heap_alloc_new _ _
    have z0 := (blk_cell t1 0 _ rfl).1
    have z1 := (blk_cell t1 1 _ rfl).1
    have z2 := (blk_cell t1 2 _ rfl).1
    clear hb1 t1 HB0 HS
    go_wp2_with fail
    refine (unhide HBo _ (below_box HB1.out)).mono ?_
    rintro e w2 ⟨p, q, S, T, rfl, htw, hgS, hgT, hb2⟩
    have HB2 := hide (below_box2 HB1.out hb2)
    have HTw := hide htw
    have HH1 := hide (HH.out (fun b => b < w1.heap.size) p q S T hgS hgT)
    clear htw hgS hgT hb2 HBo HB1 z0 z1 z2 HH
    go_wp2
    go_loopw [13] (fun i wr => ∃ k : Nat, k ≤ sl ∧ i = .int .i64 k ∧ Two (fun b => b < w1.heap.size) p q N M S T wr ∧ Below (w.heap.size + 1) (w.alloc (.cells #[.slice sa sl sc, .slice ar rl cr, .slice aw wl cw] 29)) wr) (fun i _ => sl - (intOf i).toNat)
    case atStart => exact ⟨0, Nat.zero_le _, rfl, HTw.out, HB2.out⟩
    case round =>
      clear HTw HB2
      obtain ⟨k, hk, rfl, htw, hbl⟩ := hrel
      have t0 : wr.heap[w.heap.size]? = some (.cells #[.slice sa sl sc, .slice ar rl cr, .slice aw wl cw] 29 (0, 0)) := by
        rw [hbl.block _ (by omega)]; exact heap_alloc_new _ _
      have z0 := (blk_cell t0 0 _ rfl).1
      have HB := hide hbl
      have HTw := hide htw
      clear t0
      by_cases hlt : k < sl
      · obtain ⟨n1, n2, hc⟩ := HH1.out k hlt
        have HC1 := hide (hc wr htw)
        clear hc hbl htw HH1
        go_wp2_with fail
        refine (unhide HC1).mono ?_
        rintro e w3 ⟨a, c, rfl, hb3, hc3⟩
        have HC3 := hide (hc3 w3 (Below.refl _ _))
        have HB3 := hide hb3
        clear hc3 hb3 HC1
        go_wp2_with fail
        refine (unhide HC3).mono ?_
        rintro e w4 ⟨a2, c2, rfl, hb4, hc4⟩
        have HC4 := hide (hc4 w4 (Below.refl _ _))
        have HB4 := hide hb4
        clear hc4 hb4 HC3
        go_wp2_with fail
        refine (unhide HC4).mono ?_
        rintro e w5 ⟨rfl, hb5⟩
        have HB5 := hide hb5
        have HT5 : Hid (Two (fun b => b < w1.heap.size) p q N M S T w5) := ((HTw.out.below HB3.out).below HB4.out).below hb5
        have HBB : Hid (Below (w.heap.size + 1) (w.alloc (.cells #[.slice sa sl sc, .slice ar rl cr, .slice aw wl cw] 29)) w5) := below_box2 (below_box2 (below_box2 HB.out HB3.out) HB4.out) hb5
        clear hb5 HC4 HB5 HB4 HB3 HTw HB
        go_wp2
        go_roundw
        case rel => exact ⟨k + 1, by omega, by go_num, HT5.out, HBB.out⟩
        case measure => simp [intOf]; omega
      · have HBB := hide (below_box hbl)
        clear hbl htw HH1 HTw HB
        go_wp2
        go_ret
        exact ⟨rfl, HBB.out⟩

end Go.Proofs.YthfdgdfnflilfaaDoor
/- millracekeep: Local, what it keeps. -/
namespace Go.Proofs.YthfdgdfnflilfaaDoor
open Go.RowKit Go.Conc

theorem Two.mono {P P' : Nat → Prop} {p q : Nat} {N M : Net} {S T : Rc} {w : World} (h : Two P p q N M S T w) (hs : ∀ b, P' b → P b) : Two P' p q N M S T w := by
  obtain ⟨L, K, h1, h2, h3, h4, h5, h6⟩ := h.ex
  exact ⟨⟨L, K, h1, h2, h3, h4, fun b hb => ⟨fun e => (h5 b hb).1 (hs b e), (h5 b hb).2⟩, fun b hb e => h6 b hb (hs b e)⟩, fun b hb => h.lt b (hs b hb)⟩

theorem Two.add {P : Nat → Prop} {p q : Nat} {N M : Net} {S T : Rc} {w w' : World} (h : Two P p q N M S T w) (hb : Below w.heap.size w w') : Two (fun b => P b ∨ (w.heap.size ≤ b ∧ b < w'.heap.size)) p q N M S T w' := by
  obtain ⟨L, K, h1, h2, h3, h4, h5, h6⟩ := h.ex
  refine ⟨⟨L, K, h1, h2, h3.below hb, h4.below hb, fun b hl => ⟨fun e => e.elim (h5 b hl).1 fun e => by have := h3.foot_lt hl; omega, (h5 b hl).2⟩, fun b hk e => e.elim (h6 b hk) fun e => by have := h4.foot_lt hk; omega⟩, fun b hp => ?_⟩
  rcases hp with hp | hp
  · exact Nat.lt_of_lt_of_le (h.lt b hp) hb.size
  · exact hp.2

theorem Two.set {P : Nat → Prop} {p q : Nat} {N M : Net} {S T : Rc} {w : World} (h : Two P p q N M S T w) {a : Addr} (ha : P a.block) (v : Value) : Two P p q N M S T (w.setCell a v) := by
  obtain ⟨L, K, h1, h2, h3, h4, h5, h6⟩ := h.ex
  refine ⟨⟨L, K, h1, h2, h3.frame fun b hb => Below.heap_setCell _ _ _ _ fun e => (h5 b hb).1 (e ▸ ha), h4.frame fun b hb => Below.heap_setCell _ _ _ _ fun e => h6 b hb (e ▸ ha), h5, h6⟩, fun b hb => ?_⟩
  have := h.lt b hb
  simpa [World.setCell] using this

theorem two_step {P : Nat → Prop} {p q : Nat} {N M : Net} {S T : Rc} {w : World} {c : Nat} (h : Two P p q N M S T w) (hg : Good N S c) (hc : c ≤ 1000000000000) (k : Nat) (hk : k < N.workers.length) :
    Calls Tryd.prog 17 #[.pointer (some ⟨p, 0, none⟩), .int .i64 k] w fun e w' => e = .returned (.tuple #[.int .i64 (stateOf N S k : Nat), .int .i64 0]) ∧ Two P p q N M (stepR N S k) T w' ∧ Keeps P w w' := by
  obtain ⟨A, ha, hPA, hnext⟩ := h.left
  refine (has_step ha k hk fun s hs => by have := hg.words s hs; omega).mono fun e w' ⟨q1, q2, q3⟩ => ⟨q1, hnext _ _ _ q2 q3, Fr.mono q3 fun b _ hb' hp => hb' (hPA b hp)⟩

/-- Steps are how many instructions a worker has done. -/
theorem Good.steps {N : Net} {R : Rc} {c k : Nat} (h : Good N R c) (hv : validB N = true) (hc : c ≤ 1000000000000) (hk : k < N.workers.length) : 0 ≤ (R.w k).steps ∧ (R.w k).steps ≤ c := by
  obtain ⟨es, he, hcn⟩ := h.run
  have := steps_count N.streams k hk (valid_ok hv) es
  have h1 := hcn k
  rw [steps_small _ (by omega), he] at this
  omega

theorem good_local {N : Net} {rooms : List Int} {S T : Rc} {c d k : Nat} (hok : validB N = true) (hS : Good N S c) (hT : Good (roomyN N rooms) T d) (hc : c ≤ 1000000000000) (hd : d ≤ 1000000000000) (hk : k < N.workers.length) (he : (S.w k).steps = (T.w k).steps) : S.w k = T.w k := by
  obtain ⟨e1, h1, c1⟩ := hS.run
  obtain ⟨e2, h2, c2⟩ := hT.run
  rw [grun_roomy] at h2 c2
  have s1 := steps_count N.streams k hk (valid_ok hok) e1
  have s2 := steps_count (roomyN N rooms).streams k hk (valid_ok hok) e2
  have b1 := c1 k
  have b2 := c2 k
  rw [steps_small _ (by omega), h1] at s1
  rw [steps_small _ (by omega), h2] at s2
  have := local_eq (valid_ok hok) N.streams (roomyN N rooms).streams e1 e2 k hk (by omega)
  rw [h1, h2] at this
  exact this

/-- A look in memory, and a look that is stored. -/
def lookCells (x : Wk) (st : Nat) : List Value := [.int .i64 x.place, .int .i64 (x.r 0), .int .i64 (x.r 1), .int .i64 (x.r 2), .int .i64 (x.r 3), .int .i64 x.steps, .int .i64 st]
def setLook (w : World) (b : Nat) (x : Wk) (st : Nat) : World :=
  ((((((w.setCell ⟨b, 0, none⟩ (.int .i64 x.place)).setCell ⟨b, 1, none⟩ (.int .i64 (x.r 0))).setCell ⟨b, 2, none⟩ (.int .i64 (x.r 1))).setCell ⟨b, 3, none⟩ (.int .i64 (x.r 2))).setCell ⟨b, 4, none⟩ (.int .i64 (x.r 3))).setCell ⟨b, 5, none⟩ (.int .i64 x.steps)).setCell ⟨b, 6, none⟩ (.int .i64 st)

theorem setLook_at {w : World} {b : Nat} {y x : Wk} {st st' : Nat} (h : w.heap[b]? = some (.cells (lookCells y st').toArray 50 (0, 0))) : (setLook w b x st).heap[b]? = some (.cells (lookCells x st).toArray 50 (0, 0)) := by
  have h0 := blk_set h 0 (.int .i64 x.place)
  have h1 := blk_set h0 1 (.int .i64 (x.r 0))
  have h2 := blk_set h1 2 (.int .i64 (x.r 1))
  have h3 := blk_set h2 3 (.int .i64 (x.r 2))
  have h4 := blk_set h3 4 (.int .i64 (x.r 3))
  have h5 := blk_set h4 5 (.int .i64 x.steps)
  exact blk_set h5 6 (.int .i64 st)
theorem setLook_ne {w : World} {b c : Nat} {x : Wk} {st : Nat} (h : c ≠ b) : (setLook w b x st).heap[c]? = w.heap[c]? := by
  unfold setLook
  rw [Below.heap_setCell _ _ _ _ h, Below.heap_setCell _ _ _ _ h, Below.heap_setCell _ _ _ _ h, Below.heap_setCell _ _ _ _ h, Below.heap_setCell _ _ _ _ h, Below.heap_setCell _ _ _ _ h, Below.heap_setCell _ _ _ _ h]
theorem setLook_size {w : World} {b : Nat} {x : Wk} {st : Nat} : (setLook w b x st).heap.size = w.heap.size := by simp [setLook, World.setCell]

theorem setLook_below {B : Nat} {a w : World} (h : Below B a w) {b : Nat} (hb : B ≤ b) {x : Wk} {st : Nat} : Below B a (setLook w b x st) :=
  ((((((h.setCell (p := ⟨b, 0, none⟩) hb _).setCell (p := ⟨b, 1, none⟩) hb _).setCell (p := ⟨b, 2, none⟩) hb _).setCell (p := ⟨b, 3, none⟩) hb _).setCell (p := ⟨b, 4, none⟩) hb _).setCell (p := ⟨b, 5, none⟩) hb _).setCell (p := ⟨b, 6, none⟩) hb _

/-- Two races, a look at each, the net's box at bx. -/
structure Lets (P : Nat → Prop) (p q : Nat) (N M : Net) (ba bb bx : Nat) (box : Obj) (w0 : World) (xa : Wk) (sa : Nat) (xb : Wk) (sb : Nat) (S T : Rc) (cS cT : Nat) (w : World) : Prop where
  two : Two P p q N M S T w
  gS : Good N S cS
  gT : Good M T cT
  la : w.heap[ba]? = some (.cells (lookCells xa sa).toArray 50 (0, 0))
  lb : w.heap[bb]? = some (.cells (lookCells xb sb).toArray 50 (0, 0))
  lx : w.heap[bx]? = some box
  bel : Below (bx + 1) w0 w
  pa : P ba
  pb : P bb
  px : ∀ b, b < bx + 1 → P b
  ne : ba ≠ bb ∧ bx < ba ∧ bx < bb

theorem Lets.swap {P : Nat → Prop} {p q : Nat} {N M : Net} {ba bb bx : Nat} {box : Obj} {w0 : World} {xa : Wk} {sa : Nat} {xb : Wk} {sb : Nat} {S T : Rc} {cS cT : Nat} {w : World} (h : Lets P p q N M ba bb bx box w0 xa sa xb sb S T cS cT w) : Lets P q p M N bb ba bx box w0 xb sb xa sa T S cT cS w :=
  ⟨h.two.swap, h.gT, h.gS, h.lb, h.la, h.lx, h.bel, h.pb, h.pa, h.px, fun e => h.ne.1 e.symm, h.ne.2.2, h.ne.2.1⟩

theorem Lets.keeps {P : Nat → Prop} {p q : Nat} {N M : Net} {ba bb bx : Nat} {box : Obj} {w0 : World} {xa : Wk} {sa : Nat} {xb : Wk} {sb : Nat} {S S' T : Rc} {cS cS' cT : Nat} {w w' : World} (h : Lets P p q N M ba bb bx box w0 xa sa xb sb S T cS cT w) (h2 : Two P p q N M S' T w') (hg : Good N S' cS') (hk : Keeps P w w') : Lets P p q N M ba bb bx box w0 xa sa xb sb S' T cS' cT w' := by
  refine ⟨h2, hg, h.gT, (hk.block ba (lt_of_blk h.la) fun e => e h.pa).trans h.la, (hk.block bb (lt_of_blk h.lb) fun e => e h.pb).trans h.lb, (hk.block bx (lt_of_blk h.lx) fun e => e (h.px bx (by omega))).trans h.lx, h.bel.trans (hk.below (by have := lt_of_blk h.lx; omega) fun b hb => h.px b hb), h.pa, h.pb, h.px, h.ne⟩

theorem Lets.stepX {P : Nat → Prop} {p q : Nat} {N M : Net} {ba bb bx : Nat} {box : Obj} {w0 : World} {xa : Wk} {sa : Nat} {xb : Wk} {sb : Nat} {S T : Rc} {cS cT : Nat} {w : World} (h : Lets P p q N M ba bb bx box w0 xa sa xb sb S T cS cT w) (hf : NetFits N) (hv : validB N = true) (hc : cS ≤ 1000000000000) (k : Nat) (hk : k < N.workers.length) :
    Calls Tryd.prog 17 #[.pointer (some ⟨p, 0, none⟩), .int .i64 k] w fun e w' => e = .returned (.tuple #[.int .i64 (stateOf N S k : Nat), .int .i64 0]) ∧ ((stateOf N S k ≠ 1 ∧ Lets P p q N M ba bb bx box w0 xa sa xb sb S T cS cT w') ∨ (stateOf N S k = 1 ∧ Lets P p q N M ba bb bx box w0 xa sa xb sb (doStep N S k) T (cS + 1) cT w')) := by
  refine (two_step h.two h.gS hc k hk).mono fun e w' ⟨q1, q2, q3⟩ => ⟨q1, ?_⟩
  by_cases hst : stateOf N S k = 1
  · rw [stepR, if_pos hst] at q2
    exact Or.inr ⟨hst, h.keeps q2 (h.gS.step hv hf hk hst) q3⟩
  · rw [stepR, if_neg hst] at q2
    exact Or.inl ⟨hst, h.keeps q2 h.gS q3⟩

theorem Lets.lookX {P : Nat → Prop} {p q : Nat} {N M : Net} {ba bb bx : Nat} {box : Obj} {w0 : World} {xa : Wk} {sa : Nat} {xb : Wk} {sb : Nat} {S T : Rc} {cS cT : Nat} {w : World} (h : Lets P p q N M ba bb bx box w0 xa sa xb sb S T cS cT w) (k : Nat) (hk : k < N.workers.length) :
    Calls Tryd.prog 16 #[.pointer (some ⟨p, 0, none⟩), .int .i64 k] w fun e w' => e = .returned (.tuple #[.agg #[.int .i64 (S.w k).place, .int .i64 ((S.w k).r 0), .int .i64 ((S.w k).r 1), .int .i64 ((S.w k).r 2), .int .i64 ((S.w k).r 3), .int .i64 (S.w k).steps, .int .i64 (stateOf N S k : Nat)], .int .i64 0]) ∧ Lets P p q N M ba bb bx box w0 xa sa xb sb S T cS cT w' :=
  (has_look h.two.has1 k hk).mono fun _ _ ⟨q1, q2⟩ => ⟨q1, h.keeps (h.two.below q2) h.gS (Keeps.of_below q2)⟩

theorem Lets.setX {P : Nat → Prop} {p q : Nat} {N M : Net} {ba bb bx : Nat} {box : Obj} {w0 : World} {xa : Wk} {sa : Nat} {xb : Wk} {sb : Nat} {S T : Rc} {cS cT : Nat} {w : World} (h : Lets P p q N M ba bb bx box w0 xa sa xb sb S T cS cT w) (x : Wk) (st : Nat) : Lets P p q N M ba bb bx box w0 x st xb sb S T cS cT (setLook w ba x st) := by
  have h0 := h.two.set (a := ⟨ba, 0, none⟩) h.pa (.int .i64 x.place)
  have h1 := h0.set (a := ⟨ba, 1, none⟩) h.pa (.int .i64 (x.r 0))
  have h2 := h1.set (a := ⟨ba, 2, none⟩) h.pa (.int .i64 (x.r 1))
  have h3 := h2.set (a := ⟨ba, 3, none⟩) h.pa (.int .i64 (x.r 2))
  have h4 := h3.set (a := ⟨ba, 4, none⟩) h.pa (.int .i64 (x.r 3))
  have h5 := h4.set (a := ⟨ba, 5, none⟩) h.pa (.int .i64 x.steps)
  have h6 : Two P p q N M S T (setLook w ba x st) := h5.set (a := ⟨ba, 6, none⟩) h.pa (.int .i64 (st : Nat))
  clear h0 h1 h2 h3 h4 h5
  refine ⟨h6, h.gS, h.gT, setLook_at h.la, (setLook_ne fun e => h.ne.1 e.symm).trans h.lb, (setLook_ne (by have := h.ne.2.1; omega)).trans h.lx, setLook_below h.bel (by have := h.ne.2.1; omega), h.pa, h.pb, h.px, h.ne⟩

end Go.Proofs.YthfdgdfnflilfaaDoor
/- millracekeep: Local. -/
namespace Go.Proofs.YthfdgdfnflilfaaDoor
open Go.RowKit Go.Conc

theorem Good.up {N : Net} {R : Rc} {c d : Nat} (h : Good N R c) (hd : c ≤ d) : Good N R d := ⟨let ⟨es, he, hcn⟩ := h.run; ⟨es, he, fun k => Nat.le_trans (hcn k) hd⟩, h.room, h.grew, fun s hs => by have := h.words s hs; omega, h.fitsW, h.fitsS⟩

theorem Lets.go {P : Nat → Prop} {p q : Nat} {N M : Net} {ba bb bx : Nat} {box : Obj} {w0 : World} {xa : Wk} {sa : Nat} {xb : Wk} {sb : Nat} {S T : Rc} {cS cT : Nat} {w : World} (h : Lets P p q N M ba bb bx box w0 xa sa xb sb S T cS cT w) (hf : NetFits N) (hv : validB N = true) (hc : cS ≤ 1000000000000) (k : Nat) (hk : k < N.workers.length) :
    Calls Tryd.prog 17 #[.pointer (some ⟨p, 0, none⟩), .int .i64 k] w fun e w' => ∃ st : Nat, e = .returned (.tuple #[.int .i64 (st : Nat), .int .i64 0]) ∧ ((st ≠ 1 ∧ Lets P p q N M ba bb bx box w0 xa sa xb sb S T cS cT w') ∨ (st = 1 ∧ ∃ S', (S'.w k).steps = (S.w k).steps + 1 ∧ Lets P p q N M ba bb bx box w0 xa sa xb sb S' T (cS + 1) cT w')) := by
  refine (h.stepX hf hv hc k hk).mono fun e w' ⟨q1, q2⟩ => ⟨_, q1, ?_⟩
  rcases q2 with q2 | ⟨q2, q3⟩
  · exact Or.inl q2
  · refine Or.inr ⟨q2, _, ?_, q3⟩
    have hlW : S.W.length = N.workers.length := by
      obtain ⟨es, he, -⟩ := h.gS.run
      rw [← he]; exact (gi_run (valid_ok hv) N.streams es).lenW
    have hs := h.gS.steps hv hc hk
    rw [doStep_steps (by rw [hlW]; exact hk) q2]
    unfold wrap64
    omega

/-- A look that is stored. -/
theorem Lets.lookS {P : Nat → Prop} {p q : Nat} {N M : Net} {ba bb bx : Nat} {box : Obj} {w0 : World} {xa : Wk} {sa : Nat} {xb : Wk} {sb : Nat} {S T : Rc} {cS cT : Nat} {w : World} (h : Lets P p q N M ba bb bx box w0 xa sa xb sb S T cS cT w) (k : Nat) (hk : k < N.workers.length) :
    Calls Tryd.prog 16 #[.pointer (some ⟨p, 0, none⟩), .int .i64 k] w fun e w' => ∃ (st : Nat) (a0 a1 a2 a3 a4 a5 : Int), e = .returned (.tuple #[.agg #[.int .i64 a0, .int .i64 a1, .int .i64 a2, .int .i64 a3, .int .i64 a4, .int .i64 a5, .int .i64 (st : Nat)], .int .i64 0]) ∧ w'.heap[ba]? = some (.cells (lookCells xa sa).toArray 50 (0, 0)) ∧
      Lets P p q N M ba bb bx box w0 (S.w k) st xb sb S T cS cT (((((((w'.setCell ⟨ba, 0, none⟩ (.int .i64 a0)).setCell ⟨ba, 1, none⟩ (.int .i64 a1)).setCell ⟨ba, 2, none⟩ (.int .i64 a2)).setCell ⟨ba, 3, none⟩ (.int .i64 a3)).setCell ⟨ba, 4, none⟩ (.int .i64 a4)).setCell ⟨ba, 5, none⟩ (.int .i64 a5)).setCell ⟨ba, 6, none⟩ (.int .i64 (st : Nat))) :=
  (h.lookX k hk).mono fun _ _ ⟨q1, q2⟩ => ⟨_, _, _, _, _, _, _, q1, q2.la, q2.setX _ _⟩

set_option maxRecDepth 100000 in
set_option maxHeartbeats 8000000 in
theorem local_net {N : Net} {v vr v1 v2 : Value} {rooms one two : List Int} {w : World} (hn : NetAt w v N) (hr : IntsAt w vr rooms) (h1 : IntsAt w v1 one) (h2 : IntsAt w v2 two) (hf : NetFits N)
    (fr : ∀ x ∈ rooms, InR x) (f1 : ∀ x ∈ one, InR x) (f2 : ∀ x ∈ two, InR x) (l1 : one.length ≤ 1048576) (l2 : two.length ≤ 1048576) (hok : validB N = true) :
    Calls Tryd.prog 5 #[v, vr, v1, v2] w fun e w' => e = .returned (.bool true) ∧ Below w.heap.size w w' := by
  have HS : Hid (∀ wx, Calls Tryd.prog 8 #[] wx fun e w' => e = .returned (.bool true) ∧ Below wx.heap.size wx w') := sure_calls
  have hNt : ∀ wx, Below w.heap.size w wx → NetAt wx v N := fun wx hx => hn.below hx
  have hb0 : ∀ o, Below (w.heap.size + 1) (w.alloc o) (w.alloc o) := fun o => Below.refl _ _
  have hcount := valid_counts hok
  have HBo : Hid (∀ wx, Below w.heap.size w wx → Calls Tryd.prog 14 #[v, vr, v1, v2] wx fun e w' => ∃ p q S T, e = .returned (.tuple #[.pointer (some ⟨p, 0, none⟩), .pointer (some ⟨q, 0, none⟩), .bool true]) ∧ Two (fun b => b < wx.heap.size) p q N (roomyN N rooms) S T w' ∧ Good N S 1048576 ∧ Good (roomyN N rooms) T 1048576 ∧ Below wx.heap.size wx w') := fun wx hx => (both_calls (hNt wx hx) (hr.below hx) (h1.below hx) (h2.below hx) hok hf fr f1 f2 l1 l2).mono fun e w' ⟨p, q, S, T, q1, q2, q3, q4, q5⟩ => ⟨p, q, S, T, q1, q2, q3.up l1, q4.up l2, q5⟩
  have hvM := roomy_valid hok rooms
  have hfM := roomy_fits hf rooms
  have HGo1 : Hid (∀ (P : Nat → Prop) p q ba bb bx box w0 xa sa xb sb S T cS cT wx (k : Nat), Lets P p q N (roomyN N rooms) ba bb bx box w0 xa sa xb sb S T cS cT wx → cS ≤ 1000000000000 → k < N.workers.length → Calls Tryd.prog 17 #[.pointer (some ⟨p, 0, none⟩), .int .i64 k] wx fun e w' => ∃ st : Nat, e = .returned (.tuple #[.int .i64 (st : Nat), .int .i64 0]) ∧ ((st ≠ 1 ∧ Lets P p q N (roomyN N rooms) ba bb bx box w0 xa sa xb sb S T cS cT w') ∨ (st = 1 ∧ ∃ S', (S'.w k).steps = (S.w k).steps + 1 ∧ Lets P p q N (roomyN N rooms) ba bb bx box w0 xa sa xb sb S' T (cS + 1) cT w'))) :=
    fun P p q ba bb bx box w0 xa sa xb sb S T cS cT wx k hl hc hk => hl.go hf hok hc k hk
  have HGo2 : Hid (∀ (P : Nat → Prop) p q ba bb bx box w0 xa sa xb sb S T cS cT wx (k : Nat), Lets P p q N (roomyN N rooms) ba bb bx box w0 xa sa xb sb S T cS cT wx → cT ≤ 1000000000000 → k < N.workers.length → Calls Tryd.prog 17 #[.pointer (some ⟨q, 0, none⟩), .int .i64 k] wx fun e w' => ∃ st : Nat, e = .returned (.tuple #[.int .i64 (st : Nat), .int .i64 0]) ∧ ((st ≠ 1 ∧ Lets P p q N (roomyN N rooms) ba bb bx box w0 xa sa xb sb S T cS cT w') ∨ (st = 1 ∧ ∃ T', (T'.w k).steps = (T.w k).steps + 1 ∧ Lets P p q N (roomyN N rooms) ba bb bx box w0 xa sa xb sb S T' cS (cT + 1) w'))) :=
    fun P p q ba bb bx box w0 xa sa xb sb S T cS cT wx k hl hc hk => (hl.swap.go hfM hvM hc k hk).mono fun e w' ⟨st, q1, q2⟩ => ⟨st, q1, q2.imp (fun ⟨a, b⟩ => ⟨a, b.swap⟩) fun ⟨a, S', b, c⟩ => ⟨a, S', b, c.swap⟩⟩
  have HLo1 : Hid (∀ (P : Nat → Prop) p q ba bb bx box w0 xa sa xb sb S T cS cT wx (k : Nat), Lets P p q N (roomyN N rooms) ba bb bx box w0 xa sa xb sb S T cS cT wx → k < N.workers.length → Calls Tryd.prog 16 #[.pointer (some ⟨p, 0, none⟩), .int .i64 k] wx fun e w' => ∃ (st : Nat) (a0 a1 a2 a3 a4 a5 : Int), e = .returned (.tuple #[.agg #[.int .i64 a0, .int .i64 a1, .int .i64 a2, .int .i64 a3, .int .i64 a4, .int .i64 a5, .int .i64 (st : Nat)], .int .i64 0]) ∧ w'.heap[ba]? = some (.cells (lookCells xa sa).toArray 50 (0, 0)) ∧
      Lets P p q N (roomyN N rooms) ba bb bx box w0 (S.w k) st xb sb S T cS cT (((((((w'.setCell ⟨ba, 0, none⟩ (.int .i64 a0)).setCell ⟨ba, 1, none⟩ (.int .i64 a1)).setCell ⟨ba, 2, none⟩ (.int .i64 a2)).setCell ⟨ba, 3, none⟩ (.int .i64 a3)).setCell ⟨ba, 4, none⟩ (.int .i64 a4)).setCell ⟨ba, 5, none⟩ (.int .i64 a5)).setCell ⟨ba, 6, none⟩ (.int .i64 (st : Nat)))) :=
    fun P p q ba bb bx box w0 xa sa xb sb S T cS cT wx k hl hk => hl.lookS k hk
  have HLo2 : Hid (∀ (P : Nat → Prop) p q ba bb bx box w0 xa sa xb sb S T cS cT wx (k : Nat), Lets P p q N (roomyN N rooms) ba bb bx box w0 xa sa xb sb S T cS cT wx → k < N.workers.length → Calls Tryd.prog 16 #[.pointer (some ⟨q, 0, none⟩), .int .i64 k] wx fun e w' => ∃ (st : Nat) (a0 a1 a2 a3 a4 a5 : Int), e = .returned (.tuple #[.agg #[.int .i64 a0, .int .i64 a1, .int .i64 a2, .int .i64 a3, .int .i64 a4, .int .i64 a5, .int .i64 (st : Nat)], .int .i64 0]) ∧ w'.heap[bb]? = some (.cells (lookCells xb sb).toArray 50 (0, 0)) ∧
      Lets P p q N (roomyN N rooms) ba bb bx box w0 xa sa (T.w k) st S T cS cT (((((((w'.setCell ⟨bb, 0, none⟩ (.int .i64 a0)).setCell ⟨bb, 1, none⟩ (.int .i64 a1)).setCell ⟨bb, 2, none⟩ (.int .i64 a2)).setCell ⟨bb, 3, none⟩ (.int .i64 a3)).setCell ⟨bb, 4, none⟩ (.int .i64 a4)).setCell ⟨bb, 5, none⟩ (.int .i64 a5)).setCell ⟨bb, 6, none⟩ (.int .i64 (st : Nat)))) :=
    fun P p q ba bb bx box w0 xa sa xb sb S T cS cT wx k hl hk => (hl.swap.lookS k hk).mono fun e w' ⟨st, a0, a1, a2, a3, a4, a5, q1, q2, q3⟩ => ⟨st, a0, a1, a2, a3, a4, a5, q1, q2, q3.swap⟩
  have HL1 : Hid (∀ (P : Nat → Prop) p q S T wx (k : Nat), Two P p q N (roomyN N rooms) S T wx → k < N.workers.length → Calls Tryd.prog 16 #[.pointer (some ⟨p, 0, none⟩), .int .i64 k] wx fun e w' => e = .returned (.tuple #[.agg #[.int .i64 (S.w k).place, .int .i64 ((S.w k).r 0), .int .i64 ((S.w k).r 1), .int .i64 ((S.w k).r 2), .int .i64 ((S.w k).r 3), .int .i64 (S.w k).steps, .int .i64 (stateOf N S k : Nat)], .int .i64 0]) ∧ Below wx.heap.size wx w') := fun P p q S T wx k htw hk => has_look htw.has1 k hk
  have HL2 : Hid (∀ (P : Nat → Prop) p q S T wx (k : Nat), Two P p q N (roomyN N rooms) S T wx → k < N.workers.length → Calls Tryd.prog 16 #[.pointer (some ⟨q, 0, none⟩), .int .i64 k] wx fun e w' => e = .returned (.tuple #[.agg #[.int .i64 (T.w k).place, .int .i64 ((T.w k).r 0), .int .i64 ((T.w k).r 1), .int .i64 ((T.w k).r 2), .int .i64 ((T.w k).r 3), .int .i64 (T.w k).steps, .int .i64 (stateOf (roomyN N rooms) T k : Nat)], .int .i64 0]) ∧ Below wx.heap.size wx w') := fun P p q S T wx k htw hk => has_look htw.has2 k hk
  have HGS : Hid (∀ S c (k : Nat), Good N S c → c ≤ 1000000000000 → k < N.workers.length → 0 ≤ (S.w k).steps ∧ (S.w k).steps ≤ c) := fun S c k hg hc hk => hg.steps hok hc hk
  have HGT : Hid (∀ T c (k : Nat), Good (roomyN N rooms) T c → c ≤ 1000000000000 → k < N.workers.length → 0 ≤ (T.w k).steps ∧ (T.w k).steps ≤ c) := fun S c k hg hc hk => hg.steps hvM hc hk
  have HEq : Hid (∀ S T cS cT (k : Nat), Good N S cS → Good (roomyN N rooms) T cT → cS ≤ 1000000000000 → cT ≤ 1000000000000 → k < N.workers.length → (S.w k).steps = (T.w k).steps → S.w k = T.w k) := fun S T cS cT k g1 g2 c1 c2 hk he => good_local hok g1 g2 c1 c2 hk he
  obtain ⟨vs0, vr0, vw0, rfl, g1, g2, g3⟩ := hn
  obtain ⟨sa, sc, rfl⟩ := g1.form
  obtain ⟨ar, cr, rfl⟩ := g2.form
  obtain ⟨aw, cw, rfl⟩ := g3.form
  have HB0 := hide (hb0 (.cells #[.slice sa N.streams.length sc, .slice ar N.sources.length cr, .slice aw N.workers.length cw] 29))
  obtain ⟨-, hs8, -, hw6⟩ := hcount
  clear g1 g2 g3 hNt hr h1 h2 hb0 fr f1 f2 hf hok hvM hfM l1 l2
  generalize roomyN N rooms = M at *
  generalize N.workers.length = wl at *
  generalize N.streams.length = sl at *
  generalize N.sources.length = rl at *
  go_enter Tryd.func5, Tryd.ntmps5
  go_wp2_with fail
  refine (unhide HS _).mono ?_
  rintro e w1 ⟨rfl, hb1⟩
  have HB1 := hide (below_box2 HB0.out hb1)
  have t1 : w1.heap[w.heap.size]? = some (.cells #[.slice sa sl sc, .slice ar rl cr, .slice aw wl cw] 29 (0, 0)) := by
    rw [HB1.out.block _ (by omega)]; exact heap_alloc_new _ _
  have z0 := (blk_cell t1 0 _ rfl).1
  have z1 := (blk_cell t1 1 _ rfl).1
  have z2 := (blk_cell t1 2 _ rfl).1
  have htl1 := lt_of_blk t1
  clear hb1 t1 HB0 HS
  go_wp2_with fail
  refine (unhide HBo _ (below_box HB1.out)).mono ?_
  rintro e w2 ⟨p, q, S, T, rfl, htw, hgS, hgT, hb2⟩
  have HB2 := hide (below_box2 HB1.out hb2)
  have HTw := hide htw
  have HG1 := hide hgS
  have HG2 := hide hgT
  clear htw hgS hgT hb2 HBo HB1 z0 z1 z2
  go_wp2
  go_loopw [13] (fun i wr => ∃ (k : Nat) (S T : Rc), k ≤ wl ∧ i = .int .i64 k ∧ Two (fun b => b < w1.heap.size) p q N M S T wr ∧ Good N S (1048576 * 4 ^ k) ∧ Good M T (1048576 * 4 ^ k) ∧ Below (w.heap.size + 1) (w.alloc (.cells #[.slice sa sl sc, .slice ar rl cr, .slice aw wl cw] 29)) wr) (fun i _ => wl - (intOf i).toNat)
  case atStart => exact ⟨0, S, T, Nat.zero_le _, rfl, HTw.out, HG1.out, HG2.out, HB2.out⟩
  case round =>
    clear HTw HB2 HG1 HG2 S T
    obtain ⟨k, S, T, hk, rfl, htw, hgS, hgT, hbl⟩ := hrel
    have t0 : wr.heap[w.heap.size]? = some (.cells #[.slice sa sl sc, .slice ar rl cr, .slice aw wl cw] 29 (0, 0)) := by
      rw [hbl.block _ (by omega)]; exact heap_alloc_new _ _
    have z2 := (blk_cell t0 2 _ rfl).1
    by_cases hlt : k < wl
    · have hp4 : Hid (4 ^ k ≤ 1024 ∧ 4 ^ (k + 1) = 4 * 4 ^ k ∧ 1 ≤ 4 ^ k) := ⟨Nat.le_trans (Nat.pow_le_pow_right (by omega) (show k ≤ 5 by omega)) (by decide), by rw [Nat.pow_succ]; omega, Nat.one_le_pow _ _ (by omega)⟩
      have HCa := hide (HL1.out _ p q S T wr k htw hlt)
      have HTw := hide htw
      have HG1 := hide hgS
      have HG2 := hide hgT
      have HB := hide hbl
      have HT0 := hide t0
      clear htw hgS hgT hbl t0
      go_wp2_with fail
      refine (unhide HCa).mono ?_
      rintro e w3 ⟨rfl, hb3⟩
      have hsz3 := hb3.size
      have hbA : Below wr.heap.size wr (w3.alloc (.cells #[.int .i64 (S.w k).place, .int .i64 ((S.w k).r 0), .int .i64 ((S.w k).r 1), .int .i64 ((S.w k).r 2), .int .i64 ((S.w k).r 3), .int .i64 (S.w k).steps, .int .i64 (stateOf N S k : Nat)] 50)) := hb3.alloc hb3.size _
      have HCb := hide (HL2.out _ p q S T _ k (HTw.out.below hbA) hlt)
      have HBA := hide hbA
      clear hb3 hbA HCa z2 HL1 HL2
      go_wp2_with fail
      refine (unhide HCb).mono ?_
      rintro e w4 ⟨rfl, hb4⟩
      have u4 : w4.heap[w3.heap.size]? = some (.cells #[.int .i64 (S.w k).place, .int .i64 ((S.w k).r 0), .int .i64 ((S.w k).r 1), .int .i64 ((S.w k).r 2), .int .i64 ((S.w k).r 3), .int .i64 (S.w k).steps, .int .i64 (stateOf N S k : Nat)] 50 (0, 0)) := (hb4.block _ (by simp)).trans (heap_alloc_new _ _)
      have ul := lt_of_blk u4
      have hbB : Below wr.heap.size wr (w4.alloc (.cells #[.int .i64 (T.w k).place, .int .i64 ((T.w k).r 0), .int .i64 ((T.w k).r 1), .int .i64 ((T.w k).r 2), .int .i64 ((T.w k).r 3), .int .i64 (T.w k).steps, .int .i64 (stateOf M T k : Nat)] 50)) := (HBA.out.trans (hb4.mono HBA.out.size)).alloc (by have := HBA.out.size; have := hb4.size; omega) _
      have HL0 : Hid (Lets (fun b => b < w1.heap.size ∨ (wr.heap.size ≤ b ∧ b < (w4.alloc (.cells #[.int .i64 (T.w k).place, .int .i64 ((T.w k).r 0), .int .i64 ((T.w k).r 1), .int .i64 ((T.w k).r 2), .int .i64 ((T.w k).r 3), .int .i64 (T.w k).steps, .int .i64 (stateOf M T k : Nat)] 50)).heap.size)) p q N M w3.heap.size w4.heap.size w.heap.size (.cells #[.slice sa sl sc, .slice ar rl cr, .slice aw wl cw] 29 (0, 0)) (w.alloc (.cells #[.slice sa sl sc, .slice ar rl cr, .slice aw wl cw] 29)) (S.w k) (stateOf N S k) (T.w k) (stateOf M T k) S T (1048576 * 4 ^ k) (1048576 * 4 ^ k) (w4.alloc (.cells #[.int .i64 (T.w k).place, .int .i64 ((T.w k).r 0), .int .i64 ((T.w k).r 1), .int .i64 ((T.w k).r 2), .int .i64 ((T.w k).r 3), .int .i64 (T.w k).steps, .int .i64 (stateOf M T k : Nat)] 50))) := by
        have hsz4 := hb4.size
        simp only [World.size_alloc] at hsz4
        refine ⟨HTw.out.add hbB, HG1.out, HG2.out, (((Below.refl w4.heap.size w4).alloc (Nat.le_refl _) _).block _ ul).trans u4, heap_alloc_new _ _, ?_, below_box2 HB.out hbB, Or.inr ⟨hsz3, ?_⟩, Or.inr ⟨by omega, ?_⟩, fun b hb => Or.inl (by omega), by omega, ?_, ?_⟩
        · rw [hbB.block _ (lt_of_blk HT0.out)]; exact HT0.out
        · simp only [World.size_alloc]; omega
        · simp only [World.size_alloc]; omega
        · have := lt_of_blk HT0.out; omega
        · have := lt_of_blk HT0.out; omega
      have hsz4 : w3.heap.size < w4.heap.size := by have := hb4.size; simp only [World.size_alloc] at this; omega
      clear hb4 hbB HBA u4 HCb HTw HB HT0 HG1 HG2 ul
      generalize hP : (fun b => b < w1.heap.size ∨ (wr.heap.size ≤ b ∧ b < (w4.alloc (.cells #[.int .i64 (T.w k).place, .int .i64 ((T.w k).r 0), .int .i64 ((T.w k).r 1), .int .i64 ((T.w k).r 2), .int .i64 ((T.w k).r 3), .int .i64 (T.w k).steps, .int .i64 (stateOf M T k : Nat)] 50)).heap.size)) = P at *
      have HP : Hid (∀ b, b < w1.heap.size → P b) := fun b hb => by rw [← hP]; exact Or.inl hb
      clear hP
      go_upto_block 2 with fail
      go_cut [15] from 40 to 133 (fun v15 wc => v15 = .int .i64 0 ∧ ∃ (S' : Rc) (s1 cS : Nat), cS ≤ 2 * (1048576 * 4 ^ k) ∧ Lets P p q N M w3.heap.size w4.heap.size w.heap.size (.cells #[.slice sa sl sc, .slice ar rl cr, .slice aw wl cw] 29 (0, 0)) (w.alloc (.cells #[.slice sa sl sc, .slice ar rl cr, .slice aw wl cw] 29)) (S'.w k) s1 (T.w k) (stateOf M T k) S' T cS (1048576 * 4 ^ k) wc)
      case first =>
        have hT1 := HGT.out T _ k HL0.out.gT (by have := hp4.out.1; omega) hlt
        have hS1 := HGS.out S _ k HL0.out.gS (by have := hp4.out.1; omega) hlt
        have HX : Hid (((T.w k).steps - (S.w k).steps).toNat ≤ 1048576 * 4 ^ k) := by have h1 := hT1; have h2 := hS1; revert h1 h2; unfold Hid; omega
        clear hT1 hS1
        go_wp2_with fail
        go_loopg [15] (((T.w k).steps - (S.w k).steps).toNat) (fun g v15 wr => v15 = .int .i64 0 ∧ ∃ (S' : Rc) (s1 cS : Nat), g = ((T.w k).steps - (S'.w k).steps).toNat ∧ cS + g ≤ 2 * (1048576 * 4 ^ k) ∧ Lets P p q N M w3.heap.size w4.heap.size w.heap.size (.cells #[.slice sa sl sc, .slice ar rl cr, .slice aw wl cw] 29 (0, 0)) (w.alloc (.cells #[.slice sa sl sc, .slice ar rl cr, .slice aw wl cw] 29)) (S'.w k) s1 (T.w k) (stateOf M T k) S' T cS (1048576 * 4 ^ k) wr)
        case atStart => exact ⟨rfl, S, _, _, rfl, by have := HX.out; omega, HL0.out⟩
        case round =>
          clear HL0 HX
          obtain ⟨rfl, S', s1, cS, hg, hcS, hL⟩ := hrel
          have za := (blk_cell hL.la 5 _ rfl).1
          have zb := (blk_cell hL.lb 5 _ rfl).1
          have hp := hp4.out
          have HG := hide hg
          by_cases hst : (S'.w k).steps < (T.w k).steps
          · have HC1 := hide (HGo1.out _ _ _ _ _ _ _ _ _ _ _ _ _ _ _ _ _ k hL (by omega) hlt)
            have HCS : Hid (cS + gk ≤ 2 * (1048576 * 4 ^ k) ∧ 1 ≤ gk) := ⟨hcS, by omega⟩
            clear hg hcS hL hp
            go_wp2_with fail
            refine (unhide HC1).mono ?_
            rintro e w5 ⟨st, rfl, hcase⟩
            rcases hcase with ⟨hne, hL⟩ | ⟨rfl, S2, hs2, hL⟩
            · have hne' : ((st : Int) != 1) = true := by simp; omega
              have HL := hide hL
              clear hL hne HC1 za zb
              go_wp2
              go_meet
              exact ⟨rfl, S', s1, cS, by have := HCS.out.1; omega, HL.out⟩
            · have HC2 := hide (HLo1.out _ _ _ _ _ _ _ _ _ _ _ _ _ _ _ _ _ k hL hlt)
              have HS2 := hide hs2
              clear hL HC1 za zb hs2
              go_wp2_with fail
              refine (unhide HC2).mono ?_
              rintro e w6 ⟨st2, a0, a1, a2, a3, a4, a5, rfl, hla, hL⟩
              have HL := hide hL
              obtain ⟨c0, d0⟩ := blk_cell hla 0 _ rfl
              obtain ⟨c1, d1⟩ := blk_cell hla 1 _ rfl
              obtain ⟨c2, d2⟩ := blk_cell hla 2 _ rfl
              obtain ⟨c3, d3⟩ := blk_cell hla 3 _ rfl
              obtain ⟨c4, d4⟩ := blk_cell hla 4 _ rfl
              obtain ⟨c5, d5⟩ := blk_cell hla 5 _ rfl
              obtain ⟨c6, d6⟩ := blk_cell hla 6 _ rfl
              clear hL hla HC2
              go_wp2
              go_roundg (gk - 1)
              case measure => have := HCS.out.2; omega
              case rel => exact ⟨rfl, S2, st2, cS + 1, by have := HG.out; have := HS2.out; omega, by have := HCS.out; omega, HL.out⟩
          · have HL := hide hL
            clear hg hL hp
            go_wp2
            go_meet
            exact ⟨rfl, S', s1, cS, by omega, HL.out⟩
      case rest =>
        clear HL0 HGo1 HLo1
        obtain ⟨rfl, S1, s1, cS, hcS, hL⟩ := hcut
        have HL0 := hide hL
        have HCS := hide hcS
        clear hL hcS
        go_upto_block 4 with fail
        go_cut [17] from 40 to 133 (fun v17 wd => v17 = .int .i64 0 ∧ ∃ (T1 : Rc) (s2 cT : Nat), cT ≤ 3 * (1048576 * 4 ^ k) ∧ Lets P p q N M w3.heap.size w4.heap.size w.heap.size (.cells #[.slice sa sl sc, .slice ar rl cr, .slice aw wl cw] 29 (0, 0)) (w.alloc (.cells #[.slice sa sl sc, .slice ar rl cr, .slice aw wl cw] 29)) (S1.w k) s1 (T1.w k) s2 S1 T1 cS cT wd)
        case first =>
          have hT1 := HGT.out T _ k HL0.out.gT (by have := hp4.out.1; omega) hlt
          have hS1 := HGS.out S1 _ k HL0.out.gS (by have := hp4.out.1; have := HCS.out; omega) hlt
          have HX : Hid (((S1.w k).steps - (T.w k).steps).toNat ≤ 2 * (1048576 * 4 ^ k)) := by have h1 := hT1; have h2 := hS1; have h3 := HCS.out; revert h1 h2 h3; unfold Hid; omega
          clear hT1 hS1
          go_wp2_with fail
          go_loopg [17] (((S1.w k).steps - (T.w k).steps).toNat) (fun g v17 wr => v17 = .int .i64 0 ∧ ∃ (T1 : Rc) (s2 cT : Nat), g = ((S1.w k).steps - (T1.w k).steps).toNat ∧ cT + g ≤ 3 * (1048576 * 4 ^ k) ∧ Lets P p q N M w3.heap.size w4.heap.size w.heap.size (.cells #[.slice sa sl sc, .slice ar rl cr, .slice aw wl cw] 29 (0, 0)) (w.alloc (.cells #[.slice sa sl sc, .slice ar rl cr, .slice aw wl cw] 29)) (S1.w k) s1 (T1.w k) s2 S1 T1 cS cT wr)
          case atStart => exact ⟨rfl, T, _, _, rfl, by have := HX.out; omega, HL0.out⟩
          case round =>
            clear HL0 HX
            obtain ⟨rfl, T1, s2, cT, hg, hcT, hL⟩ := hrel
            have za := (blk_cell hL.la 5 _ rfl).1
            have zb := (blk_cell hL.lb 5 _ rfl).1
            have hp := hp4.out
            have HG := hide hg
            by_cases hst : (T1.w k).steps < (S1.w k).steps
            · have HC1 := hide (HGo2.out _ _ _ _ _ _ _ _ _ _ _ _ _ _ _ _ _ k hL (by omega) hlt)
              have HCT : Hid (cT + gk ≤ 3 * (1048576 * 4 ^ k) ∧ 1 ≤ gk) := ⟨hcT, by omega⟩
              clear hg hcT hL hp
              go_wp2_with fail
              refine (unhide HC1).mono ?_
              rintro e w5 ⟨st, rfl, hcase⟩
              rcases hcase with ⟨hne, hL⟩ | ⟨rfl, T2, hs2, hL⟩
              · have hne' : ((st : Int) != 1) = true := by simp; omega
                have HL := hide hL
                clear hL hne HC1 za zb
                go_wp2
                go_meet
                exact ⟨rfl, T1, s2, cT, by have := HCT.out.1; omega, HL.out⟩
              · have HC2 := hide (HLo2.out _ _ _ _ _ _ _ _ _ _ _ _ _ _ _ _ _ k hL hlt)
                have HS2 := hide hs2
                clear hL HC1 za zb hs2
                go_wp2_with fail
                refine (unhide HC2).mono ?_
                rintro e w6 ⟨st2, a0, a1, a2, a3, a4, a5, rfl, hla, hL⟩
                have HL := hide hL
                obtain ⟨c0, d0⟩ := blk_cell hla 0 _ rfl
                obtain ⟨c1, d1⟩ := blk_cell hla 1 _ rfl
                obtain ⟨c2, d2⟩ := blk_cell hla 2 _ rfl
                obtain ⟨c3, d3⟩ := blk_cell hla 3 _ rfl
                obtain ⟨c4, d4⟩ := blk_cell hla 4 _ rfl
                obtain ⟨c5, d5⟩ := blk_cell hla 5 _ rfl
                obtain ⟨c6, d6⟩ := blk_cell hla 6 _ rfl
                clear hL hla HC2
                go_wp2
                go_roundg (gk - 1)
                case measure => have := HCT.out.2; omega
                case rel => exact ⟨rfl, T2, st2, cT + 1, by have := HG.out; have := HS2.out; omega, by have := HCT.out; omega, HL.out⟩
            · have HL := hide hL
              clear hg hL hp
              go_wp2
              go_meet
              exact ⟨rfl, T1, s2, cT, by omega, HL.out⟩
        case rest =>
          clear HL0 HGo2 HLo2 HGS HGT
          obtain ⟨rfl, T1, s2, cT, hcT, hL⟩ := hcut
          have HR : Hid (Two (fun b => b < w1.heap.size) p q N M S1 T1 wc ∧ Good N S1 (1048576 * 4 ^ (k + 1)) ∧ Good M T1 (1048576 * 4 ^ (k + 1)) ∧ Below (w.heap.size + 1) (w.alloc (.cells #[.slice sa sl sc, .slice ar rl cr, .slice aw wl cw] 29)) wc) := by
            have h1 := hp4.out
            have h2 := HCS.out
            exact ⟨hL.two.mono HP.out, hL.gS.up (by omega), hL.gT.up (by omega), hL.bel⟩
          have hEq := HEq.out S1 T1 cS cT k hL.gS hL.gT (by have := hp4.out.1; have := HCS.out; omega) (by have := hp4.out.1; omega) hlt
          have hla := hL.la
          have hlb := hL.lb
          clear hL HCS hcT HEq hp4 HP
          generalize S1.w k = x at *
          generalize T1.w k = y at *
          by_cases hst : x.steps = y.steps
          · obtain rfl := hEq hst
            have e0 := (blk_cell hla 0 _ rfl).1
            have e1 := (blk_cell hla 1 _ rfl).1
            have e2 := (blk_cell hla 2 _ rfl).1
            have e3 := (blk_cell hla 3 _ rfl).1
            have e4 := (blk_cell hla 4 _ rfl).1
            have e5 := (blk_cell hla 5 _ rfl).1
            have i0 := (blk_cell hlb 0 _ rfl).1
            have i1 := (blk_cell hlb 1 _ rfl).1
            have i2 := (blk_cell hlb 2 _ rfl).1
            have i3 := (blk_cell hlb 3 _ rfl).1
            have i4 := (blk_cell hlb 4 _ rfl).1
            have i5 := (blk_cell hlb 5 _ rfl).1
            clear hla hlb hEq hst
            generalize x.place = a0 at *
            generalize x.steps = a5 at *
            generalize x.r 0 = a1 at *
            generalize x.r 1 = a2 at *
            generalize x.r 2 = a3 at *
            generalize x.r 3 = a4 at *
            have hlk : ∀ wx : World, (Op.equalIn 10000 48 (.agg #[.int .i64 a1, .int .i64 a2, .int .i64 a3, .int .i64 a4]) (.agg #[.int .i64 a1, .int .i64 a2, .int .i64 a3, .int .i64 a4])).run Tryd.prog wx = .ok true wx := fun wx => by
              have := eqRegs 9998 a1 a2 a3 a4 a1 a2 a3 a4 wx
              simpa using this
            have q5 : (a5 == a5) = true := by simp
            have q0 : (a0 != a0) = false := by simp
            go_wp2
            go_roundw
            case rel => exact ⟨k + 1, S1, T1, by omega, by go_num, HR.out.1, HR.out.2.1, HR.out.2.2.1, HR.out.2.2.2⟩
            case measure => simp [intOf]; omega
          · have e5 := (blk_cell hla 5 _ rfl).1
            have i5 := (blk_cell hlb 5 _ rfl).1
            have q5 : (x.steps == y.steps) = false := by simpa using hst
            clear hla hlb hEq hst
            go_wp2
            go_roundw
            case rel => exact ⟨k + 1, S1, T1, by omega, by go_num, HR.out.1, HR.out.2.1, HR.out.2.2.1, HR.out.2.2.2⟩
            case measure => simp [intOf]; omega
    · have HBB := hide (below_box hbl)
      clear hbl htw hgS hgT t0
      go_wp2
      go_ret
      exact ⟨rfl, HBB.out⟩

set_option maxRecDepth 100000 in
set_option maxHeartbeats 2000000 in
theorem local_out {N : Net} {v vr v1 v2 : Value} {w : World} (hn : NetAt w v N) (hok : validB N = false) :
    Calls Tryd.prog 5 #[v, vr, v1, v2] w fun e w' => e = .returned (.bool true) ∧ Below w.heap.size w w' := by
  have HS : Hid (∀ wx, Calls Tryd.prog 8 #[] wx fun e w' => e = .returned (.bool true) ∧ Below wx.heap.size wx w') := sure_calls
  have HBo : Hid (∀ wx, Below w.heap.size w wx → Calls Tryd.prog 14 #[v, vr, v1, v2] wx fun e w' => e = .returned (.tuple #[.pointer none, .pointer none, .bool true]) ∧ Below wx.heap.size wx w') := fun wx hx => both_out (hn.below hx) hok
  have hb0 : ∀ o, Below (w.heap.size + 1) (w.alloc o) (w.alloc o) := fun o => Below.refl _ _
  obtain ⟨vs0, vr0, vw0, rfl, g1, g2, g3⟩ := hn
  obtain ⟨sa, sc, rfl⟩ := g1.form
  obtain ⟨ar, cr, rfl⟩ := g2.form
  obtain ⟨aw, cw, rfl⟩ := g3.form
  have HB0 := hide (hb0 (.cells #[.slice sa N.streams.length sc, .slice ar N.sources.length cr, .slice aw N.workers.length cw] 29))
  clear g1 g2 g3 hb0
  generalize N.workers.length = wl at *
  generalize N.streams.length = sl at *
  generalize N.sources.length = rl at *
  go_enter Tryd.func5, Tryd.ntmps5
  go_wp2_with fail
  refine (unhide HS _).mono ?_
  rintro e w1 ⟨rfl, hb1⟩
  have HB1 := hide (below_box2 HB0.out hb1)
  have t1 : w1.heap[w.heap.size]? = some (.cells #[.slice sa sl sc, .slice ar rl cr, .slice aw wl cw] 29 (0, 0)) := by
    rw [HB1.out.block _ (by omega)]; exact heap_alloc_new _ _
  have z0 := (blk_cell t1 0 _ rfl).1
  have z1 := (blk_cell t1 1 _ rfl).1
  have z2 := (blk_cell t1 2 _ rfl).1
  clear hb1 t1 HB0 HS
  go_wp2_with fail
  refine (unhide HBo _ (below_box HB1.out)).mono ?_
  rintro e w2 ⟨rfl, hb2⟩
  have HB2 := hide (below_box (below_box2 HB1.out hb2))
  clear hb2 HBo HB1 z0 z1 z2
  go_wp2
  go_ret
  exact ⟨rfl, HB2.out⟩

theorem local_calls {N : Net} {v vr v1 v2 : Value} {rooms one two : List Int} {w : World} (hn : NetAt w v N) (hr : IntsAt w vr rooms) (h1 : IntsAt w v1 one) (h2 : IntsAt w v2 two) (hf : NetFits N)
    (fr : ∀ x ∈ rooms, InR x) (f1 : ∀ x ∈ one, InR x) (f2 : ∀ x ∈ two, InR x) (l1 : one.length ≤ 1048576) (l2 : two.length ≤ 1048576) :
    Calls Tryd.prog 5 #[v, vr, v1, v2] w fun e w' => e = .returned (.bool true) ∧ Below w.heap.size w w' := by
  cases hok : validB N
  · exact local_out hn hok
  · exact local_net hn hr h1 h2 hf fr f1 f2 l1 l2 hok

end Go.Proofs.YthfdgdfnflilfaaDoor

/- Part 13: KeepP, KeepS, Open1, Open2. -/
import Derived.ProofKit
import Derived.OpenShut
import Derived.JoinedCond
import Derived.ReadAgain
import Derived.Deep.Slices
import Derived.Deep.DeepHandedRow
import Derived.Deep.DeepWitnessRowRef
import Derived.Lay
import Derived.Handy
import Derived.Test.YthfdgdfnflilfaaDoorRows
import Derived.Test.YthfdgdfnflilfaaDoorCards
import Derived.Test.YthfdgdfnflilfaaDoorTie
import Derived.Test.YthfdgdfnflilfaaDoorPart12
/- millracekeep: Prefix. -/
namespace Go.Proofs.YthfdgdfnflilfaaDoor
open Go.RowKit Go.Conc

set_option maxRecDepth 100000 in
set_option maxHeartbeats 2000000 in
theorem both_out {N : Net} {v vr v1 v2 : Value} {w : World} (hn : NetAt w v N) (hok : validB N = false) :
    Calls Tryd.prog 14 #[v, vr, v1, v2] w fun e w' => e = .returned (.tuple #[.pointer none, .pointer none, .bool true]) ∧ Below w.heap.size w w' := by
  have HN : Hid (∀ wx, Below w.heap.size w wx → Calls Tryd.prog 10 #[v] wx fun e w' => e = .returned (.tuple #[.pointer none, .int .i64 1]) ∧ Below wx.heap.size wx w') := fun wx hx => new_out (hn.below hx) hok
  obtain ⟨vs0, vr0, vw0, rfl, g1, g2, g3⟩ := hn
  obtain ⟨sa, sc, rfl⟩ := g1.form
  obtain ⟨ar, cr, rfl⟩ := g2.form
  obtain ⟨aw, cw, rfl⟩ := g3.form
  have hb0 : Below w.heap.size w (w.alloc (.cells #[.slice sa N.streams.length sc, .slice ar N.sources.length cr, .slice aw N.workers.length cw] 29)) := (Below.refl _ _).alloc (Nat.le_refl _) _
  have HB0 := hide hb0
  clear g1 g2 g3 hb0
  generalize N.workers.length = wl at *
  generalize N.streams.length = sl at *
  generalize N.sources.length = rl at *
  go_enter Tryd.func14, Tryd.ntmps14
  go_wp2_with fail
  refine (unhide HN _ HB0.out).mono ?_
  rintro e w1 ⟨rfl, hb1⟩
  have HB1 := hide (HB0.out.trans (hb1.mono HB0.out.size))
  clear hb1 HN HB0
  go_wp2
  go_ret3
  exact ⟨rfl, HB1.out⟩

theorem initR_roomy (N : Net) (rooms r : List Int) : initR (roomyN N rooms) r = initR N r := by
  have hl := roomsOf_length N.streams rooms
  simp only [initR, roomyN]
  rw [hl]
  rfl

theorem grun_roomy (N : Net) (rooms r : List Int) : ∀ es, grun (roomyN N rooms) r es = grun N r es
  | [] => by simp only [grun]; rw [initR_roomy]
  | e :: es => by
    simp only [grun]
    rw [grun_roomy N rooms r es]
    rfl

theorem good_cmp {N : Net} {rooms : List Int} {S T : Rc} {c d : Nat} (hok : validB N = true) (hS : Good N S c) (hT : Good (roomyN N rooms) T d) (s : Nat) (hs : s < N.streams.length) : Cmp (histOf (srcd N s) (S.s s)) (histOf (srcd N s) (T.s s)) := by
  obtain ⟨e1, h1⟩ := hS.run
  obtain ⟨e2, h2⟩ := hT.run
  rw [grun_roomy] at h2
  have := hist_cmp (valid_ok hok) N.streams (roomyN N rooms).streams e1 e2 s hs
  rw [h1, h2] at this
  exact this

theorem Two.has1 {P : Nat → Prop} {p q : Nat} {N M : Net} {S T : Rc} {w : World} (h : Two P p q N M S T w) : Has P p N S w := by
  obtain ⟨A, ha, hP, -⟩ := h.left
  exact ha.mono hP
theorem Two.has2 {P : Nat → Prop} {p q : Nat} {N M : Net} {S T : Rc} {w : World} (h : Two P p q N M S T w) : Has P q M T w := h.swap.has1

set_option maxRecDepth 100000 in
set_option maxHeartbeats 4000000 in
theorem prefix_calls {N : Net} {v vr v1 v2 : Value} {rooms one two : List Int} {w : World} (hn : NetAt w v N) (hr : IntsAt w vr rooms) (h1 : IntsAt w v1 one) (h2 : IntsAt w v2 two) (hf : NetFits N)
    (fr : ∀ x ∈ rooms, InR x) (f1 : ∀ x ∈ one, InR x) (f2 : ∀ x ∈ two, InR x) (l1 : one.length ≤ 1048576) (l2 : two.length ≤ 1048576) :
    Calls Tryd.prog 4 #[v, vr, v1, v2] w fun e w' => e = .returned (.bool true) ∧ Below w.heap.size w w' := by
  have HS : Hid (∀ wx, Calls Tryd.prog 8 #[] wx fun e w' => e = .returned (.bool true) ∧ Below wx.heap.size wx w') := sure_calls
  have hNt : ∀ wx, Below w.heap.size w wx → NetAt wx v N := fun wx hx => hn.below hx
  have hb0 : ∀ o, Below (w.heap.size + 1) (w.alloc o) (w.alloc o) := fun o => Below.refl _ _
  cases hok : validB N
  · have HBo : Hid (∀ wx, Below w.heap.size w wx → Calls Tryd.prog 14 #[v, vr, v1, v2] wx fun e w' => e = .returned (.tuple #[.pointer none, .pointer none, .bool true]) ∧ Below wx.heap.size wx w') := fun wx hx => both_out (hNt wx hx) hok
    obtain ⟨vs0, vr0, vw0, rfl, g1, g2, g3⟩ := hn
    obtain ⟨sa, sc, rfl⟩ := g1.form
    obtain ⟨ar, cr, rfl⟩ := g2.form
    obtain ⟨aw, cw, rfl⟩ := g3.form
    have HB0 := hide (hb0 (.cells #[.slice sa N.streams.length sc, .slice ar N.sources.length cr, .slice aw N.workers.length cw] 29))
    clear g1 g2 g3 hNt hr h1 h2 hb0 fr f1 f2
    generalize N.workers.length = wl at *
    generalize N.streams.length = sl at *
    generalize N.sources.length = rl at *
    go_enter Tryd.func4, Tryd.ntmps4
    go_wp2_with fail
    refine (unhide HS _).mono ?_
    rintro e w1 ⟨rfl, hb1⟩
    have HB1 := hide (below_box2 HB0.out hb1)
    have t1 : w1.heap[w.heap.size]? = some (.cells #[.slice sa sl sc, .slice ar rl cr, .slice aw wl cw] 29 (0, 0)) := by
      rw [HB1.out.block _ (by omega)]; exact heap_alloc_new _ _
    have z0 := (blk_cell t1 0 _ rfl).1
    have z1 := (blk_cell t1 1 _ rfl).1
    have z2 := (blk_cell t1 2 _ rfl).1
    clear hb1 t1 HB0 HS
    go_wp2_with fail
    refine (unhide HBo _ (below_box HB1.out)).mono ?_
    rintro e w2 ⟨rfl, hb2⟩
    have HB2 := hide (below_box (below_box2 HB1.out hb2))
    clear hb2 HBo HB1 z0 z1 z2
    go_wp2
    go_ret
    exact ⟨rfl, HB2.out⟩
  · have hcount := (valid_counts hok).2.1
    have HBo : Hid (∀ wx, Below w.heap.size w wx → Calls Tryd.prog 14 #[v, vr, v1, v2] wx fun e w' => ∃ p q S T, e = .returned (.tuple #[.pointer (some ⟨p, 0, none⟩), .pointer (some ⟨q, 0, none⟩), .bool true]) ∧ Two (fun b => b < wx.heap.size) p q N (roomyN N rooms) S T w' ∧ Good N S one.length ∧ Good (roomyN N rooms) T two.length ∧ Below wx.heap.size wx w') := fun wx hx => both_calls (hNt wx hx) (hr.below hx) (h1.below hx) (h2.below hx) hok hf fr f1 f2 l1 l2
    have HH : Hid (∀ (P : Nat → Prop) p q S T, Good N S one.length → Good (roomyN N rooms) T two.length → ∀ s, s < N.streams.length → ∃ n1 n2 : Nat, ∀ wx, Two P p q N (roomyN N rooms) S T wx → Calls Tryd.prog 13 #[.pointer (some ⟨p, 0, none⟩), .int .i64 s] wx fun e w' => ∃ a c, e = .returned (.tuple #[.slice a n1 c, .int .i64 0]) ∧ Below wx.heap.size wx w' ∧
        ∀ wy, Below w'.heap.size w' wy → Calls Tryd.prog 13 #[.pointer (some ⟨q, 0, none⟩), .int .i64 s] wy fun e w'' => ∃ a2 c2, e = .returned (.tuple #[.slice a2 n2 c2, .int .i64 0]) ∧ Below wy.heap.size wy w'' ∧
        ∀ wz, Below w''.heap.size w'' wz → Calls Tryd.prog 15 #[.slice a n1 c, .slice a2 n2 c2] wz fun e w3 => e = .returned (.bool true) ∧ Below wz.heap.size wz w3) := fun P p q S T hS hT s hs => by
      have hlM : (roomyN N rooms).streams.length = N.streams.length := roomsOf_length _ _
      refine ⟨(histOf (srcd N s) (S.s s)).length, (histOf (srcd N s) (T.s s)).length, fun wx htw => ?_⟩
      refine (has_history htw.has1 s hs).mono fun e w' ⟨a, c, q1, q2, q3⟩ => ⟨a, c, q1, q3, fun wy hy => ?_⟩
      refine (has_history ((htw.below q3).below hy).has2 s (by rw [hlM]; exact hs)).mono fun e w'' ⟨a2, c2, r1, r2, r3⟩ => ⟨a2, c2, r1, r3, fun wz hz => ?_⟩
      have w1l : (S.s s).words.length ≤ 2097152 := by have := hS.words s hs; omega
      have w2l : (T.s s).words.length ≤ 2097152 := by have := hT.words s (by rw [hlM]; exact hs); omega
      have hh : ∀ (b : Bool) (m : Sm), m.words.length ≤ 2097152 → (histOf b m).length ≤ 140737488355328 := fun b m hm => by
        unfold histOf
        split
        · simp; omega
        · omega
      have i1 : IntsAt w' (.slice a (histOf (srcd N s) (S.s s)).length c) (histOf (srcd N s) (S.s s)) := ints_own q2 (hh _ _ w1l)
      have i2 : IntsAt w'' (.slice a2 (histOf (srcd N s) (T.s s)).length c2) (histOf (srcd N s) (T.s s)) := ints_own r2 (hh _ _ w2l)
      exact beginning_calls (((i1.below hy).below r3).below hz) (i2.below hz) (begin_of_cmp (good_cmp hok hS hT s hs))
    obtain ⟨vs0, vr0, vw0, rfl, g1, g2, g3⟩ := hn
    obtain ⟨sa, sc, rfl⟩ := g1.form
    obtain ⟨ar, cr, rfl⟩ := g2.form
    obtain ⟨aw, cw, rfl⟩ := g3.form
    have HB0 := hide (hb0 (.cells #[.slice sa N.streams.length sc, .slice ar N.sources.length cr, .slice aw N.workers.length cw] 29))
    clear g1 g2 g3 hNt hr h1 h2 hb0 fr f1 f2 hf hok
    generalize roomyN N rooms = M at *
    generalize N.workers.length = wl at *
    generalize N.streams.length = sl at *
    generalize N.sources.length = rl at *
    generalize one.length = ol at *
    generalize two.length = tl at *
    go_enter Tryd.func4, Tryd.ntmps4
    go_wp2_with fail
    refine (unhide HS _).mono ?_
    rintro e w1 ⟨rfl, hb1⟩
    have HB1 := hide (below_box2 HB0.out hb1)
    have t1 : w1.heap[w.heap.size]? = some (.cells #[.slice sa sl sc, .slice ar rl cr, .slice aw wl cw] 29 (0, 0)) := by
      rw [HB1.out.block _ (by omega)]; exact heap_alloc_new _ _
    have z0 := (blk_cell t1 0 _ rfl).1
    have z1 := (blk_cell t1 1 _ rfl).1
    have z2 := (blk_cell t1 2 _ rfl).1
    clear hb1 t1 HB0 HS
    go_wp2_with fail
    refine (unhide HBo _ (below_box HB1.out)).mono ?_
    rintro e w2 ⟨p, q, S, T, rfl, htw, hgS, hgT, hb2⟩
    have HB2 := hide (below_box2 HB1.out hb2)
    have HTw := hide htw
    have HH1 := hide (HH.out (fun b => b < w1.heap.size) p q S T hgS hgT)
    clear htw hgS hgT hb2 HBo HB1 z0 z1 z2 HH
    go_wp2
    go_loopw [13] (fun i wr => ∃ k : Nat, k ≤ sl ∧ i = .int .i64 k ∧ Two (fun b => b < w1.heap.size) p q N M S T wr ∧ Below (w.heap.size + 1) (w.alloc (.cells #[.slice sa sl sc, .slice ar rl cr, .slice aw wl cw] 29)) wr) (fun i _ => sl - (intOf i).toNat)
    case atStart => exact ⟨0, Nat.zero_le _, rfl, HTw.out, HB2.out⟩
    case round =>
      clear HTw HB2
      obtain ⟨k, hk, rfl, htw, hbl⟩ := hrel
      have t0 : wr.heap[w.heap.size]? = some (.cells #[.slice sa sl sc, .slice ar rl cr, .slice aw wl cw] 29 (0, 0)) := by
        rw [hbl.block _ (by omega)]; exact heap_alloc_new _ _
      have z0 := (blk_cell t0 0 _ rfl).1
      have HB := hide hbl
      have HTw := hide htw
      clear t0
      by_cases hlt : k < sl
      · obtain ⟨n1, n2, hc⟩ := HH1.out k hlt
        have HC1 := hide (hc wr htw)
        clear hc hbl htw HH1
        go_wp2_with fail
        refine (unhide HC1).mono ?_
        rintro e w3 ⟨a, c, rfl, hb3, hc3⟩
        have HC3 := hide (hc3 w3 (Below.refl _ _))
        have HB3 := hide hb3
        clear hc3 hb3 HC1
        go_wp2_with fail
        refine (unhide HC3).mono ?_
        rintro e w4 ⟨a2, c2, rfl, hb4, hc4⟩
        have HC4 := hide (hc4 w4 (Below.refl _ _))
        have HB4 := hide hb4
        clear hc4 hb4 HC3
        go_wp2_with fail
        refine (unhide HC4).mono ?_
        rintro e w5 ⟨rfl, hb5⟩
        have HB5 := hide hb5
        have HT5 : Hid (Two (fun b => b < w1.heap.size) p q N M S T w5) := ((HTw.out.below HB3.out).below HB4.out).below hb5
        have HBB : Hid (Below (w.heap.size + 1) (w.alloc (.cells #[.slice sa sl sc, .slice ar rl cr, .slice aw wl cw] 29)) w5) := below_box2 (below_box2 (below_box2 HB.out HB3.out) HB4.out) hb5
        clear hb5 HC4 HB5 HB4 HB3 HTw HB
        go_wp2
        go_roundw
        case rel => exact ⟨k + 1, by omega, by go_num, HT5.out, HBB.out⟩
        case measure => simp [intOf]; omega
      · have HBB := hide (below_box hbl)
        clear hbl htw HH1 HTw HB
        go_wp2
        go_ret
        exact ⟨rfl, HBB.out⟩

end Go.Proofs.YthfdgdfnflilfaaDoor
/- millracekeep: Settled. -/
namespace Go.Proofs.YthfdgdfnflilfaaDoor
open Go.RowKit Go.Conc

theorem Good.grow0 {N : Net} {R : Rc} {c t : Nat} (h : Good N R c) (hv : validB N = true) {a b : Int} (hg : Grows N R a b (some t)) : Good N (growS R t) c := by
  have h1 := h.grow hv hg
  exact ⟨h1.run, h1.room, h1.grew, fun s hs => by rw [growS_words]; exact h.words s hs, h1.fitsW, h1.fitsS⟩

theorem Good.more {N : Net} {R : Rc} {c d : Nat} (h : Good N R c) (hd : c ≤ d) : Good N R d := ⟨h.run, h.room, h.grew, fun s hs => by have := h.words s hs; omega, h.fitsW, h.fitsS⟩

theorem good_star {N : Net} (hv : validB N = true) (hf : NetFits N) {m c : Nat} {x y : Nat × Rc} (h : Star (FStep N m) x y) : Good N x.2 (c + x.1) → x.1 ≤ y.1 ∧ Good N y.2 (c + y.1) := by
  induction h with
  | refl => exact fun g => ⟨Nat.le_refl _, g⟩
  | head h1 _ ih =>
    intro g
    cases h1 with
    | @step d S k k1 k2 =>
      have hm := List.mem_of_find?_eq_some k2
      have hs := List.find?_some k2
      have hk : k < N.workers.length := List.mem_range.1 hm
      obtain ⟨q1, q2⟩ := ih (g.step hv hf hk (by simpa using hs))
      exact ⟨by dsimp only at q1 ⊢; omega, q2⟩
    | grow k1 k2 k3 =>
      exact ih (g.grow0 hv k3)

theorem good_flow {N : Net} (hv : validB N = true) (hf : NetFits N) {R S : Rc} {m c d : Nat} (h : FlowTo N m R d S) (hd : d ≤ m) (g : Good N R c) : Good N S (c + m) :=
  ((good_star (c := c) hv hf h g).2).more (by omega)

theorem flowEnd_le {N : Net} {R S : Rc} {m d : Nat} {b : Int} (h : FlowEnd N R m d b S) : d ≤ m ∧ (b = 0 ∨ b = 3 ∨ b = 4) := by
  rcases h.2 with ⟨h1, h2⟩ | ⟨h1, -, a, h3⟩
  · exact ⟨by omega, Or.inl h2⟩
  · exact ⟨by omega, Or.inr (grows_err h3)⟩

theorem stuck_of_flow {N : Net} {R S : Rc} {m d : Nat} (hv : validB N = true) (h : FlowEnd N R m d 3 S) : Stuck N S := by
  rcases h.2 with ⟨-, h2⟩ | ⟨-, h2, a, h3⟩
  · cases h2
  · intro k hk
    have h1 : stateOf N S k ≠ 1 := fun e => by
      have := List.find?_eq_none.1 h2 k (List.mem_range.2 hk)
      simp [e] at this
    have h3' : ∀ s, s < N.streams.length → needsB N S s N.workers.length = false := by
      cases h3 with
      | goes hg => rw [goes_of_first h2] at hg; cases hg
      | none hh => exact hh
    cases hi : insAt N k (S.w k) with
    | none => exact Or.inr (by simp [stateOf, hi])
    | some i =>
      by_cases e3 : stateOf N S k = 3
      · exfalso
        have hm : i ∈ codeOf N k := List.mem_of_getElem? hi
        have ho : i.op = 2 := by
          simp only [stateOf, hi] at e3
          split at e3
          · cases e3
          · split at e3
            · rename_i hh; exact hh.1
            · cases e3
        have hb := ((valid_ok hv).ins k hk i hm).2.2 (Or.inr ho)
        have hn := h3' i.b.toNat (by omega)
        have hw : needsB N S (i.b.toNat : Nat) N.workers.length = true := by
          refine range_any_of hk ?_
          simp only [wantsB, hi, e3]
          simp; omega
        rw [hw] at hn; cases hn
      · simp only [stateOf, hi] at h1 e3 ⊢
        split
        · exact Or.inl rfl
        · split
          · rename_i x y; rw [if_neg x, if_pos y] at e3; exact absurd rfl e3
          · rename_i x y; rw [if_neg x, if_neg y] at h1; exact absurd rfl h1

theorem good_settled {N : Net} {rooms : List Int} {S T : Rc} {c d : Nat} (hok : validB N = true) (hS : Good N S c) (hT : Good (roomyN N rooms) T d) (s1 : Stuck N S) (s2 : Stuck (roomyN N rooms) T) :
    (∀ k, k < N.workers.length → S.w k = T.w k) ∧ ∀ s, s < N.streams.length → histOf (srcd N s) (S.s s) = histOf (srcd N s) (T.s s) := by
  obtain ⟨e1, h1⟩ := hS.run
  obtain ⟨e2, h2⟩ := hT.run
  rw [grun_roomy] at h2
  have := settled_eq (valid_ok hok) N.streams (roomyN N rooms).streams e1 e2 (by rw [h1]; exact s1) (by rw [h2]; exact s2)
  rw [h1, h2] at this
  exact this

/-- Flow of the first of two races. -/
theorem two_flow {P : Nat → Prop} {p q : Nat} {N M : Net} {S T : Rc} {w : World} {c : Nat} (h : Two P p q N M S T w) (hg : Good N S c) (hf : NetFits N) (hc : c ≤ 100000000) :
    Calls Tryd.prog 12 #[.pointer (some ⟨p, 0, none⟩), .int .i64 3000] w fun e w' => ∃ (d : Nat) (b : Int) (S' : Rc), e = .returned (.tuple #[.int .i64 (d : Nat), .int .i64 b]) ∧ (b = 0 ∨ b = 3 ∨ b = 4) ∧ (b = 3 → Stuck N S') ∧ Good N S' (c + 3000) ∧ Two P p q N M S' T w' ∧ Keeps P w w' := by
  obtain ⟨A, ha, hPA, hnext⟩ := h.left
  have hv := (has_len ha).2.2
  refine (has_flow ha hg.room (fun s hs => by have := hg.words s hs; omega) 3000 (by decide)).mono fun e w' ⟨d, b, S', q1, q2, q3, q4⟩ => ?_
  obtain ⟨hd, hb⟩ := flowEnd_le q1
  refine ⟨d, b, S', q2, hb, fun e3 => by subst e3; exact stuck_of_flow hv q1, good_flow hv hf q1.1 hd hg, hnext _ _ _ q3 q4, Fr.mono q4 fun b _ hb' hp => hb' (hPA b hp)⟩

set_option maxRecDepth 100000 in
set_option maxHeartbeats 8000000 in
theorem settled_net {N : Net} {v vr v1 v2 : Value} {rooms one two : List Int} {w : World} (hn : NetAt w v N) (hr : IntsAt w vr rooms) (h1 : IntsAt w v1 one) (h2 : IntsAt w v2 two) (hf : NetFits N)
    (fr : ∀ x ∈ rooms, InR x) (f1 : ∀ x ∈ one, InR x) (f2 : ∀ x ∈ two, InR x) (l1 : one.length ≤ 1048576) (l2 : two.length ≤ 1048576) (hok : validB N = true) :
    Calls Tryd.prog 6 #[v, vr, v1, v2] w fun e w' => e = .returned (.bool true) ∧ Below w.heap.size w w' := by
  have HS : Hid (∀ wx, Calls Tryd.prog 8 #[] wx fun e w' => e = .returned (.bool true) ∧ Below wx.heap.size wx w') := sure_calls
  have hNt : ∀ wx, Below w.heap.size w wx → NetAt wx v N := fun wx hx => hn.below hx
  have hb0 : ∀ o, Below (w.heap.size + 1) (w.alloc o) (w.alloc o) := fun o => Below.refl _ _
  have hlM : (roomyN N rooms).streams.length = N.streams.length := roomsOf_length _ _
  have hcount := valid_counts hok
  have HBo : Hid (∀ wx, Below w.heap.size w wx → Calls Tryd.prog 14 #[v, vr, v1, v2] wx fun e w' => ∃ p q S T, e = .returned (.tuple #[.pointer (some ⟨p, 0, none⟩), .pointer (some ⟨q, 0, none⟩), .bool true]) ∧ Two (fun b => b < wx.heap.size) p q N (roomyN N rooms) S T w' ∧ Good N S one.length ∧ Good (roomyN N rooms) T two.length ∧ Below wx.heap.size wx w') := fun wx hx => both_calls (hNt wx hx) (hr.below hx) (h1.below hx) (h2.below hx) hok hf fr f1 f2 l1 l2
  have HF1 : Hid (∀ (P : Nat → Prop) p q S T wx, Two P p q N (roomyN N rooms) S T wx → Good N S one.length → Calls Tryd.prog 12 #[.pointer (some ⟨p, 0, none⟩), .int .i64 3000] wx fun e w' => ∃ (d : Nat) (b : Int) (S' : Rc), e = .returned (.tuple #[.int .i64 (d : Nat), .int .i64 b]) ∧ (b = 0 ∨ b = 3 ∨ b = 4) ∧ (b = 3 → Stuck N S') ∧ Good N S' (one.length + 3000) ∧ Two P p q N (roomyN N rooms) S' T w' ∧ Keeps P wx w') := fun P p q S T wx htw hg => two_flow htw hg hf (by omega)
  have HF2 : Hid (∀ (P : Nat → Prop) p q S T wx, Two P p q N (roomyN N rooms) S T wx → Good (roomyN N rooms) T two.length → Calls Tryd.prog 12 #[.pointer (some ⟨q, 0, none⟩), .int .i64 3000] wx fun e w' => ∃ (d : Nat) (b : Int) (T' : Rc), e = .returned (.tuple #[.int .i64 (d : Nat), .int .i64 b]) ∧ (b = 0 ∨ b = 3 ∨ b = 4) ∧ (b = 3 → Stuck (roomyN N rooms) T') ∧ Good (roomyN N rooms) T' (two.length + 3000) ∧ Two P p q N (roomyN N rooms) S T' w' ∧ Keeps P wx w') := fun P p q S T wx htw hg =>
    (two_flow htw.swap hg (roomy_fits hf rooms) (by omega)).mono fun e w' ⟨d, b, T', q1, q2, q3, q4, q5, q6⟩ => ⟨d, b, T', q1, q2, q3, q4, q5.swap, q6⟩
  have HSt : Hid (∀ (P : Nat → Prop) p q S T, Good N S (one.length + 3000) → Good (roomyN N rooms) T (two.length + 3000) → Stuck N S → Stuck (roomyN N rooms) T →
      (∀ s, s < N.streams.length → ∃ n1 : Nat, ∀ wx, Two P p q N (roomyN N rooms) S T wx → Calls Tryd.prog 13 #[.pointer (some ⟨p, 0, none⟩), .int .i64 s] wx fun e w' => ∃ a c, e = .returned (.tuple #[.slice a n1 c, .int .i64 0]) ∧ Below wx.heap.size wx w' ∧
        ∀ wy, Below w'.heap.size w' wy → Calls Tryd.prog 13 #[.pointer (some ⟨q, 0, none⟩), .int .i64 s] wy fun e w'' => ∃ a2 c2, e = .returned (.tuple #[.slice a2 n1 c2, .int .i64 0]) ∧ Below wy.heap.size wy w'' ∧
        ∀ wz, Below w''.heap.size w'' wz → Calls Tryd.prog 15 #[.slice a n1 c, .slice a2 n1 c2] wz fun e w3 => e = .returned (.bool true) ∧ Below wz.heap.size wz w3) ∧
      (∀ k, k < N.workers.length → ∃ (a0 a1 a2 a3 a4 a5 : Int) (st1 st2 : Nat), (st1 = 2 ∨ st1 = 4) ∧ (st2 = 2 ∨ st2 = 4) ∧ ∀ wx, Two P p q N (roomyN N rooms) S T wx →
        (Calls Tryd.prog 16 #[.pointer (some ⟨p, 0, none⟩), .int .i64 k] wx fun e w' => e = .returned (.tuple #[.agg #[.int .i64 a0, .int .i64 a1, .int .i64 a2, .int .i64 a3, .int .i64 a4, .int .i64 a5, .int .i64 (st1 : Nat)], .int .i64 0]) ∧ Below wx.heap.size wx w') ∧
        (Calls Tryd.prog 16 #[.pointer (some ⟨q, 0, none⟩), .int .i64 k] wx fun e w' => e = .returned (.tuple #[.agg #[.int .i64 a0, .int .i64 a1, .int .i64 a2, .int .i64 a3, .int .i64 a4, .int .i64 a5, .int .i64 (st2 : Nat)], .int .i64 0]) ∧ Below wx.heap.size wx w'))) := fun P p q S T hS hT s1 s2 => by
    obtain ⟨hww, hhh⟩ := good_settled hok hS hT s1 s2
    refine ⟨fun s hs => ⟨(histOf (srcd N s) (S.s s)).length, fun wx htw => ?_⟩, fun k hk => ?_⟩
    · refine (has_history htw.has1 s hs).mono fun e w' ⟨a, c, q1, q2, q3⟩ => ⟨a, c, q1, q3, fun wy hy => ?_⟩
      have hh := has_history ((htw.below q3).below hy).has2 s (by rw [hlM]; exact hs)
      have e1 : histOf (srcd (roomyN N rooms) s) (T.s s) = histOf (srcd N s) (S.s s) := (hhh s hs).symm
      rw [e1] at hh
      refine hh.mono fun e w'' ⟨a2, c2, r1, r2, r3⟩ => ⟨a2, c2, r1, r3, fun wz hz => ?_⟩
      have w1l : (S.s s).words.length ≤ 2097152 := by have := hS.words s hs; omega
      have hl : (histOf (srcd N s) (S.s s)).length ≤ 140737488355328 := by
        unfold histOf
        split
        · simp; omega
        · omega
      have i1 := ints_own q2 hl
      have i2 := ints_own r2 hl
      exact beginning_calls (((i1.below hy).below r3).below hz) (i2.below hz) (begin_of_cmp (Cmp.refl _))
    · refine ⟨(S.w k).place, (S.w k).r 0, (S.w k).r 1, (S.w k).r 2, (S.w k).r 3, (S.w k).steps, stateOf N S k, stateOf (roomyN N rooms) T k, s1 k hk, s2 k hk, fun wx htw => ⟨has_look htw.has1 k hk, ?_⟩⟩
      rw [hww k hk]
      exact has_look htw.has2 k hk
  obtain ⟨vs0, vr0, vw0, rfl, g1, g2, g3⟩ := hn
  obtain ⟨sa, sc, rfl⟩ := g1.form
  obtain ⟨ar, cr, rfl⟩ := g2.form
  obtain ⟨aw, cw, rfl⟩ := g3.form
  have HB0 := hide (hb0 (.cells #[.slice sa N.streams.length sc, .slice ar N.sources.length cr, .slice aw N.workers.length cw] 29))
  obtain ⟨-, hs8, -, hw6⟩ := hcount
  clear g1 g2 g3 hNt hr h1 h2 hb0 fr f1 f2 hf hok hlM
  generalize roomyN N rooms = M at *
  generalize N.workers.length = wl at *
  generalize N.streams.length = sl at *
  generalize N.sources.length = rl at *
  generalize one.length = ol at *
  generalize two.length = tl at *
  go_enter Tryd.func6, Tryd.ntmps6
  go_wp2_with fail
  refine (unhide HS _).mono ?_
  rintro e w1 ⟨rfl, hb1⟩
  have HB1 := hide (below_box2 HB0.out hb1)
  have t1 : w1.heap[w.heap.size]? = some (.cells #[.slice sa sl sc, .slice ar rl cr, .slice aw wl cw] 29 (0, 0)) := by
    rw [HB1.out.block _ (by omega)]; exact heap_alloc_new _ _
  have z0 := (blk_cell t1 0 _ rfl).1
  have z1 := (blk_cell t1 1 _ rfl).1
  have z2 := (blk_cell t1 2 _ rfl).1
  have htl1 := lt_of_blk t1
  clear hb1 t1 HB0 HS
  go_wp2_with fail
  refine (unhide HBo _ (below_box HB1.out)).mono ?_
  rintro e w2 ⟨p, q, S, T, rfl, htw, hgS, hgT, hb2⟩
  have HB2 := hide (below_box2 HB1.out hb2)
  have HGT := hide hgT
  have HFa := hide (HF1.out _ p q S T w2 htw hgS)
  clear htw hgS hgT hb2 HBo HB1 z0 z1 z2 HF1
  go_wp2_with fail
  refine (unhide HFa).mono ?_
  rintro e w3 ⟨d1, b1, S', rfl, hb1, hst1, hgS, htw, hk3⟩
  have HB3 : Hid (Below (w.heap.size + 1) (w.alloc (.cells #[.slice sa sl sc, .slice ar rl cr, .slice aw wl cw] 29)) w3) := HB2.out.trans (hk3.below (by have := HB2.out.size; simpa using this) fun b hb => by omega)
  have HFb := hide (HF2.out _ p q S' T w3 htw HGT.out)
  have HGS := hide hgS
  have HST1 := hide hst1
  clear htw hgS hk3 HFa HF2 HB2 HGT hst1
  go_wp2_with fail
  refine (unhide HFb).mono ?_
  rintro e w4 ⟨d2, b2, T', rfl, hb2, hst2, hgT, htw, hk4⟩
  have HB4 : Hid (Below (w.heap.size + 1) (w.alloc (.cells #[.slice sa sl sc, .slice ar rl cr, .slice aw wl cw] 29)) w4) := HB3.out.trans (hk4.below (by have := HB3.out.size; simpa using this) fun b hb => by omega)
  have HTw := hide htw
  by_cases hboth : b1 = 3 ∧ b2 = 3
  · obtain ⟨rfl, rfl⟩ := hboth
    obtain ⟨hH, hL⟩ := HSt.out (fun b => b < w1.heap.size) p q S' T' HGS.out hgT (HST1.out rfl) (hst2 rfl)
    have HH1 := hide hH
    have HL1 := hide hL
    clear htw hgT hk4 HFb HB3 HST1 HGS hst2 HSt hH hL
    go_wp2
    go_loopw [17] (fun i wr => ∃ k : Nat, k ≤ sl ∧ i = .int .i64 k ∧ Two (fun b => b < w1.heap.size) p q N M S' T' wr ∧ Below (w.heap.size + 1) (w.alloc (.cells #[.slice sa sl sc, .slice ar rl cr, .slice aw wl cw] 29)) wr) (fun i _ => sl - (intOf i).toNat)
    case atStart => exact ⟨0, Nat.zero_le _, rfl, HTw.out, HB4.out⟩
    case round =>
      clear HTw HB4
      obtain ⟨k, hk, rfl, htw, hbl⟩ := hrel
      have t0 : wr.heap[w.heap.size]? = some (.cells #[.slice sa sl sc, .slice ar rl cr, .slice aw wl cw] 29 (0, 0)) := by
        rw [hbl.block _ (by omega)]; exact heap_alloc_new _ _
      have z0 := (blk_cell t0 0 _ rfl).1
      have HB := hide hbl
      have HTw := hide htw
      clear t0
      by_cases hlt : k < sl
      · obtain ⟨n1, hc⟩ := HH1.out k hlt
        have HC1 := hide (hc wr htw)
        clear hc hbl htw HH1 HL1
        go_wp2_with fail
        refine (unhide HC1).mono ?_
        rintro e w3 ⟨a, c, rfl, hb3, hc3⟩
        have HC3 := hide (hc3 w3 (Below.refl _ _))
        have HB3 := hide hb3
        clear hc3 hb3 HC1
        go_wp2_with fail
        refine (unhide HC3).mono ?_
        rintro e w4 ⟨a2, c2, rfl, hb4, hc4⟩
        have HC4 := hide (hc4 w4 (Below.refl _ _))
        have HB4 := hide hb4
        clear hc4 hb4 HC3
        go_wp2_with fail
        refine (unhide HC4).mono ?_
        rintro e w5 ⟨rfl, hb5⟩
        have HT5 : Hid (Two (fun b => b < w1.heap.size) p q N M S' T' w5) := ((HTw.out.below HB3.out).below HB4.out).below hb5
        have HBB : Hid (Below (w.heap.size + 1) (w.alloc (.cells #[.slice sa sl sc, .slice ar rl cr, .slice aw wl cw] 29)) w5) := below_box2 (below_box2 (below_box2 HB.out HB3.out) HB4.out) hb5
        have e1 : ((n1 : Int) != (n1 : Int)) = false := by simp
        clear hb5 HC4 HB4 HB3 HTw HB
        go_wp2
        go_roundw
        case rel => exact ⟨k + 1, by omega, by go_num, HT5.out, HBB.out⟩
        case measure => simp [intOf]; omega
      · clear HH1 hbl htw
        go_wp2
        go_loopw [23] (fun i wq => ∃ j : Nat, j ≤ wl ∧ i = .int .i64 j ∧ Two (fun b => b < w1.heap.size) p q N M S' T' wq ∧ Below (w.heap.size + 1) (w.alloc (.cells #[.slice sa sl sc, .slice ar rl cr, .slice aw wl cw] 29)) wq) (fun i _ => wl - (intOf i).toNat)
        case atStart => exact ⟨0, Nat.zero_le _, rfl, HTw.out, HB.out⟩
        case round =>
          clear HTw HB z0
          obtain ⟨j, hj, rfl, htw, hbl⟩ := hrel
          have t0 : wr.heap[w.heap.size]? = some (.cells #[.slice sa sl sc, .slice ar rl cr, .slice aw wl cw] 29 (0, 0)) := by
            rw [hbl.block _ (by omega)]; exact heap_alloc_new _ _
          have z2 := (blk_cell t0 2 _ rfl).1
          have HB := hide hbl
          have HTw := hide htw
          clear t0
          by_cases hlt2 : j < wl
          · obtain ⟨a0, a1, a2, a3, a4, a5, st1, st2, hs1, hs2, hc⟩ := HL1.out j hlt2
            have HCa := hide (hc wr htw).1
            have HCb : Hid (∀ wx, Below wr.heap.size wr wx → Calls Tryd.prog 16 #[.pointer (some ⟨q, 0, none⟩), .int .i64 j] wx fun e w' => e = .returned (.tuple #[.agg #[.int .i64 a0, .int .i64 a1, .int .i64 a2, .int .i64 a3, .int .i64 a4, .int .i64 a5, .int .i64 (st2 : Nat)], .int .i64 0]) ∧ Below wx.heap.size wx w') := fun wx hx => (hc wx (HTw.out.below hx)).2
            have hlk : ∀ wx : World, (Op.equalIn 10000 48 (.agg #[.int .i64 a1, .int .i64 a2, .int .i64 a3, .int .i64 a4]) (.agg #[.int .i64 a1, .int .i64 a2, .int .i64 a3, .int .i64 a4])).run Tryd.prog wx = .ok true wx := fun wx => by
              have := eqRegs 9998 a1 a2 a3 a4 a1 a2 a3 a4 wx
              simpa using this
            have x1 : (((st1 : Nat) : Int) == 1) = false := by simp; omega
            have x3 : (((st1 : Nat) : Int) == 3) = false := by simp; omega
            have y1 : (((st2 : Nat) : Int) == 1) = false := by simp; omega
            have y3 : (((st2 : Nat) : Int) == 3) = false := by simp; omega
            have q5 : (a5 != a5) = false := by simp
            have q0 : (a0 != a0) = false := by simp
            clear hc hbl htw HL1
            go_wp2_with fail
            refine (unhide HCa).mono ?_
            rintro e w3 ⟨rfl, hb3⟩
            have hbA : Below wr.heap.size wr (w3.alloc (.cells #[.int .i64 a0, .int .i64 a1, .int .i64 a2, .int .i64 a3, .int .i64 a4, .int .i64 a5, .int .i64 (st1 : Nat)] 50)) := hb3.alloc hb3.size _
            have HCc := hide (HCb.out _ hbA)
            have HBA := hide hbA
            clear hb3 hbA HCb HCa z2
            go_wp2_with fail
            refine (unhide HCc).mono ?_
            rintro e w4 ⟨rfl, hb4⟩
            have u4 : w4.heap[w3.heap.size]? = some (.cells #[.int .i64 a0, .int .i64 a1, .int .i64 a2, .int .i64 a3, .int .i64 a4, .int .i64 a5, .int .i64 (st1 : Nat)] 50 (0, 0)) := (hb4.block _ (by simp)).trans (heap_alloc_new _ _)
            have ul := lt_of_blk u4
            have v0 := (blk_cell u4 0 _ rfl).1
            have v1 := (blk_cell u4 1 _ rfl).1
            have v2 := (blk_cell u4 2 _ rfl).1
            have v3 := (blk_cell u4 3 _ rfl).1
            have v4 := (blk_cell u4 4 _ rfl).1
            have v5 := (blk_cell u4 5 _ rfl).1
            have v6 := (blk_cell u4 6 _ rfl).1
            have hbB : Below wr.heap.size wr (w4.alloc (.cells #[.int .i64 a0, .int .i64 a1, .int .i64 a2, .int .i64 a3, .int .i64 a4, .int .i64 a5, .int .i64 (st2 : Nat)] 50)) := (HBA.out.trans (hb4.mono HBA.out.size)).alloc (by have := HBA.out.size; have := hb4.size; omega) _
            have HT5 : Hid (Two (fun b => b < w1.heap.size) p q N M S' T' (w4.alloc (.cells #[.int .i64 a0, .int .i64 a1, .int .i64 a2, .int .i64 a3, .int .i64 a4, .int .i64 a5, .int .i64 (st2 : Nat)] 50))) := HTw.out.below hbB
            have HBB : Hid (Below (w.heap.size + 1) (w.alloc (.cells #[.slice sa sl sc, .slice ar rl cr, .slice aw wl cw] 29)) (w4.alloc (.cells #[.int .i64 a0, .int .i64 a1, .int .i64 a2, .int .i64 a3, .int .i64 a4, .int .i64 a5, .int .i64 (st2 : Nat)] 50))) := below_box2 HB.out hbB
            clear hb4 hbB HBA u4 HCc HTw HB
            go_wp2
            go_roundw
            case rel => exact ⟨j + 1, by omega, by go_num, HT5.out, HBB.out⟩
            case measure => simp [intOf]; omega
          · have HBB := hide (below_box hbl)
            clear hbl htw HL1 HTw HB
            go_wp2
            go_ret
            exact ⟨rfl, HBB.out⟩
  · have HBB := hide (below_box HB4.out)
    clear htw hgT hk4 HFb HB3 HST1 HGS hst2 HSt HTw HB4
    rcases hb1 with rfl | rfl | rfl <;> rcases hb2 with rfl | rfl | rfl
    all_goals first
      | (exfalso; exact hboth ⟨rfl, rfl⟩)
      | (go_wp2; go_ret; exact ⟨rfl, HBB.out⟩)

set_option maxRecDepth 100000 in
set_option maxHeartbeats 2000000 in
theorem settled_out {N : Net} {v vr v1 v2 : Value} {w : World} (hn : NetAt w v N) (hok : validB N = false) :
    Calls Tryd.prog 6 #[v, vr, v1, v2] w fun e w' => e = .returned (.bool true) ∧ Below w.heap.size w w' := by
  have HS : Hid (∀ wx, Calls Tryd.prog 8 #[] wx fun e w' => e = .returned (.bool true) ∧ Below wx.heap.size wx w') := sure_calls
  have HBo : Hid (∀ wx, Below w.heap.size w wx → Calls Tryd.prog 14 #[v, vr, v1, v2] wx fun e w' => e = .returned (.tuple #[.pointer none, .pointer none, .bool true]) ∧ Below wx.heap.size wx w') := fun wx hx => both_out (hn.below hx) hok
  have hb0 : ∀ o, Below (w.heap.size + 1) (w.alloc o) (w.alloc o) := fun o => Below.refl _ _
  obtain ⟨vs0, vr0, vw0, rfl, g1, g2, g3⟩ := hn
  obtain ⟨sa, sc, rfl⟩ := g1.form
  obtain ⟨ar, cr, rfl⟩ := g2.form
  obtain ⟨aw, cw, rfl⟩ := g3.form
  have HB0 := hide (hb0 (.cells #[.slice sa N.streams.length sc, .slice ar N.sources.length cr, .slice aw N.workers.length cw] 29))
  clear g1 g2 g3 hb0
  generalize N.workers.length = wl at *
  generalize N.streams.length = sl at *
  generalize N.sources.length = rl at *
  go_enter Tryd.func6, Tryd.ntmps6
  go_wp2_with fail
  refine (unhide HS _).mono ?_
  rintro e w1 ⟨rfl, hb1⟩
  have HB1 := hide (below_box2 HB0.out hb1)
  have t1 : w1.heap[w.heap.size]? = some (.cells #[.slice sa sl sc, .slice ar rl cr, .slice aw wl cw] 29 (0, 0)) := by
    rw [HB1.out.block _ (by omega)]; exact heap_alloc_new _ _
  have z0 := (blk_cell t1 0 _ rfl).1
  have z1 := (blk_cell t1 1 _ rfl).1
  have z2 := (blk_cell t1 2 _ rfl).1
  clear hb1 t1 HB0 HS
  go_wp2_with fail
  refine (unhide HBo _ (below_box HB1.out)).mono ?_
  rintro e w2 ⟨rfl, hb2⟩
  have HB2 := hide (below_box (below_box2 HB1.out hb2))
  clear hb2 HBo HB1 z0 z1 z2
  go_wp2
  go_ret
  exact ⟨rfl, HB2.out⟩

theorem settled_calls {N : Net} {v vr v1 v2 : Value} {rooms one two : List Int} {w : World} (hn : NetAt w v N) (hr : IntsAt w vr rooms) (h1 : IntsAt w v1 one) (h2 : IntsAt w v2 two) (hf : NetFits N)
    (fr : ∀ x ∈ rooms, InR x) (f1 : ∀ x ∈ one, InR x) (f2 : ∀ x ∈ two, InR x) (l1 : one.length ≤ 1048576) (l2 : two.length ≤ 1048576) :
    Calls Tryd.prog 6 #[v, vr, v1, v2] w fun e w' => e = .returned (.bool true) ∧ Below w.heap.size w w' := by
  cases hok : validB N
  · exact settled_out hn hok
  · exact settled_net hn hr h1 h2 hf fr f1 f2 l1 l2 hok

end Go.Proofs.YthfdgdfnflilfaaDoor
/- What comes in, read as nets and lists of numbers. -/
namespace Go.Proofs.YthfdgdfnflilfaaDoor
open Go.ChangeShapes Go.WideShapes Go.ChangeAt Go.RowKit Go.Deep

/-- A number of 64 bits. -/
def Fits (c : Int) : Prop := -9223372036854775808 ≤ c ∧ c ≤ 9223372036854775807

namespace bulks
theorem one_le {H : Type} (d : DataW H) : 1 ≤ Rows.uptoBulk d := by
  cases d with
  | lit l => cases l <;> simp [Rows.uptoBulk]
  | nil => simp [Rows.uptoBulk]
  | ptr d => simp [Rows.uptoBulk]
  | slice elems spare => simp [Rows.uptoBulk]
  | agg parts => simp [Rows.uptoBulk]
  | iface t d => simp [Rows.uptoBulk]
  | map entries => simp [Rows.uptoBulk]
  | held h => simp [Rows.uptoBulk]
theorem part_le {H : Type} {d : DataW H} {l : List (DataW H)} (h : d ∈ l) : Rows.uptoBulk d ≤ Rows.uptoBulkAll l := by
  induction l with
  | nil => cases h
  | cons x r ih =>
    simp only [Rows.uptoBulkAll]
    cases List.mem_cons.1 h with
    | inl e => subst e; omega
    | inr e => have := ih e; omega
theorem length_le {H : Type} (l : List (DataW H)) : l.length ≤ Rows.uptoBulkAll l := by
  induction l with
  | nil => simp [Rows.uptoBulkAll]
  | cons x r ih => have := one_le x; simp only [Rows.uptoBulkAll, List.length_cons]; omega
end bulks

instance : Inhabited Ins := ⟨⟨0, 0, 0, 0⟩⟩
instance : Inhabited Src := ⟨⟨0, []⟩⟩

section
variable {H : Type} {enc : TypeId × Value → H} {w : World}

/-- A slice that came in, element by element. -/
theorem sl_of_trod {t e : TypeId} {c fuel : Nat} {cs : List Value} {d : DataW H} {ps : List MemPlace} (ht : Tryd.prog.underlying t = some (.slice e)) (hc : Tryd.prog.cellsOf e = c) (hc0 : 0 < c)
    (h : DataW.trod enc Tryd.prog w 0 (fun _ => true) true fuel t cs = some (d, ps)) (hb : Rows.uptoBulk d ≤ 1048576) :
    ∃ (v : Value) (len n : Nat) (CS : Nat → List Value) (D : Nat → DataW H) (Pl : Nat → List MemPlace), cs = [v] ∧ len ≤ 1048576 ∧ Sl w v len c (fun i j => (CS i).getD j (.bool false)) ∧
      ∀ i, i < len → (CS i).length = c ∧ DataW.trod enc Tryd.prog w 0 (fun _ => true) true n e (CS i) = some (D i, Pl i) ∧ Rows.uptoBulk (D i) ≤ 1048576 := by
  rcases open_slice ht h with ⟨rfl, h0⟩ | ⟨a, len, cap, m, n, D, Pl, rfl, -, hl, hm, hmm, hx, hi⟩
  · exact ⟨.slice none 0 0, 0, 0, fun _ => [], fun _ => .nil, fun _ => [], rfl, by omega, ⟨none, 0, rfl, by omega, by omega, Or.inl rfl⟩, fun i hi => by omega⟩
  · simp only [if_true] at hmm
    subst hmm
    obtain ⟨hd, -⟩ := Prod.mk.inj hx
    have hbl : ∀ i, i < len → Rows.uptoBulk (D i) ≤ 1048576 := fun i hi => by
      rw [hd] at hb
      simp only [Rows.uptoBulk] at hb
      have := bulks.part_le (d := D i) (l := (List.range len).map D) (List.mem_map.2 ⟨i, List.mem_range.2 hi, rfl⟩)
      omega
    have hlen : len ≤ 1048576 := by
      rw [hd] at hb
      simp only [Rows.uptoBulk] at hb
      have := bulks.length_le ((List.range len).map D)
      simp at this
      omega
    rw [hc] at hi
    obtain ⟨CS, hCS⟩ := choose_lt (α := List Value) (p := fun i cs' => w.cells? 0 (a.add (i * c)) c = some cs' ∧ DataW.trod enc Tryd.prog w 0 (fun _ => true) true n e cs' = some (D i, Pl i)) hi
    have hcell : ∀ i, i < len → (CS i).length = c ∧ ∀ j, j < c → w.cell? ((a.add (i * c)).add j) = (CS i)[j]? := fun i hi' => by
      obtain ⟨-, q1, q2⟩ := World.cells?_some (hCS i (by omega)).1
      exact ⟨q1, q2⟩
    refine ⟨_, len, n, CS, D, Pl, rfl, hlen, ⟨some a, _, rfl, by omega, hl, ?_⟩, fun i hi' => ⟨(hcell i hi').1, (hCS i (by omega)).2, hbl i hi'⟩⟩
    rcases Nat.eq_zero_or_pos len with h0 | h0
    · exact Or.inl h0
    · obtain ⟨b, off, spot⟩ := a
      have hspot : spot = none := by
        have := (hcell 0 h0).2 0 hc0
        rw [List.getElem?_eq_getElem (by rw [(hcell 0 h0).1]; exact hc0)] at this
        simpa [Addr.add] using World.cell?_spot this
      subst hspot
      refine Or.inr ⟨b, off, rfl, fun i hi' j hj => ?_⟩
      have := (hcell i hi').2 j hj
      rw [add_plain, add_plain] at this
      rw [this, List.getElem?_eq_getElem (by rw [(hcell i hi').1]; exact hj)]
      simp [List.getD, (hcell i hi').1, hj]

theorem inR_of_wf {x : Int} (h : (Lit.int .i64 x).wf = true) : Fits x := bounds_i64 h

theorem range_getD {α : Type} (V : Nat → α) (len i : Nat) (d : α) (h : i < len) : ((List.range len).map V).getD i d = V i := by simp [List.getD, h]

theorem ints_of_trod {fuel : Nat} {cs : List Value} {d : DataW H} {ps : List MemPlace} (h : DataW.trod enc Tryd.prog w 0 (fun _ => true) true fuel 22 cs = some (d, ps)) (hb : Rows.uptoBulk d ≤ 1048576) :
    ∃ v l, cs = [v] ∧ IntsAt w v l ∧ l.length ≤ 1048576 ∧ ∀ x ∈ l, Fits x := by
  obtain ⟨v, len, n, CS, D, Pl, hcs, hlen, hsl, hi⟩ := sl_of_trod (e := 3) Tryd.underlying22 (by kernel_rfl) Nat.one_pos h hb
  obtain ⟨V, hV⟩ := choose_lt (α := Int) (n := len) (p := fun i x => CS i = [.int .i64 x] ∧ Fits x) (fun i hi' => by
    obtain ⟨q1, q2, q3⟩ := hi i hi'
    obtain ⟨x, hx, -, hw⟩ := DataW.trod_int Tryd.underlying3 q2
    exact ⟨x, hx, inR_of_wf hw⟩)
  refine ⟨v, (List.range len).map V, hcs, ?_, by simpa using hlen, fun x hx => ?_⟩
  · have hl : ((List.range len).map V).length = len := by simp
    unfold IntsAt
    rw [hl]
    refine hsl.congr fun i hi' j hj => ?_
    have hj0 : j = 0 := by omega
    subst hj0
    rw [(hV i hi').1, range_getD _ _ _ _ hi']
    rfl
  · obtain ⟨i, hi', rfl⟩ := List.mem_map.1 hx
    exact (hV i (List.mem_range.1 hi')).2

set_option maxRecDepth 100000 in
theorem ins_of_trod {fuel : Nat} {cs : List Value} {x : DataW H × List MemPlace} (h : DataW.trod enc Tryd.prog w 0 (fun _ => true) true fuel 31 cs = some x) : ∃ i : Ins, cs = [.int .i64 i.op, .int .i64 i.a, .int .i64 i.b, .int .i64 i.c] ∧ Fits i.c := by
  obtain ⟨xs, n, -, -, hl, hxs, hf⟩ := DataW.trod_struct Tryd.underlying31 h
  have c56 : Tryd.prog.cellsOf 31 = 4 := by kernel_rfl
  have hl4 : cs.length = 4 := hl.trans c56
  have hx4 : xs.length = 4 := hxs
  have c3 : Tryd.prog.cellsOf 3 = 1 := by kernel_rfl
  match cs, hl4, xs, hx4 with
  | [c0, c1, c2, c3'], _, [y0, y1, y2, y3], _ =>
    have e0 : DataW.trod enc Tryd.prog w 0 (fun _ => true) true n 3 (([c0, c1, c2, c3'].drop 0).take (Tryd.prog.cellsOf 3)) = some y0 := hf 0 _ rfl
    have e1 : DataW.trod enc Tryd.prog w 0 (fun _ => true) true n 3 (([c0, c1, c2, c3'].drop 1).take (Tryd.prog.cellsOf 3)) = some y1 := hf 1 _ rfl
    have e2 : DataW.trod enc Tryd.prog w 0 (fun _ => true) true n 3 (([c0, c1, c2, c3'].drop 2).take (Tryd.prog.cellsOf 3)) = some y2 := hf 2 _ rfl
    have e3 : DataW.trod enc Tryd.prog w 0 (fun _ => true) true n 3 (([c0, c1, c2, c3'].drop 3).take (Tryd.prog.cellsOf 3)) = some y3 := hf 3 _ rfl
    rw [c3] at e0 e1 e2 e3
    obtain ⟨z0, g0, -⟩ := DataW.trod_int Tryd.underlying3 e0
    obtain ⟨z1, g1, -⟩ := DataW.trod_int Tryd.underlying3 e1
    obtain ⟨z2, g2, -⟩ := DataW.trod_int Tryd.underlying3 e2
    obtain ⟨z3, g3, -, hw3⟩ := DataW.trod_int Tryd.underlying3 e3
    simp at g0 g1 g2 g3
    exact ⟨⟨z0, z1, z2, z3⟩, by rw [g0, g1, g2, g3], inR_of_wf hw3⟩

theorem code_of_trod {fuel : Nat} {cs : List Value} {d : DataW H} {ps : List MemPlace} (h : DataW.trod enc Tryd.prog w 0 (fun _ => true) true fuel 32 cs = some (d, ps)) (hb : Rows.uptoBulk d ≤ 1048576) :
    ∃ v l, cs = [v] ∧ CodeAt w v l ∧ l.length ≤ 1048576 ∧ ∀ i ∈ l, Fits i.c := by
  obtain ⟨v, len, n, CS, D, Pl, hcs, hlen, hsl, hi⟩ := sl_of_trod (c := 4) (e := 31) Tryd.underlying32 (by kernel_rfl) (by decide) h hb
  obtain ⟨V, hV⟩ := choose_lt (α := Ins) (n := len) (p := fun i x => CS i = [.int .i64 x.op, .int .i64 x.a, .int .i64 x.b, .int .i64 x.c] ∧ Fits x.c) (fun i hi' => ins_of_trod (hi i hi').2.1)
  refine ⟨v, (List.range len).map V, hcs, ?_, by simpa using hlen, fun x hx => by
    obtain ⟨i, hi', rfl⟩ := List.mem_map.1 hx
    exact (hV i (List.mem_range.1 hi')).2⟩
  have hl : ((List.range len).map V).length = len := by simp
  unfold CodeAt
  rw [hl]
  refine hsl.congr fun i hi' j hj => ?_
  rw [(hV i hi').1, range_getD _ _ _ _ hi']
  have : j = 0 ∨ j = 1 ∨ j = 2 ∨ j = 3 := by omega
  rcases this with rfl | rfl | rfl | rfl <;> rfl

theorem workers_of_trod {fuel : Nat} {cs : List Value} {d : DataW H} {ps : List MemPlace} (h : DataW.trod enc Tryd.prog w 0 (fun _ => true) true fuel 27 cs = some (d, ps)) (hb : Rows.uptoBulk d ≤ 1048576) :
    ∃ v l, cs = [v] ∧ WorkersAt w v l ∧ l.length ≤ 1048576 ∧ ∀ c ∈ l, c.length ≤ 1048576 ∧ ∀ i ∈ c, Fits i.c := by
  obtain ⟨v, len, n, CS, D, Pl, hcs, hlen, hsl, hi⟩ := sl_of_trod (c := 1) (e := 32) Tryd.underlying27 (by kernel_rfl) (by decide) h hb
  obtain ⟨V, hV⟩ := choose_lt (α := Value × List Ins) (n := len) (p := fun i x => CS i = [x.1] ∧ CodeAt w x.1 x.2 ∧ x.2.length ≤ 1048576 ∧ ∀ j ∈ x.2, Fits j.c) (fun i hi' => by
    obtain ⟨q1, q2, q3⟩ := hi i hi'
    obtain ⟨v', l', e1, e2, e3⟩ := code_of_trod q2 q3
    exact ⟨(v', l'), e1, e2, e3⟩)
  refine ⟨v, (List.range len).map fun i => (V i).2, hcs, ⟨fun i => (V i).1, ?_, fun i hi' => ?_⟩, by simpa using hlen, fun c hc => ?_⟩
  · have hl : ((List.range len).map fun i => (V i).2).length = len := by simp
    rw [hl]
    refine hsl.congr fun i hi' j hj => ?_
    have hj0 : j = 0 := by omega
    subst hj0
    rw [(hV i hi').1]
    rfl
  · have hi2 : i < len := by simpa using hi'
    simpa using (hV i hi2).2.1
  · obtain ⟨i, hi', rfl⟩ := List.mem_map.1 hc
    exact (hV i (List.mem_range.1 hi')).2.2

set_option maxRecDepth 100000 in
theorem source_of_trod {fuel : Nat} {cs : List Value} {d : DataW H} {ps : List MemPlace} (h : DataW.trod enc Tryd.prog w 0 (fun _ => true) true fuel 25 cs = some (d, ps)) (hb : Rows.uptoBulk d ≤ 1048576) :
    ∃ (s : Src) (v : Value), cs = [.int .i64 s.stream, v] ∧ IntsAt w v s.words ∧ s.words.length ≤ 1048576 ∧ ∀ x ∈ s.words, Fits x := by
  obtain ⟨xs, n, -, hx, hl, hxs, hf⟩ := DataW.trod_struct Tryd.underlying25 h
  have c54 : Tryd.prog.cellsOf 25 = 2 := by kernel_rfl
  have hl2 : cs.length = 2 := hl.trans c54
  have hx2 : xs.length = 2 := hxs
  have c3 : Tryd.prog.cellsOf 3 = 1 := by kernel_rfl
  have c22 : Tryd.prog.cellsOf 22 = 1 := by kernel_rfl
  match cs, hl2, xs, hx2, hx with
  | [c0, c1], _, [y0, y1], _, hx =>
    have e0 : DataW.trod enc Tryd.prog w 0 (fun _ => true) true n 3 (([c0, c1].drop 0).take (Tryd.prog.cellsOf 3)) = some y0 := hf 0 _ rfl
    have e1 : DataW.trod enc Tryd.prog w 0 (fun _ => true) true n 22 (([c0, c1].drop 1).take (Tryd.prog.cellsOf 22)) = some y1 := hf 1 _ rfl
    rw [c3] at e0
    rw [c22] at e1
    obtain ⟨z0, g0, -⟩ := DataW.trod_int Tryd.underlying3 e0
    have hd : d = .agg [y0.1, y1.1] := by have := (Prod.mk.inj hx).1; simpa using this
    have hby : Rows.uptoBulk y1.1 ≤ 1048576 := by
      rw [hd] at hb
      simp only [Rows.uptoBulk, Rows.uptoBulkAll] at hb
      omega
    obtain ⟨v', l', q1, q2, q3, q4⟩ := ints_of_trod (d := y1.1) (ps := y1.2) e1 hby
    simp at g0 q1
    exact ⟨⟨z0, l'⟩, v', by rw [g0, q1], q2, q3, q4⟩

theorem sources_of_trod {fuel : Nat} {cs : List Value} {d : DataW H} {ps : List MemPlace} (h : DataW.trod enc Tryd.prog w 0 (fun _ => true) true fuel 26 cs = some (d, ps)) (hb : Rows.uptoBulk d ≤ 1048576) :
    ∃ v l, cs = [v] ∧ SourcesAt w v l ∧ l.length ≤ 1048576 ∧ ∀ s ∈ l, s.words.length ≤ 1048576 ∧ ∀ x ∈ s.words, Fits x := by
  obtain ⟨v, len, n, CS, D, Pl, hcs, hlen, hsl, hi⟩ := sl_of_trod (c := 2) (e := 25) Tryd.underlying26 (by kernel_rfl) (by decide) h hb
  obtain ⟨V, hV⟩ := choose_lt (α := Value × Src) (n := len) (p := fun i x => CS i = [.int .i64 x.2.stream, x.1] ∧ IntsAt w x.1 x.2.words ∧ x.2.words.length ≤ 1048576 ∧ ∀ y ∈ x.2.words, Fits y) (fun i hi' => by
    obtain ⟨q1, q2, q3⟩ := hi i hi'
    obtain ⟨s', v', e1, e2, e3⟩ := source_of_trod q2 q3
    exact ⟨(v', s'), e1, e2, e3⟩)
  refine ⟨v, (List.range len).map fun i => (V i).2, hcs, ⟨fun i => (V i).1, ?_, fun i hi' => ?_⟩, by simpa using hlen, fun c hc => ?_⟩
  · have hl : ((List.range len).map fun i => (V i).2).length = len := by simp
    rw [hl]
    refine hsl.congr fun i hi' j hj => ?_
    rw [(hV i hi').1, range_getD _ _ _ _ hi']
    have : j = 0 ∨ j = 1 := by omega
    rcases this with rfl | rfl <;> rfl
  · have hi2 : i < len := by simpa using hi'
    simpa using (hV i hi2).2.1
  · obtain ⟨i, hi', rfl⟩ := List.mem_map.1 hc
    exact (hV i (List.mem_range.1 hi')).2.2

/-- How long a net's lists are at the most. -/
def ShortNet (n : Net) : Prop := n.streams.length ≤ 1048576 ∧ n.sources.length ≤ 1048576 ∧ n.workers.length ≤ 1048576 ∧ (∀ s ∈ n.sources, s.words.length ≤ 1048576 ∧ ∀ x ∈ s.words, Fits x) ∧ (∀ c ∈ n.workers, c.length ≤ 1048576 ∧ ∀ i ∈ c, Fits i.c)

set_option maxRecDepth 100000 in
theorem net_of_trod {fuel : Nat} {v : Value} {d : DataW H} {ps : List MemPlace} (hv : ∃ cs, v = .agg cs) (h : DataW.trod enc Tryd.prog w 0 (fun _ => true) true fuel 29 v.cells.toList = some (d, ps)) (hb : Rows.uptoBulk d ≤ 1048576) :
    ∃ n, NetAt w v n ∧ ShortNet n := by
  obtain ⟨cs, rfl⟩ := hv
  obtain ⟨xs, n, -, hx, hl, hxs, hf⟩ := DataW.trod_struct Tryd.underlying29 h
  have c26 : Tryd.prog.cellsOf 29 = 3 := by kernel_rfl
  have hl3 : cs.toList.length = 3 := hl.trans c26
  have hx3 : xs.length = 3 := hxs
  have c22 : Tryd.prog.cellsOf 22 = 1 := by kernel_rfl
  have c23 : Tryd.prog.cellsOf 26 = 1 := by kernel_rfl
  have c24 : Tryd.prog.cellsOf 27 = 1 := by kernel_rfl
  obtain ⟨cl⟩ := cs
  simp only [Value.cells] at hl3 hf
  match cl, hl3, xs, hx3, hx with
  | [k0, k1, k2], _, [y0, y1, y2], _, hx =>
    have e0 : DataW.trod enc Tryd.prog w 0 (fun _ => true) true n 22 (([k0, k1, k2].drop 0).take (Tryd.prog.cellsOf 22)) = some y0 := hf 0 _ rfl
    have e1 : DataW.trod enc Tryd.prog w 0 (fun _ => true) true n 26 (([k0, k1, k2].drop 1).take (Tryd.prog.cellsOf 26)) = some y1 := hf 1 _ rfl
    have e2 : DataW.trod enc Tryd.prog w 0 (fun _ => true) true n 27 (([k0, k1, k2].drop 2).take (Tryd.prog.cellsOf 27)) = some y2 := hf 2 _ rfl
    rw [c22] at e0
    rw [c23] at e1
    rw [c24] at e2
    have hd : d = .agg [y0.1, y1.1, y2.1] := by have := (Prod.mk.inj hx).1; simpa using this
    rw [hd] at hb
    simp only [Rows.uptoBulk, Rows.uptoBulkAll] at hb
    obtain ⟨v0, l0, q0, r0, s0, -⟩ := ints_of_trod (d := y0.1) (ps := y0.2) e0 (by omega)
    obtain ⟨v1, l1, q1, r1, s1, t1⟩ := sources_of_trod (d := y1.1) (ps := y1.2) e1 (by omega)
    obtain ⟨v2, l2, q2, r2, s2, t2⟩ := workers_of_trod (d := y2.1) (ps := y2.2) e2 (by omega)
    simp at q0 q1 q2
    subst q0 q1 q2
    exact ⟨⟨l0, l1, l2⟩, ⟨_, _, _, rfl, r0, r1, r2⟩, s0, s1, s2, t1, t2⟩

end

theorem Tryd.kids : Kids Tryd.prog (· < Tryd.prog.types.size) := kids_rows (by kernel_rfl) (by kernel_rfl)
theorem Tryd.full : ∀ t e, t < Tryd.prog.types.size → Tryd.prog.underlying t = some (.slice e) → 0 < Tryd.prog.cellsOf e := slices_full_of Tryd.prog (by kernel_rfl)

theorem trodAll_carry {H : Type} {enc : TypeId × Value → H} {P : Program} {w w' : World} {sp : Nat → Bool} : ∀ {ts : List TypeId} {vs : List Value} {ds : List (DataW H)} {ps : List MemPlace}, DataW.TrodAll enc P w 0 sp true ts vs ds ps → (∀ p ∈ ps, w.sameAt w' p) → DataW.TrodAll enc P w' 0 sp true ts vs ds ps
  | [], [], [], _, h, _ => h
  | _ :: _, _ :: _, _ :: _, _, ⟨p, q, ⟨n, h1⟩, h2, e⟩, hs =>
    ⟨p, q, ⟨n, DataW.trod_carry n _ _ _ h1 fun x hx => hs x (by rw [e]; exact List.mem_append_left _ hx)⟩, trodAll_carry h2 (fun x hx => hs x (by rw [e]; exact List.mem_append_right _ hx)), e⟩

set_option maxRecDepth 100000 in
/-- A law that answers true, and has left alone all that was there. -/
theorem post_law {H : Type} {enc : TypeId × Value → H} {f : Func} {s : ChangeSpec} {W W' : World} {args : Array Value} {ds : List (DataW H)} {before : List MemPlace} {fresh handsOn again : Bool}
    (hvars : s.vars = []) (hres : f.resultTypes = #[4]) (hT : ∀ t ∈ f.params.toList, t < Tryd.prog.types.size)
    (hfn : (s.fn H (ds ++ [])).results = [.lit (.bool true)]) (hfa : (s.fn H (ds ++ [])).args = ds) (hfv : (s.fn H (ds ++ [])).vars = [])
    (hW : DataW.Whole enc Tryd.prog f.params.toList s.vars false W args.toList ds [] before) (hb : Below W.heap.size W W') :
    s.post enc Tryd.prog f false fresh handsOn again W args (.bool true) W' := by
  have hW0 := hW
  obtain ⟨p, q, hA, hV, hpq, hz, -⟩ := hW
  rw [hvars] at hV
  have hq : q = [] := hV
  subst hq
  have hbe : before = p := by rw [hpq]; simp
  subst hbe
  have hargs : ∀ sp : Nat → Bool, (∀ x ∈ before, sp x.block = true) → DataW.TrodAll enc Tryd.prog W' 0 sp true f.params.toList args.toList ds before := fun sp hsp =>
    trodAll_carry (DataW.TrodAll.respare Tryd.kids Tryd.full hT hA hsp) fun x hx => hb.same (hA.lt x hx)
  have hr : ∀ (b : Nat) (sp : Nat → Bool) (hd : Bool), DataW.TrodAll enc Tryd.prog W' b sp hd f.resultTypes.toList ((Value.bool true).resultList f.resultTypes.size) [.lit (.bool true)] [] := fun b sp hd => by
    rw [hres]; exact trodAll_mk1 (shut_bool Tryd.underlying4 _)
  have hold : ∀ x ∈ before, (fun b => decide (b < W.heap.size)) x.block = true := fun x hx => by simpa using hA.lt x hx
  refine ⟨ds, [], before, [], before, [], hW0, by rw [hfn]; exact hr _ _ _, by rw [hfa]; exact hargs _ hold, by rw [hvars, hfv]; rfl, hb.frame _, fun _ => ?_⟩
  refine ⟨?_, _, [], ([] ++ before) ++ [], ⟨[] ++ before, [], trodAll_append (hargs _ (fun _ _ => rfl)) (hr _ _ _), by rw [hvars]; exact (rfl : ([] : List MemPlace) = []), rfl, ?_, fun h => by cases h⟩, ?_⟩
  · exact ok_one hres rfl (okWide_bool_mk Tryd.underlying4 _)
  · intro b off hp
    have hp' : MemPlace.cell b off ∈ before := by simpa using hp
    rw [hb.frozen (p := ⟨b, off, none⟩) (hA.lt _ hp')]
    exact hz b off (by rw [hpq]; simpa using hp')
  · intro x hx _
    simpa using hx

end Go.Proofs.YthfdgdfnflilfaaDoor
/- What comes in to a law over a net and three lists. -/
namespace Go.Proofs.YthfdgdfnflilfaaDoor
open Go.ChangeShapes Go.WideShapes Go.ChangeAt Go.RowKit

theorem door_own : ownKnob Tryd.prog.godebug = none := by kernel_rfl

theorem fits_of_short {n : Net} (h : ShortNet n) : NetFits n := by
  refine ⟨fun k hk i hi => ?_, fun s hs x hx => (h.2.2.2.1 s hs).2 x hx⟩
  have hm : codeOf n k ∈ n.workers := by unfold codeOf; rw [getD_eq _ _ _ hk]; exact List.getElem_mem hk
  exact (h.2.2.2.2 _ hm).2 i hi

theorem slice_one {v v' : Value} (h : v.cells.toList = [v']) (hs : ∃ a len cap, v = .slice a len cap) : v = v' := by
  obtain ⟨a, len, cap, rfl⟩ := hs
  simpa [Value.cells] using h

set_option maxRecDepth 100000 in
/-- What comes in to a law over a net and three lists. -/
theorem four_open {H : Type} {enc : TypeId × Value → H} {W : World} {base : Nat} {args : Array Value} {ds : List (DataW H)} {p : List MemPlace}
    (hval : ∀ (j : Nat) t v, #[29, 22, 22, 22][j]? = some t → args[j]? = some v → Value.okWide Tryd.prog W .any base t v)
    (hA : DataW.TrodAll enc Tryd.prog W 0 (fun _ => true) true [29, 22, 22, 22] args.toList ds p) (hk : Rows.uptoBulkAll ds ≤ 1048576) :
    ∃ v0 v1 v2 v3 n rooms one two, args = #[v0, v1, v2, v3] ∧ (∃ d0 d1 d2 d3, ds = [d0, d1, d2, d3]) ∧ NetAt W v0 n ∧ NetFits n ∧ (IntsAt W v1 rooms ∧ ∀ x ∈ rooms, InR x) ∧ (IntsAt W v2 one ∧ one.length ≤ 1048576 ∧ ∀ x ∈ one, InR x) ∧ (IntsAt W v3 two ∧ two.length ≤ 1048576 ∧ ∀ x ∈ two, InR x) := by
  obtain ⟨v0, vs0, d0, ds0, p0, q0, e0, rfl, -, h0, r0⟩ := trodAll_cons hA
  obtain ⟨v1, vs1, d1, ds1, p1, q1, rfl, rfl, -, h1, r1⟩ := trodAll_cons r0
  obtain ⟨v2, vs2, d2, ds2, p2, q2, rfl, rfl, -, h2, r2⟩ := trodAll_cons r1
  obtain ⟨v3, vs3, d3, ds3, p3, q3, rfl, rfl, -, h3, r3⟩ := trodAll_cons r2
  obtain ⟨rfl, rfl, -⟩ := trodAll_nil r3
  obtain rfl : args = #[v0, v1, v2, v3] := by cases args; simp_all
  simp only [Rows.uptoBulkAll] at hk
  obtain ⟨cs0, rfl, -⟩ := okWide_struct Tryd.underlying29 (hval 0 29 v0 rfl rfl)
  obtain ⟨f0, g0⟩ := h0
  obtain ⟨f1, g1⟩ := h1
  obtain ⟨f2, g2⟩ := h2
  obtain ⟨f3, g3⟩ := h3
  obtain ⟨n, hn, hsh⟩ := net_of_trod ⟨_, rfl⟩ g0 (by omega)
  obtain ⟨w1, l1, e1, i1, -, f1⟩ := ints_of_trod g1 (by omega)
  obtain ⟨w2, l2, e2, i2, b2, f2⟩ := ints_of_trod g2 (by omega)
  obtain ⟨w3, l3, e3, i3, b3, f3⟩ := ints_of_trod g3 (by omega)
  have e1' := slice_one e1 (okWide_slice Tryd.underlying22 (hval 1 22 v1 rfl rfl))
  have e2' := slice_one e2 (okWide_slice Tryd.underlying22 (hval 2 22 v2 rfl rfl))
  have e3' := slice_one e3 (okWide_slice Tryd.underlying22 (hval 3 22 v3 rfl rfl))
  subst e1' e2' e3'
  exact ⟨_, _, _, _, n, l1, l2, l3, rfl, ⟨_, _, _, _, rfl⟩, hn, fits_of_short hsh, ⟨i1, f1⟩, ⟨i2, b2, f2⟩, ⟨i3, b3, f3⟩⟩

end Go.Proofs.YthfdgdfnflilfaaDoor

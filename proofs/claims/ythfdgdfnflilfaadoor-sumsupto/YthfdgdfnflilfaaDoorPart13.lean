/- Part 13: KeepP, KeepS. -/
import Derived.Test.YthfdgdfnflilfaaDoorPart12
/- millracekeep: Prefix. -/
namespace Go.Proofs.YthfdgdfnflilfaaDoor
open Go.RowKit Go.Conc

set_option maxRecDepth 100000 in
set_option maxHeartbeats 2000000 in
theorem both_out {N : Net} {v vr v1 v2 : Value} {w : World} (hn : NetAt w v N) (hok : validB N = false) :
    Calls Tryd.prog 14 #[v, vr, v1, v2] w fun e w' => e = .returned (.tuple #[.pointer none, .pointer none, .bool true]) ∧ Below w.heap.size w w' := by
  have HN : Hid (∀ wx, Below w.heap.size w wx → Calls Tryd.prog 10 #[v] wx fun e w' => e = .returned (.tuple #[.pointer none, .int .i64 1]) ∧ Below wx.heap.size wx w') := fun wx hx => new_out (hn.below hx) hok
  obtain ⟨vs0, vr0, vw0, rfl, g1, g2, g3⟩ := hn
  obtain ⟨sa, sc, rfl⟩ := g1.form
  obtain ⟨ar, cr, rfl⟩ := g2.form
  obtain ⟨aw, cw, rfl⟩ := g3.form
  have hb0 : Below w.heap.size w (w.alloc (.cells #[.slice sa N.streams.length sc, .slice ar N.sources.length cr, .slice aw N.workers.length cw] 29)) := (Below.refl _ _).alloc (Nat.le_refl _) _
  have HB0 := hide hb0
  clear g1 g2 g3 hb0
  generalize N.workers.length = wl at *
  generalize N.streams.length = sl at *
  generalize N.sources.length = rl at *
  go_enter Tryd.func14, Tryd.ntmps14
  go_wp2_with fail
  refine (unhide HN _ HB0.out).mono ?_
  rintro e w1 ⟨rfl, hb1⟩
  have HB1 := hide (HB0.out.trans (hb1.mono HB0.out.size))
  clear hb1 HN HB0
  go_wp2
  go_ret3
  exact ⟨rfl, HB1.out⟩

theorem initR_roomy (N : Net) (rooms r : List Int) : initR (roomyN N rooms) r = initR N r := by
  have hl := roomsOf_length N.streams rooms
  simp only [initR, roomyN]
  rw [hl]
  rfl

theorem grun_roomy (N : Net) (rooms r : List Int) : ∀ es, grun (roomyN N rooms) r es = grun N r es
  | [] => by simp only [grun]; rw [initR_roomy]
  | e :: es => by
    simp only [grun]
    rw [grun_roomy N rooms r es]
    rfl

theorem good_cmp {N : Net} {rooms : List Int} {S T : Rc} {c d : Nat} (hok : validB N = true) (hS : Good N S c) (hT : Good (roomyN N rooms) T d) (s : Nat) (hs : s < N.streams.length) : Cmp (histOf (srcd N s) (S.s s)) (histOf (srcd N s) (T.s s)) := by
  obtain ⟨e1, h1, -⟩ := hS.run
  obtain ⟨e2, h2, -⟩ := hT.run
  rw [grun_roomy] at h2
  have := hist_cmp (valid_ok hok) N.streams (roomyN N rooms).streams e1 e2 s hs
  rw [h1, h2] at this
  exact this

theorem Two.has1 {P : Nat → Prop} {p q : Nat} {N M : Net} {S T : Rc} {w : World} (h : Two P p q N M S T w) : Has P p N S w := by
  obtain ⟨A, ha, hP, -⟩ := h.left
  exact ha.mono hP
theorem Two.has2 {P : Nat → Prop} {p q : Nat} {N M : Net} {S T : Rc} {w : World} (h : Two P p q N M S T w) : Has P q M T w := h.swap.has1

set_option maxRecDepth 100000 in
set_option maxHeartbeats 4000000 in
theorem prefix_calls {N : Net} {v vr v1 v2 : Value} {rooms one two : List Int} {w : World} (hn : NetAt w v N) (hr : IntsAt w vr rooms) (h1 : IntsAt w v1 one) (h2 : IntsAt w v2 two) (hf : NetFits N)
    (fr : ∀ x ∈ rooms, InR x) (f1 : ∀ x ∈ one, InR x) (f2 : ∀ x ∈ two, InR x) (l1 : one.length ≤ 1048576) (l2 : two.length ≤ 1048576) :
    Calls Tryd.prog 4 #[v, vr, v1, v2] w fun e w' => e = .returned (.bool true) ∧ Below w.heap.size w w' := by
  have HS : Hid (∀ wx, Calls Tryd.prog 8 #[] wx fun e w' => e = .returned (.bool true) ∧ Below wx.heap.size wx w') := sure_calls
  have hNt : ∀ wx, Below w.heap.size w wx → NetAt wx v N := fun wx hx => hn.below hx
  have hb0 : ∀ o, Below (w.heap.size + 1) (w.alloc o) (w.alloc o) := fun o => Below.refl _ _
  cases hok : validB N
  · have HBo : Hid (∀ wx, Below w.heap.size w wx → Calls Tryd.prog 14 #[v, vr, v1, v2] wx fun e w' => e = .returned (.tuple #[.pointer none, .pointer none, .bool true]) ∧ Below wx.heap.size wx w') := fun wx hx => both_out (hNt wx hx) hok
    obtain ⟨vs0, vr0, vw0, rfl, g1, g2, g3⟩ := hn
    obtain ⟨sa, sc, rfl⟩ := g1.form
    obtain ⟨ar, cr, rfl⟩ := g2.form
    obtain ⟨aw, cw, rfl⟩ := g3.form
    have HB0 := hide (hb0 (.cells #[.slice sa N.streams.length sc, .slice ar N.sources.length cr, .slice aw N.workers.length cw] 29))
    clear g1 g2 g3 hNt hr h1 h2 hb0 fr f1 f2
    generalize N.workers.length = wl at *
    generalize N.streams.length = sl at *
    generalize N.sources.length = rl at *
    go_enter Tryd.func4, Tryd.ntmps4
    go_wp2_with fail
    refine (unhide HS _).mono ?_
    rintro e w1 ⟨rfl, hb1⟩
    have HB1 := hide (below_box2 HB0.out hb1)
    have t1 : w1.heap[w.heap.size]? = some (.cells #[.slice sa sl sc, .slice ar rl cr, .slice aw wl cw] 29 (0, 0)) := by
      rw [HB1.out.block _ (by omega)]; exact heap_alloc_new _ _
    have z0 := (blk_cell t1 0 _ rfl).1
    have z1 := (blk_cell t1 1 _ rfl).1
    have z2 := (blk_cell t1 2 _ rfl).1
    clear hb1 t1 HB0 HS
    go_wp2_with fail
    refine (unhide HBo _ (below_box HB1.out)).mono ?_
    rintro e w2 ⟨rfl, hb2⟩
    have HB2 := hide (below_box (below_box2 HB1.out hb2))
    clear hb2 HBo HB1 z0 z1 z2
    go_wp2
    go_ret
    exact ⟨rfl, HB2.out⟩
  · have hcount := (valid_counts hok).2.1
    have HBo : Hid (∀ wx, Below w.heap.size w wx → Calls Tryd.prog 14 #[v, vr, v1, v2] wx fun e w' => ∃ p q S T, e = .returned (.tuple #[.pointer (some ⟨p, 0, none⟩), .pointer (some ⟨q, 0, none⟩), .bool true]) ∧ Two (fun b => b < wx.heap.size) p q N (roomyN N rooms) S T w' ∧ Good N S one.length ∧ Good (roomyN N rooms) T two.length ∧ Below wx.heap.size wx w') := fun wx hx => both_calls (hNt wx hx) (hr.below hx) (h1.below hx) (h2.below hx) hok hf fr f1 f2 l1 l2
    have HH : Hid (∀ (P : Nat → Prop) p q S T, Good N S one.length → Good (roomyN N rooms) T two.length → ∀ s, s < N.streams.length → ∃ n1 n2 : Nat, ∀ wx, Two P p q N (roomyN N rooms) S T wx → Calls Tryd.prog 13 #[.pointer (some ⟨p, 0, none⟩), .int .i64 s] wx fun e w' => ∃ a c, e = .returned (.tuple #[.slice a n1 c, .int .i64 0]) ∧ Below wx.heap.size wx w' ∧
        ∀ wy, Below w'.heap.size w' wy → Calls Tryd.prog 13 #[.pointer (some ⟨q, 0, none⟩), .int .i64 s] wy fun e w'' => ∃ a2 c2, e = .returned (.tuple #[.slice a2 n2 c2, .int .i64 0]) ∧ Below wy.heap.size wy w'' ∧
        ∀ wz, Below w''.heap.size w'' wz → Calls Tryd.prog 15 #[.slice a n1 c, .slice a2 n2 c2] wz fun e w3 => e = .returned (.bool true) ∧ Below wz.heap.size wz w3) := fun P p q S T hS hT s hs => by
      have hlM : (roomyN N rooms).streams.length = N.streams.length := roomsOf_length _ _
      refine ⟨(histOf (srcd N s) (S.s s)).length, (histOf (srcd N s) (T.s s)).length, fun wx htw => ?_⟩
      refine (has_history htw.has1 s hs).mono fun e w' ⟨a, c, q1, q2, q3⟩ => ⟨a, c, q1, q3, fun wy hy => ?_⟩
      refine (has_history ((htw.below q3).below hy).has2 s (by rw [hlM]; exact hs)).mono fun e w'' ⟨a2, c2, r1, r2, r3⟩ => ⟨a2, c2, r1, r3, fun wz hz => ?_⟩
      have w1l : (S.s s).words.length ≤ 2097152 := by have := hS.words s hs; omega
      have w2l : (T.s s).words.length ≤ 2097152 := by have := hT.words s (by rw [hlM]; exact hs); omega
      have hh : ∀ (b : Bool) (m : Sm), m.words.length ≤ 2097152 → (histOf b m).length ≤ 140737488355328 := fun b m hm => by
        unfold histOf
        split
        · simp; omega
        · omega
      have i1 : IntsAt w' (.slice a (histOf (srcd N s) (S.s s)).length c) (histOf (srcd N s) (S.s s)) := ints_own q2 (hh _ _ w1l)
      have i2 : IntsAt w'' (.slice a2 (histOf (srcd N s) (T.s s)).length c2) (histOf (srcd N s) (T.s s)) := ints_own r2 (hh _ _ w2l)
      exact beginning_calls (((i1.below hy).below r3).below hz) (i2.below hz) (begin_of_cmp (good_cmp hok hS hT s hs))
    obtain ⟨vs0, vr0, vw0, rfl, g1, g2, g3⟩ := hn
    obtain ⟨sa, sc, rfl⟩ := g1.form
    obtain ⟨ar, cr, rfl⟩ := g2.form
    obtain ⟨aw, cw, rfl⟩ := g3.form
    have HB0 := hide (hb0 (.cells #[.slice sa N.streams.length sc, .slice ar N.sources.length cr, .slice aw N.workers.length cw] 29))
    clear g1 g2 g3 hNt hr h1 h2 hb0 fr f1 f2 hf hok
    generalize roomyN N rooms = M at *
    generalize N.workers.length = wl at *
    generalize N.streams.length = sl at *
    generalize N.sources.length = rl at *
    generalize one.length = ol at *
    generalize two.length = tl at *
    go_enter Tryd.func4, Tryd.ntmps4
    go_wp2_with fail
    refine (unhide HS _).mono ?_
    rintro e w1 ⟨rfl, hb1⟩
    have HB1 := hide (below_box2 HB0.out hb1)
    have t1 : w1.heap[w.heap.size]? = some (.cells #[.slice sa sl sc, .slice ar rl cr, .slice aw wl cw] 29 (0, 0)) := by
      rw [HB1.out.block _ (by omega)]; exact heap_alloc_new _ _
    have z0 := (blk_cell t1 0 _ rfl).1
    have z1 := (blk_cell t1 1 _ rfl).1
    have z2 := (blk_cell t1 2 _ rfl).1
    clear hb1 t1 HB0 HS
    go_wp2_with fail
    refine (unhide HBo _ (below_box HB1.out)).mono ?_
    rintro e w2 ⟨p, q, S, T, rfl, htw, hgS, hgT, hb2⟩
    have HB2 := hide (below_box2 HB1.out hb2)
    have HTw := hide htw
    have HH1 := hide (HH.out (fun b => b < w1.heap.size) p q S T hgS hgT)
    clear htw hgS hgT hb2 HBo HB1 z0 z1 z2 HH
    go_wp2
    go_loopw [13] (fun i wr => ∃ k : Nat, k ≤ sl ∧ i = .int .i64 k ∧ Two (fun b => b < w1.heap.size) p q N M S T wr ∧ Below (w.heap.size + 1) (w.alloc (.cells #[.slice sa sl sc, .slice ar rl cr, .slice aw wl cw] 29)) wr) (fun i _ => sl - (intOf i).toNat)
    case atStart => exact ⟨0, Nat.zero_le _, rfl, HTw.out, HB2.out⟩
    case round =>
      clear HTw HB2
      obtain ⟨k, hk, rfl, htw, hbl⟩ := hrel
      have t0 : wr.heap[w.heap.size]? = some (.cells #[.slice sa sl sc, .slice ar rl cr, .slice aw wl cw] 29 (0, 0)) := by
        rw [hbl.block _ (by omega)]; exact heap_alloc_new _ _
      have z0 := (blk_cell t0 0 _ rfl).1
      have HB := hide hbl
      have HTw := hide htw
      clear t0
      by_cases hlt : k < sl
      · obtain ⟨n1, n2, hc⟩ := HH1.out k hlt
        have HC1 := hide (hc wr htw)
        clear hc hbl htw HH1
        go_wp2_with fail
        refine (unhide HC1).mono ?_
        rintro e w3 ⟨a, c, rfl, hb3, hc3⟩
        have HC3 := hide (hc3 w3 (Below.refl _ _))
        have HB3 := hide hb3
        clear hc3 hb3 HC1
        go_wp2_with fail
        refine (unhide HC3).mono ?_
        rintro e w4 ⟨a2, c2, rfl, hb4, hc4⟩
        have HC4 := hide (hc4 w4 (Below.refl _ _))
        have HB4 := hide hb4
        clear hc4 hb4 HC3
        go_wp2_with fail
        refine (unhide HC4).mono ?_
        rintro e w5 ⟨rfl, hb5⟩
        have HB5 := hide hb5
        have HT5 : Hid (Two (fun b => b < w1.heap.size) p q N M S T w5) := ((HTw.out.below HB3.out).below HB4.out).below hb5
        have HBB : Hid (Below (w.heap.size + 1) (w.alloc (.cells #[.slice sa sl sc, .slice ar rl cr, .slice aw wl cw] 29)) w5) := below_box2 (below_box2 (below_box2 HB.out HB3.out) HB4.out) hb5
        clear hb5 HC4 HB5 HB4 HB3 HTw HB
        go_wp2
        go_roundw
        case rel => exact ⟨k + 1, by omega, by go_num, HT5.out, HBB.out⟩
        case measure => simp [intOf]; omega
      · have HBB := hide (below_box hbl)
        clear hbl htw HH1 HTw HB
        go_wp2
        go_ret
        exact ⟨rfl, HBB.out⟩

end Go.Proofs.YthfdgdfnflilfaaDoor
/- millracekeep: Settled. -/
namespace Go.Proofs.YthfdgdfnflilfaaDoor
open Go.RowKit Go.Conc

theorem Good.grow0 {N : Net} {R : Rc} {c t : Nat} (h : Good N R c) (hv : validB N = true) {a b : Int} (hg : Grows N R a b (some t)) : Good N (growS R t) c := by
  have h1 := h.grow hv hg
  obtain ⟨es, he, hcn⟩ := h.run
  exact ⟨⟨.inr t :: es, by simp only [grun, ev]; rw [he], hcn⟩, h1.room, h1.grew, fun s hs => by rw [growS_words]; exact h.words s hs, h1.fitsW, h1.fitsS⟩

theorem Good.more {N : Net} {R : Rc} {c d : Nat} (h : Good N R c) (hd : c ≤ d) : Good N R d := ⟨let ⟨es, he, hcn⟩ := h.run; ⟨es, he, fun k => Nat.le_trans (hcn k) hd⟩, h.room, h.grew, fun s hs => by have := h.words s hs; omega, h.fitsW, h.fitsS⟩

theorem good_star {N : Net} (hv : validB N = true) (hf : NetFits N) {m c : Nat} {x y : Nat × Rc} (h : Star (FStep N m) x y) : Good N x.2 (c + x.1) → x.1 ≤ y.1 ∧ Good N y.2 (c + y.1) := by
  induction h with
  | refl => exact fun g => ⟨Nat.le_refl _, g⟩
  | head h1 _ ih =>
    intro g
    cases h1 with
    | @step d S k k1 k2 =>
      have hm := List.mem_of_find?_eq_some k2
      have hs := List.find?_some k2
      have hk : k < N.workers.length := List.mem_range.1 hm
      obtain ⟨q1, q2⟩ := ih (g.step hv hf hk (by simpa using hs))
      exact ⟨by dsimp only at q1 ⊢; omega, q2⟩
    | grow k1 k2 k3 =>
      exact ih (g.grow0 hv k3)

theorem good_flow {N : Net} (hv : validB N = true) (hf : NetFits N) {R S : Rc} {m c d : Nat} (h : FlowTo N m R d S) (hd : d ≤ m) (g : Good N R c) : Good N S (c + m) :=
  ((good_star (c := c) hv hf h g).2).more (by omega)

theorem flowEnd_le {N : Net} {R S : Rc} {m d : Nat} {b : Int} (h : FlowEnd N R m d b S) : d ≤ m ∧ (b = 0 ∨ b = 3 ∨ b = 4) := by
  rcases h.2 with ⟨h1, h2⟩ | ⟨h1, -, a, h3⟩
  · exact ⟨by omega, Or.inl h2⟩
  · exact ⟨by omega, Or.inr (grows_err h3)⟩

theorem stuck_of_flow {N : Net} {R S : Rc} {m d : Nat} (hv : validB N = true) (h : FlowEnd N R m d 3 S) : Stuck N S := by
  rcases h.2 with ⟨-, h2⟩ | ⟨-, h2, a, h3⟩
  · cases h2
  · intro k hk
    have h1 : stateOf N S k ≠ 1 := fun e => by
      have := List.find?_eq_none.1 h2 k (List.mem_range.2 hk)
      simp [e] at this
    have h3' : ∀ s, s < N.streams.length → needsB N S s N.workers.length = false := by
      cases h3 with
      | goes hg => rw [goes_of_first h2] at hg; cases hg
      | none hh => exact hh
    cases hi : insAt N k (S.w k) with
    | none => exact Or.inr (by simp [stateOf, hi])
    | some i =>
      by_cases e3 : stateOf N S k = 3
      · exfalso
        have hm : i ∈ codeOf N k := List.mem_of_getElem? hi
        have ho : i.op = 2 := by
          simp only [stateOf, hi] at e3
          split at e3
          · cases e3
          · split at e3
            · rename_i hh; exact hh.1
            · cases e3
        have hb := ((valid_ok hv).ins k hk i hm).2.2 (Or.inr ho)
        have hn := h3' i.b.toNat (by omega)
        have hw : needsB N S (i.b.toNat : Nat) N.workers.length = true := by
          refine range_any_of hk ?_
          simp only [wantsB, hi, e3]
          simp; omega
        rw [hw] at hn; cases hn
      · simp only [stateOf, hi] at h1 e3 ⊢
        split
        · exact Or.inl rfl
        · split
          · rename_i x y; rw [if_neg x, if_pos y] at e3; exact absurd rfl e3
          · rename_i x y; rw [if_neg x, if_neg y] at h1; exact absurd rfl h1

theorem good_settled {N : Net} {rooms : List Int} {S T : Rc} {c d : Nat} (hok : validB N = true) (hS : Good N S c) (hT : Good (roomyN N rooms) T d) (s1 : Stuck N S) (s2 : Stuck (roomyN N rooms) T) :
    (∀ k, k < N.workers.length → S.w k = T.w k) ∧ ∀ s, s < N.streams.length → histOf (srcd N s) (S.s s) = histOf (srcd N s) (T.s s) := by
  obtain ⟨e1, h1, -⟩ := hS.run
  obtain ⟨e2, h2, -⟩ := hT.run
  rw [grun_roomy] at h2
  have := settled_eq (valid_ok hok) N.streams (roomyN N rooms).streams e1 e2 (by rw [h1]; exact s1) (by rw [h2]; exact s2)
  rw [h1, h2] at this
  exact this

/-- Flow of the first of two races. -/
theorem two_flow {P : Nat → Prop} {p q : Nat} {N M : Net} {S T : Rc} {w : World} {c : Nat} (h : Two P p q N M S T w) (hg : Good N S c) (hf : NetFits N) (hc : c ≤ 100000000) :
    Calls Tryd.prog 12 #[.pointer (some ⟨p, 0, none⟩), .int .i64 3000] w fun e w' => ∃ (d : Nat) (b : Int) (S' : Rc), e = .returned (.tuple #[.int .i64 (d : Nat), .int .i64 b]) ∧ (b = 0 ∨ b = 3 ∨ b = 4) ∧ (b = 3 → Stuck N S') ∧ Good N S' (c + 3000) ∧ Two P p q N M S' T w' ∧ Keeps P w w' := by
  obtain ⟨A, ha, hPA, hnext⟩ := h.left
  have hv := (has_len ha).2.2
  refine (has_flow ha hg.room (fun s hs => by have := hg.words s hs; omega) 3000 (by decide)).mono fun e w' ⟨d, b, S', q1, q2, q3, q4⟩ => ?_
  obtain ⟨hd, hb⟩ := flowEnd_le q1
  refine ⟨d, b, S', q2, hb, fun e3 => by subst e3; exact stuck_of_flow hv q1, good_flow hv hf q1.1 hd hg, hnext _ _ _ q3 q4, Fr.mono q4 fun b _ hb' hp => hb' (hPA b hp)⟩

set_option maxRecDepth 100000 in
set_option maxHeartbeats 8000000 in
theorem settled_net {N : Net} {v vr v1 v2 : Value} {rooms one two : List Int} {w : World} (hn : NetAt w v N) (hr : IntsAt w vr rooms) (h1 : IntsAt w v1 one) (h2 : IntsAt w v2 two) (hf : NetFits N)
    (fr : ∀ x ∈ rooms, InR x) (f1 : ∀ x ∈ one, InR x) (f2 : ∀ x ∈ two, InR x) (l1 : one.length ≤ 1048576) (l2 : two.length ≤ 1048576) (hok : validB N = true) :
    Calls Tryd.prog 6 #[v, vr, v1, v2] w fun e w' => e = .returned (.bool true) ∧ Below w.heap.size w w' := by
  have HS : Hid (∀ wx, Calls Tryd.prog 8 #[] wx fun e w' => e = .returned (.bool true) ∧ Below wx.heap.size wx w') := sure_calls
  have hNt : ∀ wx, Below w.heap.size w wx → NetAt wx v N := fun wx hx => hn.below hx
  have hb0 : ∀ o, Below (w.heap.size + 1) (w.alloc o) (w.alloc o) := fun o => Below.refl _ _
  have hlM : (roomyN N rooms).streams.length = N.streams.length := roomsOf_length _ _
  have hcount := valid_counts hok
  have HBo : Hid (∀ wx, Below w.heap.size w wx → Calls Tryd.prog 14 #[v, vr, v1, v2] wx fun e w' => ∃ p q S T, e = .returned (.tuple #[.pointer (some ⟨p, 0, none⟩), .pointer (some ⟨q, 0, none⟩), .bool true]) ∧ Two (fun b => b < wx.heap.size) p q N (roomyN N rooms) S T w' ∧ Good N S one.length ∧ Good (roomyN N rooms) T two.length ∧ Below wx.heap.size wx w') := fun wx hx => both_calls (hNt wx hx) (hr.below hx) (h1.below hx) (h2.below hx) hok hf fr f1 f2 l1 l2
  have HF1 : Hid (∀ (P : Nat → Prop) p q S T wx, Two P p q N (roomyN N rooms) S T wx → Good N S one.length → Calls Tryd.prog 12 #[.pointer (some ⟨p, 0, none⟩), .int .i64 3000] wx fun e w' => ∃ (d : Nat) (b : Int) (S' : Rc), e = .returned (.tuple #[.int .i64 (d : Nat), .int .i64 b]) ∧ (b = 0 ∨ b = 3 ∨ b = 4) ∧ (b = 3 → Stuck N S') ∧ Good N S' (one.length + 3000) ∧ Two P p q N (roomyN N rooms) S' T w' ∧ Keeps P wx w') := fun P p q S T wx htw hg => two_flow htw hg hf (by omega)
  have HF2 : Hid (∀ (P : Nat → Prop) p q S T wx, Two P p q N (roomyN N rooms) S T wx → Good (roomyN N rooms) T two.length → Calls Tryd.prog 12 #[.pointer (some ⟨q, 0, none⟩), .int .i64 3000] wx fun e w' => ∃ (d : Nat) (b : Int) (T' : Rc), e = .returned (.tuple #[.int .i64 (d : Nat), .int .i64 b]) ∧ (b = 0 ∨ b = 3 ∨ b = 4) ∧ (b = 3 → Stuck (roomyN N rooms) T') ∧ Good (roomyN N rooms) T' (two.length + 3000) ∧ Two P p q N (roomyN N rooms) S T' w' ∧ Keeps P wx w') := fun P p q S T wx htw hg =>
    (two_flow htw.swap hg (roomy_fits hf rooms) (by omega)).mono fun e w' ⟨d, b, T', q1, q2, q3, q4, q5, q6⟩ => ⟨d, b, T', q1, q2, q3, q4, q5.swap, q6⟩
  have HSt : Hid (∀ (P : Nat → Prop) p q S T, Good N S (one.length + 3000) → Good (roomyN N rooms) T (two.length + 3000) → Stuck N S → Stuck (roomyN N rooms) T →
      (∀ s, s < N.streams.length → ∃ n1 : Nat, ∀ wx, Two P p q N (roomyN N rooms) S T wx → Calls Tryd.prog 13 #[.pointer (some ⟨p, 0, none⟩), .int .i64 s] wx fun e w' => ∃ a c, e = .returned (.tuple #[.slice a n1 c, .int .i64 0]) ∧ Below wx.heap.size wx w' ∧
        ∀ wy, Below w'.heap.size w' wy → Calls Tryd.prog 13 #[.pointer (some ⟨q, 0, none⟩), .int .i64 s] wy fun e w'' => ∃ a2 c2, e = .returned (.tuple #[.slice a2 n1 c2, .int .i64 0]) ∧ Below wy.heap.size wy w'' ∧
        ∀ wz, Below w''.heap.size w'' wz → Calls Tryd.prog 15 #[.slice a n1 c, .slice a2 n1 c2] wz fun e w3 => e = .returned (.bool true) ∧ Below wz.heap.size wz w3) ∧
      (∀ k, k < N.workers.length → ∃ (a0 a1 a2 a3 a4 a5 : Int) (st1 st2 : Nat), (st1 = 2 ∨ st1 = 4) ∧ (st2 = 2 ∨ st2 = 4) ∧ ∀ wx, Two P p q N (roomyN N rooms) S T wx →
        (Calls Tryd.prog 16 #[.pointer (some ⟨p, 0, none⟩), .int .i64 k] wx fun e w' => e = .returned (.tuple #[.agg #[.int .i64 a0, .int .i64 a1, .int .i64 a2, .int .i64 a3, .int .i64 a4, .int .i64 a5, .int .i64 (st1 : Nat)], .int .i64 0]) ∧ Below wx.heap.size wx w') ∧
        (Calls Tryd.prog 16 #[.pointer (some ⟨q, 0, none⟩), .int .i64 k] wx fun e w' => e = .returned (.tuple #[.agg #[.int .i64 a0, .int .i64 a1, .int .i64 a2, .int .i64 a3, .int .i64 a4, .int .i64 a5, .int .i64 (st2 : Nat)], .int .i64 0]) ∧ Below wx.heap.size wx w'))) := fun P p q S T hS hT s1 s2 => by
    obtain ⟨hww, hhh⟩ := good_settled hok hS hT s1 s2
    refine ⟨fun s hs => ⟨(histOf (srcd N s) (S.s s)).length, fun wx htw => ?_⟩, fun k hk => ?_⟩
    · refine (has_history htw.has1 s hs).mono fun e w' ⟨a, c, q1, q2, q3⟩ => ⟨a, c, q1, q3, fun wy hy => ?_⟩
      have hh := has_history ((htw.below q3).below hy).has2 s (by rw [hlM]; exact hs)
      have e1 : histOf (srcd (roomyN N rooms) s) (T.s s) = histOf (srcd N s) (S.s s) := (hhh s hs).symm
      rw [e1] at hh
      refine hh.mono fun e w'' ⟨a2, c2, r1, r2, r3⟩ => ⟨a2, c2, r1, r3, fun wz hz => ?_⟩
      have w1l : (S.s s).words.length ≤ 2097152 := by have := hS.words s hs; omega
      have hl : (histOf (srcd N s) (S.s s)).length ≤ 140737488355328 := by
        unfold histOf
        split
        · simp; omega
        · omega
      have i1 := ints_own q2 hl
      have i2 := ints_own r2 hl
      exact beginning_calls (((i1.below hy).below r3).below hz) (i2.below hz) (begin_of_cmp (Cmp.refl _))
    · refine ⟨(S.w k).place, (S.w k).r 0, (S.w k).r 1, (S.w k).r 2, (S.w k).r 3, (S.w k).steps, stateOf N S k, stateOf (roomyN N rooms) T k, s1 k hk, s2 k hk, fun wx htw => ⟨has_look htw.has1 k hk, ?_⟩⟩
      rw [hww k hk]
      exact has_look htw.has2 k hk
  obtain ⟨vs0, vr0, vw0, rfl, g1, g2, g3⟩ := hn
  obtain ⟨sa, sc, rfl⟩ := g1.form
  obtain ⟨ar, cr, rfl⟩ := g2.form
  obtain ⟨aw, cw, rfl⟩ := g3.form
  have HB0 := hide (hb0 (.cells #[.slice sa N.streams.length sc, .slice ar N.sources.length cr, .slice aw N.workers.length cw] 29))
  obtain ⟨-, hs8, -, hw6⟩ := hcount
  clear g1 g2 g3 hNt hr h1 h2 hb0 fr f1 f2 hf hok hlM
  generalize roomyN N rooms = M at *
  generalize N.workers.length = wl at *
  generalize N.streams.length = sl at *
  generalize N.sources.length = rl at *
  generalize one.length = ol at *
  generalize two.length = tl at *
  go_enter Tryd.func6, Tryd.ntmps6
  go_wp2_with fail
  refine (unhide HS _).mono ?_
  rintro e w1 ⟨rfl, hb1⟩
  have HB1 := hide (below_box2 HB0.out hb1)
  have t1 : w1.heap[w.heap.size]? = some (.cells #[.slice sa sl sc, .slice ar rl cr, .slice aw wl cw] 29 (0, 0)) := by
    rw [HB1.out.block _ (by omega)]; exact heap_alloc_new _ _
  have z0 := (blk_cell t1 0 _ rfl).1
  have z1 := (blk_cell t1 1 _ rfl).1
  have z2 := (blk_cell t1 2 _ rfl).1
  have htl1 := lt_of_blk t1
  clear hb1 t1 HB0 HS
  go_wp2_with fail
  refine (unhide HBo _ (below_box HB1.out)).mono ?_
  rintro e w2 ⟨p, q, S, T, rfl, htw, hgS, hgT, hb2⟩
  have HB2 := hide (below_box2 HB1.out hb2)
  have HGT := hide hgT
  have HFa := hide (HF1.out _ p q S T w2 htw hgS)
  clear htw hgS hgT hb2 HBo HB1 z0 z1 z2 HF1
  go_wp2_with fail
  refine (unhide HFa).mono ?_
  rintro e w3 ⟨d1, b1, S', rfl, hb1, hst1, hgS, htw, hk3⟩
  have HB3 : Hid (Below (w.heap.size + 1) (w.alloc (.cells #[.slice sa sl sc, .slice ar rl cr, .slice aw wl cw] 29)) w3) := HB2.out.trans (hk3.below (by have := HB2.out.size; simpa using this) fun b hb => by omega)
  have HFb := hide (HF2.out _ p q S' T w3 htw HGT.out)
  have HGS := hide hgS
  have HST1 := hide hst1
  clear htw hgS hk3 HFa HF2 HB2 HGT hst1
  go_wp2_with fail
  refine (unhide HFb).mono ?_
  rintro e w4 ⟨d2, b2, T', rfl, hb2, hst2, hgT, htw, hk4⟩
  have HB4 : Hid (Below (w.heap.size + 1) (w.alloc (.cells #[.slice sa sl sc, .slice ar rl cr, .slice aw wl cw] 29)) w4) := HB3.out.trans (hk4.below (by have := HB3.out.size; simpa using this) fun b hb => by omega)
  have HTw := hide htw
  by_cases hboth : b1 = 3 ∧ b2 = 3
  · obtain ⟨rfl, rfl⟩ := hboth
    obtain ⟨hH, hL⟩ := HSt.out (fun b => b < w1.heap.size) p q S' T' HGS.out hgT (HST1.out rfl) (hst2 rfl)
    have HH1 := hide hH
    have HL1 := hide hL
    clear htw hgT hk4 HFb HB3 HST1 HGS hst2 HSt hH hL
    go_wp2
    go_loopw [17] (fun i wr => ∃ k : Nat, k ≤ sl ∧ i = .int .i64 k ∧ Two (fun b => b < w1.heap.size) p q N M S' T' wr ∧ Below (w.heap.size + 1) (w.alloc (.cells #[.slice sa sl sc, .slice ar rl cr, .slice aw wl cw] 29)) wr) (fun i _ => sl - (intOf i).toNat)
    case atStart => exact ⟨0, Nat.zero_le _, rfl, HTw.out, HB4.out⟩
    case round =>
      clear HTw HB4
      obtain ⟨k, hk, rfl, htw, hbl⟩ := hrel
      have t0 : wr.heap[w.heap.size]? = some (.cells #[.slice sa sl sc, .slice ar rl cr, .slice aw wl cw] 29 (0, 0)) := by
        rw [hbl.block _ (by omega)]; exact heap_alloc_new _ _
      have z0 := (blk_cell t0 0 _ rfl).1
      have HB := hide hbl
      have HTw := hide htw
      clear t0
      by_cases hlt : k < sl
      · obtain ⟨n1, hc⟩ := HH1.out k hlt
        have HC1 := hide (hc wr htw)
        clear hc hbl htw HH1 HL1
        go_wp2_with fail
        refine (unhide HC1).mono ?_
        rintro e w3 ⟨a, c, rfl, hb3, hc3⟩
        have HC3 := hide (hc3 w3 (Below.refl _ _))
        have HB3 := hide hb3
        clear hc3 hb3 HC1
        go_wp2_with fail
        refine (unhide HC3).mono ?_
        rintro e w4 ⟨a2, c2, rfl, hb4, hc4⟩
        have HC4 := hide (hc4 w4 (Below.refl _ _))
        have HB4 := hide hb4
        clear hc4 hb4 HC3
        go_wp2_with fail
        refine (unhide HC4).mono ?_
        rintro e w5 ⟨rfl, hb5⟩
        have HT5 : Hid (Two (fun b => b < w1.heap.size) p q N M S' T' w5) := ((HTw.out.below HB3.out).below HB4.out).below hb5
        have HBB : Hid (Below (w.heap.size + 1) (w.alloc (.cells #[.slice sa sl sc, .slice ar rl cr, .slice aw wl cw] 29)) w5) := below_box2 (below_box2 (below_box2 HB.out HB3.out) HB4.out) hb5
        have e1 : ((n1 : Int) != (n1 : Int)) = false := by simp
        clear hb5 HC4 HB4 HB3 HTw HB
        go_wp2
        go_roundw
        case rel => exact ⟨k + 1, by omega, by go_num, HT5.out, HBB.out⟩
        case measure => simp [intOf]; omega
      · clear HH1 hbl htw
        go_wp2
        go_loopw [23] (fun i wq => ∃ j : Nat, j ≤ wl ∧ i = .int .i64 j ∧ Two (fun b => b < w1.heap.size) p q N M S' T' wq ∧ Below (w.heap.size + 1) (w.alloc (.cells #[.slice sa sl sc, .slice ar rl cr, .slice aw wl cw] 29)) wq) (fun i _ => wl - (intOf i).toNat)
        case atStart => exact ⟨0, Nat.zero_le _, rfl, HTw.out, HB.out⟩
        case round =>
          clear HTw HB z0
          obtain ⟨j, hj, rfl, htw, hbl⟩ := hrel
          have t0 : wr.heap[w.heap.size]? = some (.cells #[.slice sa sl sc, .slice ar rl cr, .slice aw wl cw] 29 (0, 0)) := by
            rw [hbl.block _ (by omega)]; exact heap_alloc_new _ _
          have z2 := (blk_cell t0 2 _ rfl).1
          have HB := hide hbl
          have HTw := hide htw
          clear t0
          by_cases hlt2 : j < wl
          · obtain ⟨a0, a1, a2, a3, a4, a5, st1, st2, hs1, hs2, hc⟩ := HL1.out j hlt2
            have HCa := hide (hc wr htw).1
            have HCb : Hid (∀ wx, Below wr.heap.size wr wx → Calls Tryd.prog 16 #[.pointer (some ⟨q, 0, none⟩), .int .i64 j] wx fun e w' => e = .returned (.tuple #[.agg #[.int .i64 a0, .int .i64 a1, .int .i64 a2, .int .i64 a3, .int .i64 a4, .int .i64 a5, .int .i64 (st2 : Nat)], .int .i64 0]) ∧ Below wx.heap.size wx w') := fun wx hx => (hc wx (HTw.out.below hx)).2
            have hlk : ∀ wx : World, (Op.equalIn 10000 48 (.agg #[.int .i64 a1, .int .i64 a2, .int .i64 a3, .int .i64 a4]) (.agg #[.int .i64 a1, .int .i64 a2, .int .i64 a3, .int .i64 a4])).run Tryd.prog wx = .ok true wx := fun wx => by
              have := eqRegs 9998 a1 a2 a3 a4 a1 a2 a3 a4 wx
              simpa using this
            have x1 : (((st1 : Nat) : Int) == 1) = false := by simp; omega
            have x3 : (((st1 : Nat) : Int) == 3) = false := by simp; omega
            have y1 : (((st2 : Nat) : Int) == 1) = false := by simp; omega
            have y3 : (((st2 : Nat) : Int) == 3) = false := by simp; omega
            have q5 : (a5 != a5) = false := by simp
            have q0 : (a0 != a0) = false := by simp
            clear hc hbl htw HL1
            go_wp2_with fail
            refine (unhide HCa).mono ?_
            rintro e w3 ⟨rfl, hb3⟩
            have hbA : Below wr.heap.size wr (w3.alloc (.cells #[.int .i64 a0, .int .i64 a1, .int .i64 a2, .int .i64 a3, .int .i64 a4, .int .i64 a5, .int .i64 (st1 : Nat)] 50)) := hb3.alloc hb3.size _
            have HCc := hide (HCb.out _ hbA)
            have HBA := hide hbA
            clear hb3 hbA HCb HCa z2
            go_wp2_with fail
            refine (unhide HCc).mono ?_
            rintro e w4 ⟨rfl, hb4⟩
            have u4 : w4.heap[w3.heap.size]? = some (.cells #[.int .i64 a0, .int .i64 a1, .int .i64 a2, .int .i64 a3, .int .i64 a4, .int .i64 a5, .int .i64 (st1 : Nat)] 50 (0, 0)) := (hb4.block _ (by simp)).trans (heap_alloc_new _ _)
            have ul := lt_of_blk u4
            have v0 := (blk_cell u4 0 _ rfl).1
            have v1 := (blk_cell u4 1 _ rfl).1
            have v2 := (blk_cell u4 2 _ rfl).1
            have v3 := (blk_cell u4 3 _ rfl).1
            have v4 := (blk_cell u4 4 _ rfl).1
            have v5 := (blk_cell u4 5 _ rfl).1
            have v6 := (blk_cell u4 6 _ rfl).1
            have hbB : Below wr.heap.size wr (w4.alloc (.cells #[.int .i64 a0, .int .i64 a1, .int .i64 a2, .int .i64 a3, .int .i64 a4, .int .i64 a5, .int .i64 (st2 : Nat)] 50)) := (HBA.out.trans (hb4.mono HBA.out.size)).alloc (by have := HBA.out.size; have := hb4.size; omega) _
            have HT5 : Hid (Two (fun b => b < w1.heap.size) p q N M S' T' (w4.alloc (.cells #[.int .i64 a0, .int .i64 a1, .int .i64 a2, .int .i64 a3, .int .i64 a4, .int .i64 a5, .int .i64 (st2 : Nat)] 50))) := HTw.out.below hbB
            have HBB : Hid (Below (w.heap.size + 1) (w.alloc (.cells #[.slice sa sl sc, .slice ar rl cr, .slice aw wl cw] 29)) (w4.alloc (.cells #[.int .i64 a0, .int .i64 a1, .int .i64 a2, .int .i64 a3, .int .i64 a4, .int .i64 a5, .int .i64 (st2 : Nat)] 50))) := below_box2 HB.out hbB
            clear hb4 hbB HBA u4 HCc HTw HB
            go_wp2
            go_roundw
            case rel => exact ⟨j + 1, by omega, by go_num, HT5.out, HBB.out⟩
            case measure => simp [intOf]; omega
          · have HBB := hide (below_box hbl)
            clear hbl htw HL1 HTw HB
            go_wp2
            go_ret
            exact ⟨rfl, HBB.out⟩
  · have HBB := hide (below_box HB4.out)
    clear htw hgT hk4 HFb HB3 HST1 HGS hst2 HSt HTw HB4
    rcases hb1 with rfl | rfl | rfl <;> rcases hb2 with rfl | rfl | rfl
    all_goals first
      | (exfalso; exact hboth ⟨rfl, rfl⟩)
      | (go_wp2; go_ret; exact ⟨rfl, HBB.out⟩)

set_option maxRecDepth 100000 in
set_option maxHeartbeats 2000000 in
theorem settled_out {N : Net} {v vr v1 v2 : Value} {w : World} (hn : NetAt w v N) (hok : validB N = false) :
    Calls Tryd.prog 6 #[v, vr, v1, v2] w fun e w' => e = .returned (.bool true) ∧ Below w.heap.size w w' := by
  have HS : Hid (∀ wx, Calls Tryd.prog 8 #[] wx fun e w' => e = .returned (.bool true) ∧ Below wx.heap.size wx w') := sure_calls
  have HBo : Hid (∀ wx, Below w.heap.size w wx → Calls Tryd.prog 14 #[v, vr, v1, v2] wx fun e w' => e = .returned (.tuple #[.pointer none, .pointer none, .bool true]) ∧ Below wx.heap.size wx w') := fun wx hx => both_out (hn.below hx) hok
  have hb0 : ∀ o, Below (w.heap.size + 1) (w.alloc o) (w.alloc o) := fun o => Below.refl _ _
  obtain ⟨vs0, vr0, vw0, rfl, g1, g2, g3⟩ := hn
  obtain ⟨sa, sc, rfl⟩ := g1.form
  obtain ⟨ar, cr, rfl⟩ := g2.form
  obtain ⟨aw, cw, rfl⟩ := g3.form
  have HB0 := hide (hb0 (.cells #[.slice sa N.streams.length sc, .slice ar N.sources.length cr, .slice aw N.workers.length cw] 29))
  clear g1 g2 g3 hb0
  generalize N.workers.length = wl at *
  generalize N.streams.length = sl at *
  generalize N.sources.length = rl at *
  go_enter Tryd.func6, Tryd.ntmps6
  go_wp2_with fail
  refine (unhide HS _).mono ?_
  rintro e w1 ⟨rfl, hb1⟩
  have HB1 := hide (below_box2 HB0.out hb1)
  have t1 : w1.heap[w.heap.size]? = some (.cells #[.slice sa sl sc, .slice ar rl cr, .slice aw wl cw] 29 (0, 0)) := by
    rw [HB1.out.block _ (by omega)]; exact heap_alloc_new _ _
  have z0 := (blk_cell t1 0 _ rfl).1
  have z1 := (blk_cell t1 1 _ rfl).1
  have z2 := (blk_cell t1 2 _ rfl).1
  clear hb1 t1 HB0 HS
  go_wp2_with fail
  refine (unhide HBo _ (below_box HB1.out)).mono ?_
  rintro e w2 ⟨rfl, hb2⟩
  have HB2 := hide (below_box (below_box2 HB1.out hb2))
  clear hb2 HBo HB1 z0 z1 z2
  go_wp2
  go_ret
  exact ⟨rfl, HB2.out⟩

theorem settled_calls {N : Net} {v vr v1 v2 : Value} {rooms one two : List Int} {w : World} (hn : NetAt w v N) (hr : IntsAt w vr rooms) (h1 : IntsAt w v1 one) (h2 : IntsAt w v2 two) (hf : NetFits N)
    (fr : ∀ x ∈ rooms, InR x) (f1 : ∀ x ∈ one, InR x) (f2 : ∀ x ∈ two, InR x) (l1 : one.length ≤ 1048576) (l2 : two.length ≤ 1048576) :
    Calls Tryd.prog 6 #[v, vr, v1, v2] w fun e w' => e = .returned (.bool true) ∧ Below w.heap.size w w' := by
  cases hok : validB N
  · exact settled_out hn hok
  · exact settled_net hn hr h1 h2 hf fr f1 f2 l1 l2 hok

end Go.Proofs.YthfdgdfnflilfaaDoor

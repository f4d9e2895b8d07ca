/- Part 29: Play4, Laws2. -/
import Derived.Deep.RegionHeld3
import Derived.Test.YthfdgdfnflilfaaGreatDoorPart28
/- The law's step: Grow and Flow. -/
namespace Go.Proofs.YthfdgdfnflilfaaGreatDoor
open Go.RowKit Go.Conc

theorem FlowTo.fine {N : Net} (hv : validB N = true) (hf : NetFits N) {m : Nat} {R : Rc} {d0 : Nat} (h : Fine N R d0) : ∀ {d : Nat} {S : Rc}, FlowTo N m R d S → Fine N S (d0 + d) ∧ d ≤ m := by
  intro d S hs
  have key : ∀ x y, Star (FStep N m) x y → (Fine N x.2 (d0 + x.1) ∧ x.1 ≤ m) → (Fine N y.2 (d0 + y.1) ∧ y.1 ≤ m) := by
    intro x y hst
    induction hst with
    | refl => exact id
    | head h1 h2 ih =>
      intro hx
      refine ih ?_
      cases h1 with
      | step hlt hk =>
        have hm := List.mem_of_find?_eq_some hk
        have := hx.1.step hv hf (List.mem_range.1 hm)
        exact ⟨this, by dsimp only at *; omega⟩
      | grow hlt hk hg => exact ⟨hx.1.grow hv hg, hx.2⟩
  exact key (0, R) (d, S) hs ⟨h, Nat.zero_le _⟩

set_option maxRecDepth 100000 in
theorem num_calls (e : Int) (w : World) : Calls Tryz.prog 37 #[.int .i64 e] w fun r w' => r = .returned (.int .i64 e) ∧ w' = w := by
  go_enter Tryz.func37, Tryz.ntmps37
  go_wp2
  go_ret
  exact ⟨rfl, rfl⟩

section
variable {wz : World} {base p : Nat} {v0 : Value} {c d sd cx cy x y : Nat} {n : Net} {vs vr vw : Value} {col : Nat → Nat} {w : World} {R Rx Ry : Rc}

theorem sd_growx (h : Sd wz base p v0 c sd cx cy x y n vs vr vw col w Rx Ry) (hro : RoomR n Rx) :
    Calls Tryz.prog 35 #[.pointer (some ⟨x, 0, none⟩)] w fun e w' => ∃ a b o, Grows n Rx a b o ∧ e = .returned (.tuple #[.int .i64 a, .int .i64 b]) ∧ Turn wz base p v0 c sd cx cy x y n vs vr vw col w (o.elim Rx (growS Rx)) Ry w' :=
  (has_grow h.at'.hx hro).mono fun _ _ ⟨a, b, o, q1, q2, q3, q4⟩ => ⟨a, b, o, q1, q2, h.keepsx q3 q4⟩

theorem sd_growy (h : Sd wz base p v0 c sd cx cy x y n vs vr vw col w Rx Ry) (hro : RoomR n Ry) :
    Calls Tryz.prog 36 #[.pointer (some ⟨y, 0, none⟩)] w fun e w' => ∃ a b o, Grows n Ry a b o ∧ e = .returned (.tuple #[.int .i64 a, .int .i64 b]) ∧ Turn wz base p v0 c sd cx cy x y n vs vr vw col w Rx (o.elim Ry (growS Ry)) w' :=
  (rhas_grow h.at'.hy hro h.wzm h.lowA).mono fun _ _ ⟨a, b, o, q1, q2, q3, q4⟩ => ⟨a, b, o, q1, q2, h.keepsy q3 q4⟩

/-- Both races grow, alike. -/
theorem grow_both (h : Sd wz base p v0 c sd cx cy x y n vs vr vw col w R R) (hf : Fine n R d) :
    Calls Tryz.prog 35 #[.pointer (some ⟨x, 0, none⟩)] w fun e w1 => ∃ a b, e = .returned (.tuple #[.int .i64 a, .int .i64 b]) ∧ w1.cell? ⟨sd, 1, none⟩ = some (.pointer (some ⟨y, 0, none⟩)) ∧
      Calls Tryz.prog 36 #[.pointer (some ⟨y, 0, none⟩)] w1 fun e w2 => e = .returned (.tuple #[.int .i64 a, .int .i64 b]) ∧ ∃ R', Turn wz base p v0 c sd cx cy x y n vs vr vw col w R' R' w2 ∧ Fine n R' d := by
  have hok := h.ok
  refine (sd_growx h hf.room).mono fun e w1 ⟨a, b, o, q1, q2, q3⟩ => ⟨a, b, q2, q3.cells.2.1, ?_⟩
  obtain ⟨col1, h1, h2⟩ := q3.ex
  refine (sd_growy h1 hf.room).mono fun e w2 ⟨a', b', o', r1, r2, r3⟩ => ?_
  obtain ⟨e1, e2, e3⟩ := grows_one q1 r1
  subst e1 e2 e3
  refine ⟨r2, o.elim R (growS R), ?_, ?_⟩
  · obtain ⟨col2, h3, h4⟩ := r3.ex
    exact ⟨col2, h3, h2.trans h4⟩
  · cases o with
    | none => exact hf
    | some t => exact hf.grow hok q1

/-- Both races flow, alike. -/
theorem flow_both (h : Sd wz base p v0 c sd cx cy x y n vs vr vw col w R R) (hf : Fine n R d) (hd : d + 1048576 ≤ 1099511627776) (m : Nat) (hm : m ≤ 100000) :
    Calls Tryz.prog 38 #[.pointer (some ⟨x, 0, none⟩), .int .i64 m] w fun e w1 => ∃ (a : Nat) (b : Int), e = .returned (.tuple #[.int .i64 (a : Nat), .int .i64 b]) ∧ (w1.cell? ⟨sd, 0, none⟩ = some (.pointer (some ⟨x, 0, none⟩)) ∧ w1.cell? ⟨sd, 1, none⟩ = some (.pointer (some ⟨y, 0, none⟩)) ∧ ∀ b, b < w.heap.size → col b = 22 → w1.heap[b]? = w.heap[b]?) ∧
      (∀ q, Calls Tryz.prog 39 #[.pointer (some ⟨y, 0, none⟩), .int .i64 m] (w1.drewN q) fun e w2 => e = .returned (.tuple #[.int .i64 (a : Nat), .int .i64 b]) ∧ (w2.cell? ⟨sd, 1, none⟩ = some (.pointer (some ⟨y, 0, none⟩)) ∧ ∀ b, b < w.heap.size → col b = 22 → w2.heap[b]? = w.heap[b]?) ∧ ∃ R', Turn wz base p v0 c sd cx cy x y n vs vr vw col w R' R' w2 ∧ Fine n R' (d + 1048576)) := by
  have hok := h.ok
  have hwd : ∀ s, s < n.streams.length → (R.s s).words.length + 100000 < 4398046511104 := fun s hs => by have := hf.words s hs; omega
  refine (has_flow h.at'.hx hf.room hwd m hm).mono fun e w1 ⟨a, b, S, q1, q2, q3, q4⟩ => ?_
  have ht := h.keepsx q3 q4
  have hx0 := h.x0
  have hy0 := h.y0
  obtain ⟨col1, h1, h2⟩ := ht.ex
  refine ⟨a, b, q2, ⟨ht.cells.1, ht.cells.2.1, fun b hb e => h2.fr.block b hb (fun e' => by have := e'.2; omega)⟩, fun q => ?_⟩
  have hb : Below w1.heap.size w1 (w1.drewN q) := below_drewN (Below.refl _ _) q
  have h1' := h1.belowQ 22 hb
  have h2' := h2.trans (Did.of_below (base := base) (cx := cx) (cy := cy) (q := 22) (col := col1) hb)
  refine (rhas_flow h1'.at'.hy hf.lenS hok hf.room hwd h1'.wzm h1'.lowA m hm).mono fun e w2 ⟨a', b', S', r1, r2, r3, r4⟩ => ?_
  obtain ⟨e1, e2, e3⟩ := q1.unique r1
  subst e1 e2 e3
  obtain ⟨col2, h3, h4⟩ := (h1'.keepsy r3 r4).ex
  have h5 := h2'.trans h4
  refine ⟨r2, ⟨h3.cells.2.1, fun b hb e => h5.fr.block b hb (fun e' => by have := e'.2; omega)⟩, S, ?_, ?_⟩
  · exact ⟨col2, h3, h5⟩
  · obtain ⟨f1, f2⟩ := FlowTo.fine hok h.fits hf q1.1
    exact f1.mono (by omega)

set_option maxRecDepth 100000 in
set_option maxHeartbeats 4000000 in
theorem step_k6 (h : Sd wz base p v0 c sd cx cy x y n vs vr vw col w R R) (hf : Fine n R d) (hd : d + 1048576 ≤ 1099511627776) (num : Int) (sched : List Int) (sa : Option Addr) (sc : Nat) (net : Net) (a0 : Option Addr) (c0 : Nat) (a1 : Option Addr) (c1 : Nat) (a2 : Option Addr) (c2 : Nat) (str : ByteArray) (which : Bool) :
    Calls Tryz.prog 16 #[.pointer (some ⟨p, 0, none⟩), .pointer (some ⟨sd, 0, none⟩), .agg #[.int .i64 6, .int .i64 num, .slice sa sched.length sc, .slice a0 net.streams.length c0, .slice a1 net.sources.length c1, .slice a2 net.workers.length c2, .string str, .bool which]] w fun e w' => e = .returned (.bool true) ∧ Went2 wz base p v0 c d sd cx cy n vs vr vw col w w' := by
  have _hu := hd
  have hbx := h.box (.cells #[.int .i64 6, .int .i64 num, .slice sa sched.length sc, .slice a0 net.streams.length c0, .slice a1 net.sources.length c1, .slice a2 net.workers.length c2, .string str, .bool which] 65)
  have s0 := hbx.1.cells.1
  have HX := hide (grow_both hbx.1 hf)
  have HW : Hid (∀ w2 R', Turn wz base p v0 c sd cx cy x y n vs vr vw (newcol col w.heap.size 22) (w.alloc (.cells #[.int .i64 6, .int .i64 num, .slice sa sched.length sc, .slice a0 net.streams.length c0, .slice a1 net.sources.length c1, .slice a2 net.workers.length c2, .string str, .bool which] 65)) R' R' w2 → Fine n R' d → Went2 wz base p v0 c d sd cx cy n vs vr vw col w w2) := fun w2 R' ht hf' => Went2.of hbx.2 ht (by omega) (hf'.mono (by omega))
  have HNu : Hid (∀ (e : Int) wx, Calls Tryz.prog 37 #[.int .i64 e] wx fun r w' => r = .returned (.int .i64 e) ∧ w' = wx) := num_calls
  clear h hf hd hbx _hu
  go_enter Tryz.func16, Tryz.ntmps16
  go_wp2_with fail
  refine (unhide HX).mono ?_
  rintro e w1 ⟨a, b, rfl, s1, hg⟩
  have HG := hide hg
  clear hg HX s0
  go_wp2_with fail
  refine (unhide HG).mono ?_
  rintro e w2 ⟨rfl, R', ht, hf'⟩
  have HT := hide (HW.out w2 R' ht hf')
  clear ht hf' HG HW s1
  go_wp2_with fail
  refine (unhide HNu b w2).mono ?_
  rintro e w3 ⟨rfl, rfl⟩
  go_wp2
  go_ret
  exact ⟨rfl, HT.out⟩

set_option maxRecDepth 100000 in
set_option maxHeartbeats 4000000 in
theorem step_k7 (h : Sd wz base p v0 c sd cx cy x y n vs vr vw col w R R) (hf : Fine n R d) (hd : d + 1048576 ≤ 1099511627776) (num : Int) (sched : List Int) (sa : Option Addr) (sc : Nat) (net : Net) (a0 : Option Addr) (c0 : Nat) (a1 : Option Addr) (c1 : Nat) (a2 : Option Addr) (c2 : Nat) (str : ByteArray) (which : Bool) :
    Calls Tryz.prog 16 #[.pointer (some ⟨p, 0, none⟩), .pointer (some ⟨sd, 0, none⟩), .agg #[.int .i64 7, .int .i64 num, .slice sa sched.length sc, .slice a0 net.streams.length c0, .slice a1 net.sources.length c1, .slice a2 net.workers.length c2, .string str, .bool which]] w fun e w' => e = .returned (.bool true) ∧ Went2 wz base p v0 c d sd cx cy n vs vr vw col w w' := by
  have hbx := h.box (.cells #[.int .i64 7, .int .i64 num, .slice sa sched.length sc, .slice a0 net.streams.length c0, .slice a1 net.sources.length c1, .slice a2 net.workers.length c2, .string str, .bool which] 65)
  have hbl : Below (w.alloc (.cells #[.int .i64 7, .int .i64 num, .slice sa sched.length sc, .slice a0 net.streams.length c0, .slice a1 net.sources.length c1, .slice a2 net.workers.length c2, .string str, .bool which] 65)).heap.size (w.alloc (.cells #[.int .i64 7, .int .i64 num, .slice sa sched.length sc, .slice a0 net.streams.length c0, .slice a1 net.sources.length c1, .slice a2 net.workers.length c2, .string str, .bool which] 65)) ((w.alloc (.cells #[.int .i64 7, .int .i64 num, .slice sa sched.length sc, .slice a0 net.streams.length c0, .slice a1 net.sources.length c1, .slice a2 net.workers.length c2, .string str, .bool which] 65)).drewN 1) := below_drewN (Below.refl _ _) 1
  have hb1 := hbx.1.belowQ 22 hbl
  have hd1 := hbx.2.trans (Did.of_below (base := base) (cx := cx) (cy := cy) (q := 22) (col := newcol col w.heap.size 22) hbl)
  obtain ⟨s0, s1, -⟩ := hbx.1.cells
  have hbxc : (w.alloc (.cells #[.int .i64 7, .int .i64 num, .slice sa sched.length sc, .slice a0 net.streams.length c0, .slice a1 net.sources.length c1, .slice a2 net.workers.length c2, .string str, .bool which] 65)).heap[w.heap.size]? = some (.cells #[.int .i64 7, .int .i64 num, .slice sa sched.length sc, .slice a0 net.streams.length c0, .slice a1 net.sources.length c1, .slice a2 net.workers.length c2, .string str, .bool which] 65 (0, 0)) := heapNew rfl
  have b1 := (blk_cell (l := [_, _, _, _, _, _, _, _]) hbxc 1 _ rfl).1
  have HNu : Hid (∀ (e : Int) wx, Calls Tryz.prog 37 #[.int .i64 e] wx fun r w' => r = .returned (.int .i64 e) ∧ w' = wx) := num_calls
  by_cases hin : 0 ≤ num ∧ num ≤ 100000
  · obtain ⟨m, rfl⟩ := Int.eq_ofNat_of_zero_le hin.1
    have hm : m ≤ 100000 := by omega
    have HX : Hid (Calls Tryz.prog 38 #[.pointer (some ⟨x, 0, none⟩), .int .i64 m] ((w.alloc (.cells #[.int .i64 7, .int .i64 (m : Int), .slice sa sched.length sc, .slice a0 net.streams.length c0, .slice a1 net.sources.length c1, .slice a2 net.workers.length c2, .string str, .bool which] 65)).drewN 1) fun e w1 => ∃ (a : Nat) (b : Int), e = .returned (.tuple #[.int .i64 (a : Nat), .int .i64 b]) ∧ (w1.cell? ⟨sd, 0, none⟩ = some (.pointer (some ⟨x, 0, none⟩)) ∧ w1.cell? ⟨w.heap.size, 1, none⟩ = some (.int .i64 m)) ∧ w1.cell? ⟨sd, 1, none⟩ = some (.pointer (some ⟨y, 0, none⟩)) ∧
        (∀ q, Calls Tryz.prog 39 #[.pointer (some ⟨y, 0, none⟩), .int .i64 m] (w1.drewN q) fun e w2 => e = .returned (.tuple #[.int .i64 (a : Nat), .int .i64 b]) ∧ (w2.cell? ⟨sd, 1, none⟩ = some (.pointer (some ⟨y, 0, none⟩)) ∧ w2.cell? ⟨w.heap.size, 1, none⟩ = some (.int .i64 m)) ∧ Went2 wz base p v0 c d sd cx cy n vs vr vw col w w2)) := by
      have hcol : newcol (newcol col w.heap.size 22) (w.alloc (.cells #[.int .i64 7, .int .i64 (m : Int), .slice sa sched.length sc, .slice a0 net.streams.length c0, .slice a1 net.sources.length c1, .slice a2 net.workers.length c2, .string str, .bool which] 65)).heap.size 22 w.heap.size = 22 := by
        rw [newcol_old (by simp), newcol_new (Nat.le_refl _)]
      have hlt : w.heap.size < ((w.alloc (.cells #[.int .i64 7, .int .i64 (m : Int), .slice sa sched.length sc, .slice a0 net.streams.length c0, .slice a1 net.sources.length c1, .slice a2 net.workers.length c2, .string str, .bool which] 65)).drewN 1).heap.size := by show w.heap.size < (w.alloc (.cells #[.int .i64 7, .int .i64 (m : Int), .slice sa sched.length sc, .slice a0 net.streams.length c0, .slice a1 net.sources.length c1, .slice a2 net.workers.length c2, .string str, .bool which] 65)).heap.size; simp
      refine (flow_both hb1 hf hd m hm).mono fun e w1 ⟨a, b, q1, ⟨q2, q3, q4⟩, q5⟩ => ⟨a, b, q1, ⟨q2, ?_⟩, q3, fun q => (q5 q).mono fun e w2 ⟨r1, ⟨r2, r3⟩, R', r4, r5⟩ => ⟨r1, ⟨r2, ?_⟩, ?_⟩⟩
      · exact (blk_cell (l := [_, _, _, _, _, _, _, _]) ((q4 _ hlt hcol).trans hbxc) 1 _ rfl).1
      · exact (blk_cell (l := [_, _, _, _, _, _, _, _]) ((r3 _ hlt hcol).trans hbxc) 1 _ rfl).1
      · exact Went2.of hd1 r4 (by omega) r5
    clear h hf hd hbx hbl hb1 hd1 hbxc hin
    go_enter Tryz.func16, Tryz.ntmps16
    go_wp2
    go_region_held3 (fun w' => w'.cell? ⟨sd, 0, none⟩ = some (.pointer (some ⟨x, 0, none⟩)) ∧ w'.cell? ⟨w.heap.size, 1, none⟩ = some (.int .i64 (m : Int))) (first | exact ⟨s0, b1⟩ | assumption | go_keep) ((go_at_call 38; refine (unhide HX).mono ?_; rintro e w1 ⟨a, b, rfl, hS1, s1', hFy⟩; have HFy := hide hFy; clear hFy))
    obtain ⟨-, b1'⟩ := hS1
    clear s0 s1 b1 HX
    go_wp2
    go_region_held3 (fun w' => w'.cell? ⟨sd, 1, none⟩ = some (.pointer (some ⟨y, 0, none⟩)) ∧ w'.cell? ⟨w.heap.size, 1, none⟩ = some (.int .i64 (m : Int))) (first | exact ⟨s1', b1'⟩ | assumption | go_keep) ((go_at_call 39; refine (unhide HFy _).mono ?_; rintro e w2 ⟨rfl, hS2, ht⟩; have HT := hide ht; clear ht))
    clear hS2 HFy
    go_wp2_with fail
    refine (unhide HNu b w2).mono ?_
    rintro e w3 ⟨rfl, rfl⟩
    go_wp2
    go_ret
    exact ⟨rfl, HT.out⟩
  · have hout : num < 0 ∨ 100000 < num := by omega
    have HX : Hid (∀ wx, Calls Tryz.prog 38 #[.pointer (some ⟨x, 0, none⟩), .int .i64 num] wx fun e w1 => e = .returned (.tuple #[.int .i64 0, .int .i64 2]) ∧ w1 = wx) := fun wx => rflow_out num hout
    have HY : Hid (∀ wx, Calls Tryz.prog 39 #[.pointer (some ⟨y, 0, none⟩), .int .i64 num] wx fun e w1 => e = .returned (.tuple #[.int .i64 0, .int .i64 2]) ∧ w1 = wx) := fun wx => refFlow_out num hout
    have HT : Hid (∀ q, Went2 wz base p v0 c d sd cx cy n vs vr vw col w ((w.alloc (.cells #[.int .i64 7, .int .i64 num, .slice sa sched.length sc, .slice a0 net.streams.length c0, .slice a1 net.sources.length c1, .slice a2 net.workers.length c2, .string str, .bool which] 65)).drewN q)) := fun q => Went2.of hbx.2 (hbx.1.below (below_drewN (Below.refl _ _) q)) (by omega) (hf.mono (by omega))
    clear h hf hd hbx hbl hb1 hd1 hbxc hin hout
    go_enter Tryz.func16, Tryz.ntmps16
    go_wp2
    go_region_held3 (fun w' => w'.cell? ⟨sd, 0, none⟩ = some (.pointer (some ⟨x, 0, none⟩)) ∧ w'.cell? ⟨w.heap.size, 1, none⟩ = some (.int .i64 num)) (first | exact ⟨s0, b1⟩ | assumption | go_keep) ((go_at_call 38; refine (unhide HX _).mono ?_; rintro e w1 ⟨rfl, rfl⟩))
    go_wp2
    go_region_held3 (fun w' => w'.cell? ⟨sd, 1, none⟩ = some (.pointer (some ⟨y, 0, none⟩)) ∧ w'.cell? ⟨w.heap.size, 1, none⟩ = some (.int .i64 num)) (first | exact ⟨s1, b1⟩ | assumption | go_keep) ((go_at_call 39; refine (unhide HY _).mono ?_; rintro e w2 ⟨rfl, rfl⟩))
    go_wp2_with fail
    refine (unhide HNu 2 _).mono ?_
    rintro e w3 ⟨rfl, rfl⟩
    go_wp2
    go_ret
    exact ⟨rfl, HT.out 2⟩

theorem flows_law : StepLaw 7 := fun wz base p v0 c d sd cx cy x y n vs vr vw col w R o h hf hd hc ho hk => by
  rcases (show o.kind ≤ 5 ∨ o.kind = 6 ∨ o.kind = 7 by omega) with h5 | h6 | h7
  · exact steps_law wz base p v0 c d sd cx cy x y n vs vr vw col w R o h hf hd hc ho h5
  · rw [h6]; exact step_k6 h hf hd o.num o.sched o.sa o.sc o.net o.a0 o.c0 o.a1 o.c1 o.a2 o.c2 o.str o.which
  · rw [h7]; exact step_k7 h hf hd o.num o.sched o.sa o.sc o.net o.a0 o.c0 o.a1 o.c1 o.a2 o.c2 o.str o.which

end

end Go.Proofs.YthfdgdfnflilfaaGreatDoor
/- The law's Flows, the walk. -/
namespace Go.Proofs.YthfdgdfnflilfaaGreatDoor
open Go.RowKit Go.Conc

set_option maxRecDepth 100000 in
set_option maxHeartbeats 4000000 in
theorem flowsF_calls {n : Net} {v vo : Value} {ops : List OpV} {w : World} (hlaw : StepLaw 7) (hn : NetAt w v n) (hs : ShortNet n) (ho : ScriptAt w vo ops) :
    Calls Tryz.prog 4 #[v, vo] w fun e w' => e = .returned (.bool true) ∧ Below w.heap.size w w' := by
  have HN := hide hn
  obtain ⟨vs, vr, vw, rfl, h1, h2, h3⟩ := hn
  obtain ⟨sa, sc, rfl⟩ := h1.form
  obtain ⟨ar, cr, rfl⟩ := h2.form
  obtain ⟨aw, cw, rfl⟩ := h3.form
  clear h1 h2 h3
  have HW : Hid (∀ w1, Below ((w.alloc (.cells #[.slice sa n.streams.length sc, .slice ar n.sources.length cr, .slice aw n.workers.length cw] 26)).alloc (.cells #[.slice none 0 0, .slice none 0 0, .slice none 0 0, .slice none 0 0, .slice none 0 0, .slice none 0 0, .slice none 0 0, .slice none 0 0] 35)).heap.size ((w.alloc (.cells #[.slice sa n.streams.length sc, .slice ar n.sources.length cr, .slice aw n.workers.length cw] 26)).alloc (.cells #[.slice none 0 0, .slice none 0 0, .slice none 0 0, .slice none 0 0, .slice none 0 0, .slice none 0 0, .slice none 0 0, .slice none 0 0] 35)) w1 →
      (w1.heap[w.heap.size]? = some (.cells #[.slice sa n.streams.length sc, .slice ar n.sources.length cr, .slice aw n.workers.length cw] 26 (0, 0))) ∧ Calls Tryz.prog 8 #[.pointer (some ⟨w.heap.size + 1, 0, none⟩), .agg #[.slice sa n.streams.length sc, .slice ar n.sources.length cr, .slice aw n.workers.length cw], .bool true] w1 fun e w2 => e = .returned (.bool true) ∧
        Calls Tryz.prog 9 #[.pointer (some ⟨w.heap.size + 1, 0, none⟩), vo, .int .i64 7] w2 fun e w3 => e = .returned (.bool true) ∧ Below w.heap.size w w3) := fun w1 hb => by
    have hsz : ((w.alloc (.cells #[.slice sa n.streams.length sc, .slice ar n.sources.length cr, .slice aw n.workers.length cw] 26)).alloc (.cells #[.slice none 0 0, .slice none 0 0, .slice none 0 0, .slice none 0 0, .slice none 0 0, .slice none 0 0, .slice none 0 0, .slice none 0 0] 35)).heap.size = w.heap.size + 2 := by simp
    have hb0 : Below w.heap.size w w1 := (((Below.refl _ w).alloc (Nat.le_refl _) _).alloc (by simp) _).trans (hb.mono (by rw [hsz]; omega))
    have hbox := hb.block w.heap.size (by rw [hsz]; omega)
    have hwld := hb.block (w.heap.size + 1) (by rw [hsz]; omega)
    have hp0 := play_new (wz := w) (hwld.trans (heapNew (by simp))) (by omega) hb0
    refine ⟨hbox.trans (heapOld (by simp) (heapNew rfl)), (hp0.opens (by simp) HN.out hs (by omega)).mono fun e w2 ⟨q1, v0', l', col', q2, q3, q4, q5⟩ => ⟨q1, ?_⟩⟩
    have hb2 : Below w.heap.size w w2 := q3.wzm
    refine (play_calls (L := l'.length) ⟨⟨l', col', rfl, q3⟩, Fr.refl _ _⟩ (by simp at q2; omega) ho hlaw (by omega) (by omega)).mono fun e w3 ⟨r1, r2⟩ => ⟨r1, ?_⟩
    exact hb2.trans ⟨r2.os, r2.tape, r2.output, r2.size, fun b hb' => r2.block b (by have := hb2.size; omega) (by omega)⟩
  obtain ⟨⟨oa, oc, rfl, -, -⟩, -⟩ := ho
  generalize n.streams.length = k0 at *
  generalize n.sources.length = k1 at *
  generalize n.workers.length = k2 at *
  clear HN hs
  go_enter Tryz.func4, Tryz.ntmps4
  go_wp2_with fail
  refine (first_calls _).mono ?_
  rintro e w1 ⟨rfl, hb⟩
  obtain ⟨hbx, hop⟩ := HW.out w1 hb
  have HOp := hide hop
  clear hb HW hop
  obtain ⟨z0, -⟩ := blk_cell (l := [_, _, _]) hbx 0 _ rfl
  obtain ⟨z1, -⟩ := blk_cell (l := [_, _, _]) hbx 1 _ rfl
  obtain ⟨z2, -⟩ := blk_cell (l := [_, _, _]) hbx 2 _ rfl
  clear hbx
  go_wp2_with fail
  refine (unhide HOp).mono ?_
  rintro e w2 ⟨rfl, hpl⟩
  have HPl := hide hpl
  clear HOp hpl z0 z1 z2
  go_wp2_with fail
  refine (unhide HPl).mono ?_
  rintro e w3 ⟨rfl, hb⟩
  have HB := hide hb
  clear hb HPl
  go_wp2
  go_ret
  exact ⟨rfl, HB.out⟩

end Go.Proofs.YthfdgdfnflilfaaGreatDoor

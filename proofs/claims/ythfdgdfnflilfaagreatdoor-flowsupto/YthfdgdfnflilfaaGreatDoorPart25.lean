/- Part 25: Side2, Keep6, Side3, Side4, AppKeep, KNums. -/
import Derived.Laws.StructEq
import Derived.Deep.RegionHeld3
import Derived.Deep.AppendLies
import Derived.Test.YthfdgdfnflilfaaGreatDoorPart24
/- The law's side: what it asks of both races: steps. -/
namespace Go.Proofs.YthfdgdfnflilfaaGreatDoor
open Go.RowKit Go.Conc

/-- A side with the book beside it. -/
structure Sd (wz : World) (base p : Nat) (v0 : Value) (c sd cx cy x y : Nat) (n : Net) (vs vr vw : Value) (col : Nat → Nat) (w : World) (Rx Ry : Rc) : Prop where
  at' : SideAt wz col w sd cx cy x y n vs vr vw Rx Ry
  bk : Bk base col w p v0 c
  wzm : Below wz.heap.size wz w
  wzb : wz.heap.size ≤ base
  x0 : 29 < cx
  x9 : cx < 90
  y0 : 29 < cy
  y9 : cy < 90
  ne : cx ≠ cy
  fits : NetFits n
  net : NetAt wz (.agg #[vs, vr, vw]) n
  short : ShortNet n

/-- What a call leaves of it. -/
structure Turn (wz : World) (base p : Nat) (v0 : Value) (c sd cx cy x y : Nat) (n : Net) (vs vr vw : Value) (col : Nat → Nat) (w : World) (Rx Ry : Rc) (w' : World) : Prop where
  ex : ∃ col', Sd wz base p v0 c sd cx cy x y n vs vr vw col' w' Rx Ry ∧ Did base cx cy col w col' w'

section
variable {wz : World} {base p : Nat} {v0 : Value} {c sd cx cy x y : Nat} {n : Net} {vs vr vw : Value} {col : Nat → Nat} {w : World} {Rx Ry : Rc}

theorem Sd.base_le (h : Sd wz base p v0 c sd cx cy x y n vs vr vw col w Rx Ry) : base ≤ w.heap.size := by
  obtain ⟨cs, hp, -⟩ := h.bk.blk
  exact Nat.le_trans h.bk.ge (Nat.le_of_lt (lt_of_blk hp))

theorem Sd.refl (h : Sd wz base p v0 c sd cx cy x y n vs vr vw col w Rx Ry) : Turn wz base p v0 c sd cx cy x y n vs vr vw col w Rx Ry w := ⟨col, h, ⟨Fr.refl _ _, fun _ _ _ => rfl⟩⟩

theorem Sd.belowQ (h : Sd wz base p v0 c sd cx cy x y n vs vr vw col w Rx Ry) (q : Nat) {w' : World} (hb : Below w.heap.size w w') : Sd wz base p v0 c sd cx cy x y n vs vr vw (newcol col w.heap.size q) w' Rx Ry := by
  have hbl := h.base_le
  refine ⟨h.at'.below h.wzm q hb, h.bk.frame (fun b h' _ => hb.block b h') (fun b h' _ => newcol_old h') (fun b h' => by rw [newcol_old (by omega)]; exact h.bk.low b h') hb.size (Nat.le_refl _), h.wzm.trans (hb.mono h.wzm.size), h.wzb, h.x0, h.x9, h.y0, h.y9, h.ne, h.fits, h.net, h.short⟩

theorem Sd.below (h : Sd wz base p v0 c sd cx cy x y n vs vr vw col w Rx Ry) {w' : World} (hb : Below w.heap.size w w') : Turn wz base p v0 c sd cx cy x y n vs vr vw col w Rx Ry w' :=
  ⟨_, h.belowQ 22 hb, Did.of_below hb⟩

theorem Turn.trans {c' : Nat} {Rx' Ry' Rx2 Ry2 : Rc} {w1 w2 : World} (h : Turn wz base p v0 c sd cx cy x y n vs vr vw col w Rx' Ry' w1) (k : ∀ col1, Sd wz base p v0 c sd cx cy x y n vs vr vw col1 w1 Rx' Ry' → Turn wz base p v0 c' sd cx cy x y n vs vr vw col1 w1 Rx2 Ry2 w2) : Turn wz base p v0 c' sd cx cy x y n vs vr vw col w Rx2 Ry2 w2 := by
  obtain ⟨col1, h1, h2⟩ := h.ex
  obtain ⟨col2, h3, h4⟩ := (k col1 h1).ex
  exact ⟨col2, h3, h2.trans h4⟩

theorem Sd.keepsx (h : Sd wz base p v0 c sd cx cy x y n vs vr vw col w Rx Ry) {Rx' : Rc} {w' : World} (hx' : Has (fun b => b < w.heap.size ∧ col b ≠ cx) x n Rx' w') (hk : Keeps (fun b => b < w.heap.size ∧ col b ≠ cx) w w') : Turn wz base p v0 c sd cx cy x y n vs vr vw col w Rx' Ry w' :=
  ⟨_, ⟨h.at'.callx h.bk.low h.wzm h.wzb h.x0 h.x9 h.ne hx' hk, keeps_bk h.bk h.x0 h.x9 h.base_le hk, keeps_wz h.bk.low h.x9 h.wzm h.wzb hk, h.wzb, h.x0, h.x9, h.y0, h.y9, h.ne, h.fits, h.net, h.short⟩, keeps_did h.bk.low h.x9 (Or.inl rfl) hk⟩

theorem Sd.keepsy (h : Sd wz base p v0 c sd cx cy x y n vs vr vw col w Rx Ry) {Ry' : Rc} {w' : World} (hy' : RHas wz (fun b => b < w.heap.size ∧ col b ≠ cy) y n Ry' w') (hk : Keeps (fun b => b < w.heap.size ∧ col b ≠ cy) w w') : Turn wz base p v0 c sd cx cy x y n vs vr vw col w Rx Ry' w' :=
  ⟨_, ⟨h.at'.cally h.y0 h.ne hy' hk, keeps_bk h.bk h.y0 h.y9 h.base_le hk, keeps_wz h.bk.low h.y9 h.wzm h.wzb hk, h.wzb, h.x0, h.x9, h.y0, h.y9, h.ne, h.fits, h.net, h.short⟩, keeps_did h.bk.low h.y9 (Or.inr rfl) hk⟩

theorem Sd.lowA (h : Sd wz base p v0 c sd cx cy x y n vs vr vw col w Rx Ry) : ∀ b, b < wz.heap.size → b < w.heap.size ∧ col b ≠ cy := fun b hb => by
  have h1 := h.wzm.size
  have h2 := h.wzb
  have h3 := h.bk.low b (by omega)
  have h4 := h.y9
  exact ⟨by omega, by omega⟩

theorem Sd.ok (h : Sd wz base p v0 c sd cx cy x y n vs vr vw col w Rx Ry) : validB n = true := (has_len h.at'.hx).2.2

/-- The cells that the law reads of a side. -/
theorem Sd.cells (h : Sd wz base p v0 c sd cx cy x y n vs vr vw col w Rx Ry) : w.cell? ⟨sd, 0, none⟩ = some (.pointer (some ⟨x, 0, none⟩)) ∧ w.cell? ⟨sd, 1, none⟩ = some (.pointer (some ⟨y, 0, none⟩)) ∧
    ∃ gS gW cS cW, w.cell? ⟨y, 0, none⟩ = some (.slice (some ⟨gS, 0, none⟩) n.streams.length cS) ∧ w.cell? ⟨y, 1, none⟩ = some (.slice (some ⟨gW, 0, none⟩) n.workers.length cW) := by
  obtain ⟨L, rfl, h2, -, -⟩ := h.at'.hy.ex
  exact ⟨(blk_cell (l := [_, _, _, _, _]) h.at'.blk 0 _ rfl).1, (blk_cell (l := [_, _, _, _, _]) h.at'.blk 1 _ rfl).1, L.gS, L.gW, L.cS, L.cW, (blk_cell (l := [_, _]) h2.blk 0 _ rfl).1, (blk_cell (l := [_, _]) h2.blk 1 _ rfl).1⟩

theorem sd_stepx (h : Sd wz base p v0 c sd cx cy x y n vs vr vw col w Rx Ry) (k : Nat) (hk : k < n.workers.length) (hsm : SmallR n Rx) :
    Calls Tryz.prog 19 #[.pointer (some ⟨x, 0, none⟩), .int .i64 k] w fun e w' => e = .returned (.tuple #[.int .i64 (stateOf n Rx k), .int .i64 0]) ∧ Turn wz base p v0 c sd cx cy x y n vs vr vw col w (stepR n Rx k) Ry w' :=
  (has_step h.at'.hx k hk hsm).mono fun _ _ ⟨q1, q2, q3⟩ => ⟨q1, h.keepsx q2 q3⟩

theorem sd_stepy (h : Sd wz base p v0 c sd cx cy x y n vs vr vw col w Rx Ry) (k : Nat) (hk : k < n.workers.length) (hsm : SmallR n Ry) :
    Calls Tryz.prog 61 #[.pointer (some ⟨y, 0, none⟩), .int .i64 k] w fun e w' => e = .returned (.int .i64 (stateOf n Ry k)) ∧ Turn wz base p v0 c sd cx cy x y n vs vr vw col w Rx (stepR n Ry k) w' :=
  (rhas_step h.at'.hy k hk hsm h.wzm h.lowA).mono fun _ _ ⟨q1, q2, q3⟩ => ⟨q1, h.keepsy q2 q3⟩

theorem Fine.small {N : Net} {R : Rc} {c : Nat} (h : Fine N R c) (hc : c ≤ 1099511627776) : SmallR N R := fun s hs => by have := h.words s hs; omega

theorem in_cases (k : Int) (m : Nat) : (∃ j : Nat, k = j ∧ j < m) ∨ (inB k m = false ∧ (k < 0 ∨ (0 ≤ k ∧ (m : Int) ≤ k))) := by
  by_cases h : 0 ≤ k ∧ k < m
  · exact Or.inl ⟨k.toNat, by omega, by omega⟩
  · exact Or.inr ⟨by simp [inB]; omega, by omega⟩

set_option maxRecDepth 100000 in
set_option maxHeartbeats 4000000 in
theorem steps_calls {R : Rc} {d : Nat} (h : Sd wz base p v0 c sd cx cy x y n vs vr vw col w R R) (hf : Fine n R d) (hd : d ≤ 1099511627776) (k : Int) :
    Calls Tryz.prog 30 #[.pointer (some ⟨sd, 0, none⟩), .int .i64 k] w fun e w' => e = .returned (.bool true) ∧ ∃ R', Turn wz base p v0 c sd cx cy x y n vs vr vw col w R' R' w' ∧ Fine n R' (d + 1) := by
  obtain ⟨s0, s1, gS, gW, cS, cW, y0, y1⟩ := h.cells
  have hok := h.ok
  have hsm := hf.small hd
  rcases in_cases k n.workers.length with ⟨j, rfl, hj⟩ | ⟨hin, hout⟩
  · have HX := hide (sd_stepx h j hj hsm)
    have HY : Hid (∀ w1, Turn wz base p v0 c sd cx cy x y n vs vr vw col w (stepR n R j) R w1 → (w1.cell? ⟨sd, 0, none⟩ = some (.pointer (some ⟨x, 0, none⟩)) ∧ w1.cell? ⟨sd, 1, none⟩ = some (.pointer (some ⟨y, 0, none⟩)) ∧ ∃ gS gW cS cW, w1.cell? ⟨y, 0, none⟩ = some (.slice (some ⟨gS, 0, none⟩) n.streams.length cS) ∧ w1.cell? ⟨y, 1, none⟩ = some (.slice (some ⟨gW, 0, none⟩) n.workers.length cW)) ∧
        Calls Tryz.prog 61 #[.pointer (some ⟨y, 0, none⟩), .int .i64 j] w1 fun e w' => e = .returned (.int .i64 (stateOf n R j)) ∧ ∃ R', Turn wz base p v0 c sd cx cy x y n vs vr vw col w R' R' w' ∧ Fine n R' (d + 1)) := fun w1 ht => by
      obtain ⟨col1, h1, h2⟩ := ht.ex
      refine ⟨h1.cells, (sd_stepy h1 j hj hsm).mono fun e w' ⟨q1, q2⟩ => ⟨q1, stepR n R j, ?_, hf.stepR hok h.fits hj⟩⟩
      obtain ⟨col2, h3, h4⟩ := q2.ex
      exact ⟨col2, h3, h2.trans h4⟩
    have hj0 : (0 : Int) ≤ (j : Int) := by omega
    have hj1 : (j : Int) < (n.workers.length : Int) := by omega
    generalize stateOf n R j = st at *
    clear h hf hsm hok hd
    go_enter Tryz.func30, Tryz.ntmps30
    go_wp2_with fail
    refine (unhide HX).mono ?_
    rintro e w1 ⟨rfl, ht⟩
    obtain ⟨⟨s0, s1, gS, gW, cS, cW, y0, y1⟩, hc⟩ := HY.out w1 ht
    have HC := hide hc
    clear hc ht HX HY
    go_wp2_with fail
    refine (unhide HC).mono ?_
    rintro e w2 ⟨rfl, hpost⟩
    have HPo := hide hpost
    clear hpost
    go_wp2
    go_ret
    exact ⟨rfl, HPo.out⟩
  · have HX := hide (has_step_out h.at'.hx k hin)
    have HPo : Hid (∃ R', Turn wz base p v0 c sd cx cy x y n vs vr vw col w R' R' w ∧ Fine n R' (d + 1)) := ⟨R, h.refl, hf.mono (by omega)⟩
    clear h hf hsm hok hd hin
    rcases hout with hk | ⟨hk0, hk1⟩
    · go_enter Tryz.func30, Tryz.ntmps30
      go_wp2_with fail
      refine (unhide HX).mono ?_
      rintro e w1 ⟨rfl, rfl⟩
      go_wp2
      go_ret
      exact ⟨rfl, HPo.out⟩
    · go_enter Tryz.func30, Tryz.ntmps30
      go_wp2_with fail
      refine (unhide HX).mono ?_
      rintro e w1 ⟨rfl, rfl⟩
      go_wp2
      go_ret
      exact ⟨rfl, HPo.out⟩

end

end Go.Proofs.YthfdgdfnflilfaaGreatDoor
/- millracekeep: Bounded, the walk. -/
namespace Go.Proofs.YthfdgdfnflilfaaGreatDoor
open Go.RowKit Go.Conc

theorem below_box2 {w wr w' : World} {o : Obj} (h : Below (w.heap.size + 1) (w.alloc o) wr) (hb : Below wr.heap.size wr w') : Below (w.heap.size + 1) (w.alloc o) w' :=
  h.trans (hb.mono (by have := h.size; simp at this; omega))

theorem eqRegs (k : Nat) (a b c d a' b' c' d' : Int) (w : World) : (Op.equalIn (k + 2) 90 (.agg #[.int .i64 a, .int .i64 b, .int .i64 c, .int .i64 d]) (.agg #[.int .i64 a', .int .i64 b', .int .i64 c', .int .i64 d'])).run Tryz.prog w = .ok (a == a' && (b == b' && (c == c' && d == d'))) w := by
  have u3 := Tryz.underlying3
  have a3 := Tryz.isAgg3
  have z3 := Tryz.sizeOf3
  rw [Op.equalIn]
  simp only [Sem.run_bind, run_underlying Tryz.underlying90, Result.andThen_ok]
  simp only [Std.Legacy.Range.forIn_eq_forIn_range', Std.Legacy.Range.size, Nat.sub_zero, Nat.add_sub_cancel, Nat.div_one, List.range'_succ, List.range'_zero, List.forIn_cons, List.forIn_nil]
  go_simp
  by_cases h1 : a = a' <;> by_cases h2 : b = b' <;> by_cases h3 : c = c' <;> by_cases h4 : d = d' <;> simp [h1, h2, h3, h4]
theorem eqLook (a0 a1 a2 a3 a4 a5 a6 b0 b1 b2 b3 b4 b5 b6 : Int) (w : World) : (Op.equalIn 10000 123 (.agg #[.int .i64 a0, .int .i64 a1, .int .i64 a2, .int .i64 a3, .int .i64 a4, .int .i64 a5, .int .i64 a6]) (.agg #[.int .i64 b0, .int .i64 b1, .int .i64 b2, .int .i64 b3, .int .i64 b4, .int .i64 b5, .int .i64 b6])).run Tryz.prog w = .ok (a0 == b0 && ((a1 == b1 && (a2 == b2 && (a3 == b3 && a4 == b4))) && (a5 == b5 && a6 == b6))) w := by
  have u3 := Tryz.underlying3
  have i3 := Tryz.isAgg3
  have z3 := Tryz.sizeOf3
  have i42 := Tryz.isAgg90
  have z42 := Tryz.sizeOf90
  have hS : Tryz.prog.underlying 123 = some (.struct (Tryz.prog.fieldsOf 123)) := by kernel_rfl
  have hp : Tryz.prog.stoodInHeld 123 = false := Tryz.stoodInHeld123
  rw [show (10000 : Nat) = 9999 + 1 from rfl, run_equalIn_agg w 9999 123 _ _ hS hp]
  simp only [Program.fieldsOf, Tryz.underlying123]
  have er := fun (wx : World) => eqRegs 9997 a1 a2 a3 a4 b1 b2 b3 b4 wx
  go_simp
  by_cases h1 : a0 = b0 <;> by_cases h2 : a1 = b1 <;> by_cases h3 : a2 = b2 <;> by_cases h4 : a3 = b3 <;> by_cases h5 : a4 = b4 <;> by_cases h6 : a5 = b5 <;> by_cases h7 : a6 = b6 <;> simp [h1, h2, h3, h4, h5, h6, h7]
/-- A step, and what was there just ahead of it. -/
theorem bat_step {w : World} {box : Obj} {p g : Nat} {n : Net} {R : Rc} {M : List Int} {k : Nat} {wr wx : World} (h : BAt w box p g n R M k wr) (hx : Below wr.heap.size wr wx) (c : Nat) (hc : c < n.workers.length) (hk : k ≤ 1048576) :
    Calls Tryz.prog 19 #[.pointer (some ⟨p, 0, none⟩), .int .i64 c] wx fun e w' => e = .returned (.tuple #[.int .i64 (stateOf n R c), .int .i64 0]) ∧ BAt w box p g n (stepR n R c) M (k + 1) w' ∧ wx.heap.size ≤ w'.heap.size ∧ ∀ b, wr.heap.size ≤ b → b < wx.heap.size → w'.heap[b]? = wx.heap[b]? := by
  have hsm : SmallR n R := fun s hs => by have := h.inv.words s hs; omega
  refine (has_step (h.has.add hx) c hc hsm).mono fun e w' ⟨h1, h2, h3⟩ => ⟨h1, ?_, h3.size, fun b hb hb' => h3.block b hb' (fun e => e (Or.inr ⟨hb, hb'⟩))⟩
  refine (h.below hx).keeps (h2.mono fun b hb => Or.inl hb) (Fr.mono h3 fun b _ hb hA => hb (Or.inl hA)) ?_
  unfold stepR
  split
  · exact h.inv.step (has_len h.has).2.1 c
  · exact h.inv.mono

theorem bat_grow {w : World} {box : Obj} {p g : Nat} {n : Net} {R : Rc} {M : List Int} {k : Nat} {wr : World} (h : BAt w box p g n R M k wr) :
    Calls Tryz.prog 35 #[.pointer (some ⟨p, 0, none⟩)] wr fun e w' =>
      (∃ b : Int, (b = 3 ∨ b = 4) ∧ e = .returned (.tuple #[.int .i64 0, .int .i64 b]) ∧ BAt w box p g n R M (k + 1) w') ∨
      (∃ t : Nat, t < n.streams.length ∧ goesB n R n.workers.length = false ∧ e = .returned (.tuple #[.int .i64 (t : Nat), .int .i64 0]) ∧ 0 ≤ M.getD t 0 ∧ M.getD t 0 < 40 ∧ w'.cell? ⟨g, t, none⟩ = some (.int .i64 (M.getD t 0)) ∧ w'.frozen? ⟨g, t, none⟩ = false ∧ BAt w box p g n (growS R t) (M.set t (M.getD t 0 + 1)) (k + 1) (w'.setCell ⟨g, t, none⟩ (.int .i64 (M.getD t 0 + 1)))) := by
  refine (has_grow h.has h.inv.room).mono fun e w' ⟨a, b, o, h1, h2, h3, h4⟩ => ?_
  have hlen := has_len h.has
  cases o with
  | none =>
    have hb := grows_err h1
    have ha : a = 0 := by cases h1 <;> rfl
    subst ha
    exact Or.inl ⟨b, hb, h2, h.keeps h3 h4 h.inv.mono⟩
  | some t =>
    obtain ⟨rfl, rfl, ht, hr⟩ := grows_ok h1
    have hgo : goesB n R n.workers.length = false := by cases h1; assumption
    have hi := h.inv.grow hlen.2.1 hlen.2.2 h1
    have hh : heldB n t = true := by
      cases h1 with
      | grows h1 h2 h3 => obtain ⟨-, q1, q2⟩ := needs_stream hlen.2.2 h2.2.1; simp [heldB, q1, q2]
    have hq := h.inv.grew.2 t ht
    rw [if_pos hh] at hq
    have hv := valid_room hlen.2.2 t ht
    rw [getD_eq _ _ _ ht] at hq
    have hrow : w'.heap[g]? = some (.cells (intRow M).toArray 3 (0, 0)) := (h4.block g (lt_of_blk h.row) (fun e => e (Or.inr rfl))).trans h.row
    have htM : t < M.length := by rw [h.inv.grew.1]; exact ht
    have hsz := h.bel.size
    simp at hsz
    refine Or.inr ⟨t, ht, hgo, h2, hq.2.2.2, by omega, ?_, row_frozen hrow t, ⟨h3.set (Or.inr rfl) _, hi, ?_, ?_, h.gt⟩⟩
    · exact row_cell hrow (by rw [intRow_get _ _ htM, getD_eq _ _ _ htM])
    · rw [blk_set hrow, intRow_set]
    · exact (h.bel.trans (Keeps.below h4 (by omega) fun b hb => Or.inl hb)).setCell (p := ⟨g, t, none⟩) h.gt _

end Go.Proofs.YthfdgdfnflilfaaGreatDoor
/- The law's side: rooms, looks. -/
namespace Go.Proofs.YthfdgdfnflilfaaGreatDoor
open Go.RowKit Go.Conc

section
variable {wz : World} {base p : Nat} {v0 : Value} {c sd cx cy x y : Nat} {n : Net} {vs vr vw : Value} {col : Nat → Nat} {w : World} {Rx Ry : Rc}

/-- A stream of the document's race. -/
theorem Sd.stream (h : Sd wz base p v0 c sd cx cy x y n vs vr vw col w Rx Ry) (s : Nat) (hs : s < n.streams.length) : ∃ gS cS av cv, w.cell? ⟨y, 0, none⟩ = some (.slice (some ⟨gS, 0, none⟩) n.streams.length cS) ∧ w.cell? ⟨gS, s * 5, none⟩ = some (.bool (srcd n s)) ∧ w.cell? ⟨gS, s * 5 + 1, none⟩ = some (.bool (used n s)) ∧ w.cell? ⟨gS, s * 5 + 2, none⟩ = some (.slice av (Ry.s s).words.length cv) ∧ w.cell? ⟨gS, s * 5 + 3, none⟩ = some (.int .i64 ((Ry.s s).read : Int)) ∧ w.cell? ⟨gS, s * 5 + 4, none⟩ = some (.int .i64 ((Ry.s s).room : Int)) ∧ (Ry.s s).read ≤ (Ry.s s).words.length := by
  obtain ⟨L, rfl, h2, -, -⟩ := h.at'.hy.ex
  obtain ⟨av, cv, hv⟩ := own_slice (h2.words s hs)
  have c2 := h2.sc hs 2 _ (by decide) rfl
  rw [hv] at c2
  exact ⟨L.gS, L.cS, av, cv, (blk_cell (l := [_, _]) h2.blk 0 _ rfl).1, h2.sc hs 0 _ (by decide) rfl, h2.sc hs 1 _ (by decide) rfl, c2, h2.sc hs 3 _ (by decide) rfl, h2.sc hs 4 _ (by decide) rfl, h2.le s hs⟩

set_option maxRecDepth 100000 in
set_option maxHeartbeats 4000000 in
theorem rooms_calls {R : Rc} {d : Nat} (h : Sd wz base p v0 c sd cx cy x y n vs vr vw col w R R) (hf : Fine n R d) (hd : d ≤ 1099511627776) (k : Int) :
    Calls Tryz.prog 34 #[.pointer (some ⟨sd, 0, none⟩), .int .i64 k] w fun e w' => e = .returned (.bool true) ∧ Turn wz base p v0 c sd cx cy x y n vs vr vw col w R R w' := by
  obtain ⟨s0, s1, gS, gW, cS, cW, y0, y1⟩ := h.cells
  rcases in_cases k n.streams.length with ⟨j, rfl, hj⟩ | ⟨hin, hout⟩
  · have HX := hide (has_room h.at'.hx j hj)
    have hlen := hf.words j hj
    have HY : Hid (∀ w1, Below w.heap.size w w1 → w1.cell? ⟨sd, 0, none⟩ = some (.pointer (some ⟨x, 0, none⟩)) ∧ w1.cell? ⟨sd, 1, none⟩ = some (.pointer (some ⟨y, 0, none⟩)) ∧ ∃ gS cS av cv, w1.cell? ⟨y, 0, none⟩ = some (.slice (some ⟨gS, 0, none⟩) n.streams.length cS) ∧ w1.cell? ⟨gS, j * 5, none⟩ = some (.bool (srcd n j)) ∧ w1.cell? ⟨gS, j * 5 + 1, none⟩ = some (.bool (used n j)) ∧ w1.cell? ⟨gS, j * 5 + 2, none⟩ = some (.slice av (R.s j).words.length cv) ∧ w1.cell? ⟨gS, j * 5 + 3, none⟩ = some (.int .i64 ((R.s j).read : Int)) ∧ w1.cell? ⟨gS, j * 5 + 4, none⟩ = some (.int .i64 ((R.s j).room : Int)) ∧ (R.s j).read ≤ (R.s j).words.length) := fun w1 hb => by
      have h1 := h.belowQ 22 hb
      obtain ⟨q1, q2, -⟩ := h1.cells
      exact ⟨q1, q2, h1.stream j hj⟩
    have HPo : Hid (∀ w1, Below w.heap.size w w1 → Turn wz base p v0 c sd cx cy x y n vs vr vw col w R R w1) := fun w1 hb => h.below hb
    have hj0 : (0 : Int) ≤ (j : Int) := by omega
    have hj1 : (j : Int) < (n.streams.length : Int) := by omega
    clear h hf s0 s1 y0 y1 gS cS gW cW
    cases hsr : srcd n j
    · cases hus : used n j
      · have hh : heldB n j = false := by simp [heldB, hus]
        rw [hh] at HX
        simp only [Bool.false_eq_true, if_false] at HX
        rw [hsr, hus] at HY
        go_enter Tryz.func34, Tryz.ntmps34
        obtain ⟨s0, -⟩ := HY.out w (Below.refl _ _)
        go_wp2_with fail
        refine (unhide HX).mono ?_
        rintro e w1 ⟨rfl, hb⟩
        obtain ⟨s0, s1, gS, cS, av, cv, y0, c0, c1, c2, c3, c4, hle⟩ := HY.out w1 hb
        have HPo1 := hide (fun o => HPo.out _ (hb.alloc hb.size o))
        clear HX HY hb HPo
        go_wp2
        go_ret
        exact ⟨rfl, HPo1.out _⟩
      · have hh : heldB n j = true := by simp [heldB, hus, hsr]
        rw [hh] at HX
        simp only [if_true] at HX
        rw [hsr, hus] at HY
        go_enter Tryz.func34, Tryz.ntmps34
        obtain ⟨s0, -⟩ := HY.out w (Below.refl _ _)
        go_wp2_with fail
        refine (unhide HX).mono ?_
        rintro e w1 ⟨rfl, hb⟩
        obtain ⟨s0, s1, gS, cS, av, cv, y0, c0, c1, c2, c3, c4, hle⟩ := HY.out w1 hb
        have HPo1 := hide (fun o => HPo.out _ (hb.alloc hb.size o))
        have wr1 : wrap64 (((R.s j).words.length : Int) - ((R.s j).read : Int)) = (((R.s j).words.length - (R.s j).read : Nat) : Int) := by unfold wrap64; omega
        clear HX HY hb HPo hlen
        go_wp2
        go_ret
        exact ⟨rfl, HPo1.out _⟩
    · have hh : heldB n j = false := by simp [heldB, hsr]
      rw [hh] at HX
      simp only [Bool.false_eq_true, if_false] at HX
      rw [hsr] at HY
      go_enter Tryz.func34, Tryz.ntmps34
      obtain ⟨s0, -⟩ := HY.out w (Below.refl _ _)
      go_wp2_with fail
      refine (unhide HX).mono ?_
      rintro e w1 ⟨rfl, hb⟩
      obtain ⟨s0, s1, gS, cS, av, cv, y0, c0, c1, c2, c3, c4, hle⟩ := HY.out w1 hb
      have HPo1 := hide (fun o => HPo.out _ (hb.alloc hb.size o))
      clear HX HY hb HPo
      go_wp2
      go_ret
      exact ⟨rfl, HPo1.out _⟩
  · have HX := hide (has_room_out h.at'.hx k hin)
    have HPo := hide h.refl
    clear h hf hin hd
    rcases hout with hk | ⟨hk0, hk1⟩
    · go_enter Tryz.func34, Tryz.ntmps34
      go_wp2_with fail
      refine (unhide HX).mono ?_
      rintro e w1 ⟨rfl, rfl⟩
      go_wp2
      go_ret
      exact ⟨rfl, HPo.out⟩
    · go_enter Tryz.func34, Tryz.ntmps34
      go_wp2_with fail
      refine (unhide HX).mono ?_
      rintro e w1 ⟨rfl, rfl⟩
      go_wp2
      go_ret
      exact ⟨rfl, HPo.out⟩

end

end Go.Proofs.YthfdgdfnflilfaaGreatDoor
/- The law's side: looks. -/
namespace Go.Proofs.YthfdgdfnflilfaaGreatDoor
open Go.RowKit Go.Conc

section
variable {wz : World} {base p : Nat} {v0 : Value} {c sd cx cy x y : Nat} {n : Net} {vs vr vw : Value} {col : Nat → Nat} {w : World} {Rx Ry : Rc}

/-- A worker of the document's race. -/
theorem Sd.worker (h : Sd wz base p v0 c sd cx cy x y n vs vr vw col w Rx Ry) (k : Nat) (hk : k < n.workers.length) : ∃ gW cW vc, w.cell? ⟨y, 1, none⟩ = some (.slice (some ⟨gW, 0, none⟩) n.workers.length cW) ∧ w.cell? ⟨gW, k * 7, none⟩ = some vc ∧ w.cell? ⟨gW, k * 7 + 1, none⟩ = some (.int .i64 ((Ry.w k).place : Int)) ∧ w.cell? ⟨gW, k * 7 + 2, none⟩ = some (.int .i64 ((Ry.w k).r 0)) ∧ w.cell? ⟨gW, k * 7 + 3, none⟩ = some (.int .i64 ((Ry.w k).r 1)) ∧ w.cell? ⟨gW, k * 7 + 4, none⟩ = some (.int .i64 ((Ry.w k).r 2)) ∧ w.cell? ⟨gW, k * 7 + 5, none⟩ = some (.int .i64 ((Ry.w k).r 3)) ∧ w.cell? ⟨gW, k * 7 + 6, none⟩ = some (.int .i64 ((Ry.w k).steps)) ∧ ∃ a l cc, vc = .slice a l cc := by
  obtain ⟨L, rfl, h2, -, -⟩ := h.at'.hy.ex
  obtain ⟨ca, cc, hvc, -⟩ := (h2.code k hk).openD
  exact ⟨L.gW, L.cW, L.VC k, (blk_cell (l := [_, _]) h2.blk 1 _ rfl).1, h2.wc hk 0 _ (by decide) rfl, h2.wc hk 1 _ (by decide) rfl, h2.wc hk 2 _ (by decide) rfl, h2.wc hk 3 _ (by decide) rfl, h2.wc hk 4 _ (by decide) rfl, h2.wc hk 5 _ (by decide) rfl, h2.wc hk 6 _ (by decide) rfl, _, _, _, hvc⟩

set_option maxRecDepth 100000 in
set_option maxHeartbeats 4000000 in
theorem looks_calls {R : Rc} (h : Sd wz base p v0 c sd cx cy x y n vs vr vw col w R R) (k : Int) :
    Calls Tryz.prog 32 #[.pointer (some ⟨sd, 0, none⟩), .int .i64 k] w fun e w' => e = .returned (.bool true) ∧ Turn wz base p v0 c sd cx cy x y n vs vr vw col w R R w' := by
  obtain ⟨s0, s1, gS, gW, cS, cW, y0, y1⟩ := h.cells
  rcases in_cases k n.workers.length with ⟨j, rfl, hj⟩ | ⟨hin, hout⟩
  · have HX := hide (has_look h.at'.hx j hj)
    have HY : Hid (∀ w1, Below w.heap.size w w1 → (w1.cell? ⟨sd, 0, none⟩ = some (.pointer (some ⟨x, 0, none⟩)) ∧ w1.cell? ⟨sd, 1, none⟩ = some (.pointer (some ⟨y, 0, none⟩))) ∧ (∃ gW cW vc, w1.cell? ⟨y, 1, none⟩ = some (.slice (some ⟨gW, 0, none⟩) n.workers.length cW) ∧ w1.cell? ⟨gW, j * 7, none⟩ = some vc ∧ w1.cell? ⟨gW, j * 7 + 1, none⟩ = some (.int .i64 ((R.w j).place : Int)) ∧ w1.cell? ⟨gW, j * 7 + 2, none⟩ = some (.int .i64 ((R.w j).r 0)) ∧ w1.cell? ⟨gW, j * 7 + 3, none⟩ = some (.int .i64 ((R.w j).r 1)) ∧ w1.cell? ⟨gW, j * 7 + 4, none⟩ = some (.int .i64 ((R.w j).r 2)) ∧ w1.cell? ⟨gW, j * 7 + 5, none⟩ = some (.int .i64 ((R.w j).r 3)) ∧ w1.cell? ⟨gW, j * 7 + 6, none⟩ = some (.int .i64 ((R.w j).steps)) ∧ ∃ a l cc, vc = .slice a l cc) ∧
        Calls Tryz.prog 63 #[.pointer (some ⟨y, 0, none⟩), .int .i64 j] w1 fun e w' => e = .returned (.int .i64 (stateOf n R j)) ∧ Below w1.heap.size w1 w') := fun w1 hb => by
      have h1 := h.belowQ 22 hb
      obtain ⟨q1, q2, -⟩ := h1.cells
      exact ⟨⟨q1, q2⟩, h1.worker j hj, rhas_state h1.at'.hy j hj⟩
    have HPo : Hid (∀ w1, Below w.heap.size w w1 → Turn wz base p v0 c sd cx cy x y n vs vr vw col w R R w1) := fun w1 hb => h.below hb
    have hj0 : (0 : Int) ≤ (j : Int) := by omega
    have hj1 : (j : Int) < (n.workers.length : Int) := by omega
    simp only [lookVal] at HX
    generalize (stateOf n R j : Int) = st at *
    generalize ((R.w j).place : Int) = a0 at *
    generalize (R.w j).r 0 = a1 at *
    generalize (R.w j).r 1 = a2 at *
    generalize (R.w j).r 2 = a3 at *
    generalize (R.w j).r 3 = a4 at *
    generalize (R.w j).steps = a5 at *
    clear h s1 y0 y1 gS cS gW cW
    have hlk : ∀ wx : World, (Op.equalIn 10000 90 (.agg #[.int .i64 a1, .int .i64 a2, .int .i64 a3, .int .i64 a4]) (.agg #[.int .i64 a1, .int .i64 a2, .int .i64 a3, .int .i64 a4])).run Tryz.prog wx = .ok true wx := fun wx => by
      have := eqRegs 9998 a1 a2 a3 a4 a1 a2 a3 a4 wx
      simpa using this
    go_enter Tryz.func32, Tryz.ntmps32
    go_wp2_with fail
    refine (unhide HX).mono ?_
    rintro e w1 ⟨rfl, hb⟩
    obtain ⟨⟨s0, s1⟩, ⟨gW, cW, vc, y1, d0, d1, d2, d3, d4, d5, d6, va, vl, vcc, rfl⟩, -⟩ := HY.out w1 hb
    have z0 := lt_of_cell s0
    have z1 := lt_of_cell y1
    have z2 := lt_of_cell d0
    have HB1 := hide hb
    clear hb HX
    go_upto_region 5 with fail
    have hk3 : ((w1.alloc (.cells #[.int .i64 a0, .int .i64 a1, .int .i64 a2, .int .i64 a3, .int .i64 a4, .int .i64 a5, .int .i64 st] 123)).alloc (.cells #[.slice va vl vcc, .int .i64 a0, .int .i64 a1, .int .i64 a2, .int .i64 a3, .int .i64 a4, .int .i64 a5] 92)).heap[w1.heap.size]? = some (.cells #[.int .i64 a0, .int .i64 a1, .int .i64 a2, .int .i64 a3, .int .i64 a4, .int .i64 a5, .int .i64 st] 123 (0, 0)) := heapOld (by simp) (heapNew rfl)
    have hx3 : ((w1.alloc (.cells #[.int .i64 a0, .int .i64 a1, .int .i64 a2, .int .i64 a3, .int .i64 a4, .int .i64 a5, .int .i64 st] 123)).alloc (.cells #[.slice va vl vcc, .int .i64 a0, .int .i64 a1, .int .i64 a2, .int .i64 a3, .int .i64 a4, .int .i64 a5] 92)).heap[w1.heap.size + 1]? = some (.cells #[.slice va vl vcc, .int .i64 a0, .int .i64 a1, .int .i64 a2, .int .i64 a3, .int .i64 a4, .int .i64 a5] 92 (0, 0)) := heapNew (by simp)
    have hb3 : Below w.heap.size w ((w1.alloc (.cells #[.int .i64 a0, .int .i64 a1, .int .i64 a2, .int .i64 a3, .int .i64 a4, .int .i64 a5, .int .i64 st] 123)).alloc (.cells #[.slice va vl vcc, .int .i64 a0, .int .i64 a1, .int .i64 a2, .int .i64 a3, .int .i64 a4, .int .i64 a5] 92)) := HB1.out.trans ((((Below.refl _ _).alloc (Nat.le_refl _) _).alloc (by simp) _).mono HB1.out.size)
    generalize (w1.alloc (.cells #[.int .i64 a0, .int .i64 a1, .int .i64 a2, .int .i64 a3, .int .i64 a4, .int .i64 a5, .int .i64 st] 123)).alloc (.cells #[.slice va vl vcc, .int .i64 a0, .int .i64 a1, .int .i64 a2, .int .i64 a3, .int .i64 a4, .int .i64 a5] 92) = w3 at *
    generalize w1.heap.size = kb at *
    clear HB1 s0 s1 y1 d0 d1 d2 d3 d4 d5 d6 z0 z1 z2
    have HSt : Hid (Calls Tryz.prog 63 #[.pointer (some ⟨y, 0, none⟩), .int .i64 j] w3.drew fun e w' => e = .returned (.int .i64 st) ∧ (w'.cell? ⟨sd, 1, none⟩ = some (.pointer (some ⟨y, 0, none⟩)) ∧ w'.cell? ⟨kb, 0, none⟩ = some (.int .i64 a0) ∧ w'.cell? ⟨kb, 1, none⟩ = some (.int .i64 a1) ∧ w'.cell? ⟨kb, 2, none⟩ = some (.int .i64 a2) ∧ w'.cell? ⟨kb, 3, none⟩ = some (.int .i64 a3) ∧ w'.cell? ⟨kb, 4, none⟩ = some (.int .i64 a4) ∧ w'.cell? ⟨kb, 5, none⟩ = some (.int .i64 a5) ∧ w'.cell? ⟨kb, 6, none⟩ = some (.int .i64 st) ∧ w'.cell? ⟨kb + 1, 1, none⟩ = some (.int .i64 a0) ∧ w'.cell? ⟨kb + 1, 2, none⟩ = some (.int .i64 a1) ∧ w'.cell? ⟨kb + 1, 3, none⟩ = some (.int .i64 a2) ∧ w'.cell? ⟨kb + 1, 4, none⟩ = some (.int .i64 a3) ∧ w'.cell? ⟨kb + 1, 5, none⟩ = some (.int .i64 a4) ∧ w'.cell? ⟨kb + 1, 6, none⟩ = some (.int .i64 a5)) ∧ Turn wz base p v0 c sd cx cy x y n vs vr vw col w R R w') := by
      have hb4 : Below w.heap.size w w3.drew := hb3.drew
      refine (HY.out w3.drew hb4).2.2.mono fun e w' ⟨q1, q2⟩ => ⟨q1, ?_, HPo.out w' (hb4.trans (q2.mono hb4.size))⟩
      have k4 := (q2.block _ (lt_of_blk hk3)).trans hk3
      have x4 := (q2.block _ (lt_of_blk hx3)).trans hx3
      exact ⟨((HY.out w' (hb4.trans (q2.mono hb4.size))).1).2, (blk_cell (l := [_, _, _, _, _, _, _]) k4 0 _ rfl).1, (blk_cell (l := [_, _, _, _, _, _, _]) k4 1 _ rfl).1, (blk_cell (l := [_, _, _, _, _, _, _]) k4 2 _ rfl).1, (blk_cell (l := [_, _, _, _, _, _, _]) k4 3 _ rfl).1, (blk_cell (l := [_, _, _, _, _, _, _]) k4 4 _ rfl).1, (blk_cell (l := [_, _, _, _, _, _, _]) k4 5 _ rfl).1, (blk_cell (l := [_, _, _, _, _, _, _]) k4 6 _ rfl).1, (blk_cell (l := [_, _, _, _, _, _, _]) x4 1 _ rfl).1, (blk_cell (l := [_, _, _, _, _, _, _]) x4 2 _ rfl).1, (blk_cell (l := [_, _, _, _, _, _, _]) x4 3 _ rfl).1, (blk_cell (l := [_, _, _, _, _, _, _]) x4 4 _ rfl).1, (blk_cell (l := [_, _, _, _, _, _, _]) x4 5 _ rfl).1, (blk_cell (l := [_, _, _, _, _, _, _]) x4 6 _ rfl).1⟩
    obtain ⟨-, s1⟩ := (HY.out w3 hb3).1
    have k0 := (blk_cell (l := [_, _, _, _, _, _, _]) hk3 0 _ rfl).1
    have k1 := (blk_cell (l := [_, _, _, _, _, _, _]) hk3 1 _ rfl).1
    have k2 := (blk_cell (l := [_, _, _, _, _, _, _]) hk3 2 _ rfl).1
    have k3 := (blk_cell (l := [_, _, _, _, _, _, _]) hk3 3 _ rfl).1
    have k4 := (blk_cell (l := [_, _, _, _, _, _, _]) hk3 4 _ rfl).1
    have k5 := (blk_cell (l := [_, _, _, _, _, _, _]) hk3 5 _ rfl).1
    have k6 := (blk_cell (l := [_, _, _, _, _, _, _]) hk3 6 _ rfl).1
    have x1 := (blk_cell (l := [_, _, _, _, _, _, _]) hx3 1 _ rfl).1
    have x2 := (blk_cell (l := [_, _, _, _, _, _, _]) hx3 2 _ rfl).1
    have x3 := (blk_cell (l := [_, _, _, _, _, _, _]) hx3 3 _ rfl).1
    have x4 := (blk_cell (l := [_, _, _, _, _, _, _]) hx3 4 _ rfl).1
    have x5 := (blk_cell (l := [_, _, _, _, _, _, _]) hx3 5 _ rfl).1
    have x6 := (blk_cell (l := [_, _, _, _, _, _, _]) hx3 6 _ rfl).1
    clear hk3 hx3 hb3 HY HPo
    go_region_held3 (fun w' => w'.cell? ⟨sd, 1, none⟩ = some (.pointer (some ⟨y, 0, none⟩)) ∧ w'.cell? ⟨kb, 0, none⟩ = some (.int .i64 a0) ∧ w'.cell? ⟨kb, 1, none⟩ = some (.int .i64 a1) ∧ w'.cell? ⟨kb, 2, none⟩ = some (.int .i64 a2) ∧ w'.cell? ⟨kb, 3, none⟩ = some (.int .i64 a3) ∧ w'.cell? ⟨kb, 4, none⟩ = some (.int .i64 a4) ∧ w'.cell? ⟨kb, 5, none⟩ = some (.int .i64 a5) ∧ w'.cell? ⟨kb, 6, none⟩ = some (.int .i64 st) ∧ w'.cell? ⟨kb + 1, 1, none⟩ = some (.int .i64 a0) ∧ w'.cell? ⟨kb + 1, 2, none⟩ = some (.int .i64 a1) ∧ w'.cell? ⟨kb + 1, 3, none⟩ = some (.int .i64 a2) ∧ w'.cell? ⟨kb + 1, 4, none⟩ = some (.int .i64 a3) ∧ w'.cell? ⟨kb + 1, 5, none⟩ = some (.int .i64 a4) ∧ w'.cell? ⟨kb + 1, 6, none⟩ = some (.int .i64 a5)) (first | exact ⟨s1, k0, k1, k2, k3, k4, k5, k6, x1, x2, x3, x4, x5, x6⟩ | assumption | go_keep)
      ((go_at_call 63; refine (unhide HSt).mono ?_; rintro e w4 ⟨rfl, hS4, hT4⟩; have HT4 := hide hT4; clear hT4))
    go_wp2
    go_ret
    exact ⟨rfl, HT4.out⟩
  · have HX := hide (has_look_out h.at'.hx k hin)
    have HY : Hid (∀ w1, Below w.heap.size w w1 → w1.cell? ⟨sd, 0, none⟩ = some (.pointer (some ⟨x, 0, none⟩)) ∧ w1.cell? ⟨sd, 1, none⟩ = some (.pointer (some ⟨y, 0, none⟩)) ∧ ∃ gS gW cS cW, w1.cell? ⟨y, 0, none⟩ = some (.slice (some ⟨gS, 0, none⟩) n.streams.length cS) ∧ w1.cell? ⟨y, 1, none⟩ = some (.slice (some ⟨gW, 0, none⟩) n.workers.length cW)) := fun w1 hb => (h.belowQ 22 hb).cells
    have HPo : Hid (∀ w1, Below w.heap.size w w1 → Turn wz base p v0 c sd cx cy x y n vs vr vw col w R R w1) := fun w1 hb => h.below hb
    have hlk : ∀ wx : World, (Op.equalIn 10000 123 (.agg #[.int .i64 0, .int .i64 0, .int .i64 0, .int .i64 0, .int .i64 0, .int .i64 0, .int .i64 0]) (.agg #[.int .i64 0, .int .i64 0, .int .i64 0, .int .i64 0, .int .i64 0, .int .i64 0, .int .i64 0])).run Tryz.prog wx = .ok true wx := fun wx => by
      have := eqLook 0 0 0 0 0 0 0 0 0 0 0 0 0 0 wx
      simpa using this
    clear h hin s1 y0 y1
    rcases hout with hk | ⟨hk0, hk1⟩
    · go_enter Tryz.func32, Tryz.ntmps32
      go_wp2_with fail
      refine (unhide HX).mono ?_
      rintro e w1 ⟨rfl, hb⟩
      have HPo1 := hide (fun o => HPo.out _ (hb.alloc hb.size o))
      clear HX HY hb HPo
      go_wp2
      go_ret
      exact ⟨rfl, HPo1.out _⟩
    · go_enter Tryz.func32, Tryz.ntmps32
      go_wp2_with fail
      refine (unhide HX).mono ?_
      rintro e w1 ⟨rfl, hb⟩
      obtain ⟨s0, s1, gS, gW, cS, cW, y0, y1⟩ := HY.out w1 hb
      have HPo1 := hide (fun o => HPo.out _ (hb.alloc hb.size o))
      have z0 := lt_of_cell s0
      have z1 := lt_of_cell y1
      clear HX HY hb HPo
      go_wp2
      go_ret
      exact ⟨rfl, HPo1.out _⟩

end

end Go.Proofs.YthfdgdfnflilfaaGreatDoor
/- append, and what stays of the old row. -/
namespace Go.Proofs.YthfdgdfnflilfaaGreatDoor
open Go.RowKit Go.Conc

section
variable {P : Program} (w : World)

/-- As run_append_lies; and where the row is a new one, all that was there stays. -/
theorem run_append_keep (t ty : TypeId) (base : Nat) (e : TypeId) (i : TypeInfo) (z : Value) (size bytes : Nat) (ht : P.underlying t = some (.slice e)) (hi : P.info? e = some i) (hz : i.zero = some z)
    (hsize : i.size = size) (hby : i.bytes = bytes) (hzs : z.cells.size = size) (hsz : 0 < size)
    (v : Value) (n : Nat) (xs : List Value) (hown : w.ownsRow base e size v n xs)
    (ad : Addr) (m c : Nat) (news : List Value) (hl : news.length = m * size) (hnews : ∀ j u, news[j]? = some u → w.cell? (ad.add j) = some u) (h1 : ∀ u ∈ news, u.oneCell' = true)
    (hm : 0 < m) (h63 : n + m ≤ maxLen) (hbytes : (n + m) * bytes ≤ 140737488355328) (hbase : base ≤ w.heap.size) (H : Nat) (hH : w.heap.size = H) :
    ∃ g cap w', (Builtin.append_ #[t, t] ty #[v, .slice (some ad) m c]).run P w = .ok (.slice (some ⟨g, 0, none⟩) (n + m) cap) w' ∧
      w'.ownsRow base e size (.slice (some ⟨g, 0, none⟩) (n + m) cap) (n + m) (xs ++ news) ∧ w.grownBy w' v.ownBlock ∧ (v.ownBlock = some g ∨ (g = H ∧ ∀ b, b < H → w'.heap[b]? = w.heap[b]?)) ∧ g < w'.heap.size := by
  obtain ⟨g, cap, w', hr, h2, h3, h4, h5⟩ := run_append_lies (P := P) w t ty base e i z size bytes ht hi hz hsize hby hzs hsz v n xs hown ad m c news hl hnews h1 hm h63 hbytes hbase H hH
  refine ⟨g, cap, w', hr, h2, h3, ?_, h5⟩
  rcases h4 with h4 | h4
  · exact Or.inl h4
  · refine Or.inr ⟨h4, fun b hb => ?_⟩
    by_cases hne : v.ownBlock = some b
    · subst hsize
      subst hby
      subst hH
      have h63' : n + m ≤ 9223372036854775807 := by simp only [maxLen] at h63; omega
      rcases hown.2 with ⟨rfl, rfl⟩ | ⟨g0, cap0, cur, rfl, hbg, hg, hnc, hcm, hcs, htake⟩
      · cases hne
      · by_cases hroom : n + m ≤ cap0
        · have hfit : n * i.size + news.length ≤ cur.size := by rw [hl, hcs, ← Nat.add_mul]; exact Nat.mul_le_mul_right _ hroom
          have hr' := run_append_room (P := P) w t ty e i ht hi g0 n cap0 cur hg ad m c news hl hnews h1 hroom hfit
          rw [hr'] at hr
          simp only [Result.ok.injEq, Value.slice.injEq, Option.some.injEq, Addr.mk.injEq] at hr
          have e1 : g0 = g := hr.1.1.1
          have := lt_of_blk hg
          omega
        · have holds : ∀ j u, xs[j]? = some u → w.cell? ((⟨g0, 0, none⟩ : Addr).add j) = some u := hown.cells (g := g0) rfl
          have hr' := run_append_grow (P := P) w t ty e i z ht hi hz ⟨g0, 0, none⟩ n cap0 xs hown.1 holds ad m c news hl hnews (by omega) (by omega) (growslice_fits (by omega) hbytes)
          rw [hr'] at hr
          simp only [Result.ok.injEq] at hr
          rw [← hr.2]
          exact Below.heap_alloc w.drew _ b hb
    · exact h3.block b (by omega) (fun e => hne e.symm)

theorem wp_append_keep {o : Oper} {a : Act} {K : Act → World → Prop} {Q : Exit → Act → World → Prop} (s x : Operand) (t : TypeId)
    (ho : o.op = .call { callee := .builtin .append, args := #[s, x], argTypes := #[t, t] })
    (base : Nat) (e : TypeId) (i : TypeInfo) (z : Value) (size bytes : Nat) (ht : P.underlying t = some (.slice e)) (hi : P.info? e = some i) (hz : i.zero = some z)
    (hsize : i.size = size) (hby : i.bytes = bytes) (hzs : z.cells.size = size) (hsz : 0 < size)
    (v : Value) (n : Nat) (xs : List Value) (hs : a.eval s = v) (hown : w.ownsRow base e size v n xs)
    (ad : Addr) (m c : Nat) (news : List Value) (hx : a.eval x = .slice (some ad) m c) (hl : news.length = m * size) (hnews : ∀ j u, news[j]? = some u → w.cell? (ad.add j) = some u) (h1 : ∀ u ∈ news, u.oneCell' = true)
    (hm : 0 < m) (h63 : n + m ≤ maxLen) (hbytes : (n + m) * bytes ≤ 140737488355328) (hbase : base ≤ w.heap.size) (H : Nat) (hH : w.heap.size = H)
    (h : ∀ g cap w', w'.ownsRow base e size (.slice (some ⟨g, 0, none⟩) (n + m) cap) (n + m) (xs ++ news) → w.grownBy w' v.ownBlock → (v.ownBlock = some g ∨ (g = H ∧ ∀ b, b < H → w'.heap[b]? = w.heap[b]?)) → g < w'.heap.size → K (a.put o.dst (.slice (some ⟨g, 0, none⟩) (n + m) cap)) w') : o.wp P a w K Q := by
  obtain ⟨g, cap, w', hr, h2, h3, h4, h5⟩ := run_append_keep (P := P) w t o.type base e i z size bytes ht hi hz hsize hby hzs hsz v n xs hown ad m c news hl hnews h1 hm h63 hbytes hbase H hH
  unfold Oper.wp execOp
  simp only [ho, resolve, invoke, builtin, Sem.run_bind, Sem.run_pure, Result.andThen_ok, List.map_toArray, List.map_cons, List.map_nil, hs, hx, hr]
  exact h g cap w' h2 h3 h4 h5

theorem wpList_append_keep {ops : Array Oper} {rest : List Oper} {o : Oper} {a : Act} {Q : Exit → Act → World → Prop} (hgd : o.guard = none) (s x : Operand) (t : TypeId)
    (ho : o.op = .call { callee := .builtin .append, args := #[s, x], argTypes := #[t, t] })
    (base : Nat) (e : TypeId) (i : TypeInfo) (z : Value) (size bytes : Nat) (ht : P.underlying t = some (.slice e)) (hi : P.info? e = some i) (hz : i.zero = some z)
    (hsize : i.size = size) (hby : i.bytes = bytes) (hzs : z.cells.size = size) (hsz : 0 < size)
    (v : Value) (n : Nat) (xs : List Value) (hs : a.eval s = v) (hown : w.ownsRow base e size v n xs)
    (ad : Addr) (m c : Nat) (news : List Value) (hx : a.eval x = .slice (some ad) m c) (hl : news.length = m * size) (hnews : ∀ j u, news[j]? = some u → w.cell? (ad.add j) = some u) (h1 : ∀ u ∈ news, u.oneCell' = true)
    (hm : 0 < m) (h63 : n + m ≤ maxLen) (hbytes : (n + m) * bytes ≤ 140737488355328) (hbase : base ≤ w.heap.size) (H : Nat) (hH : w.heap.size = H)
    (h : ∀ g cap w', w'.ownsRow base e size (.slice (some ⟨g, 0, none⟩) (n + m) cap) (n + m) (xs ++ news) → w.grownBy w' v.ownBlock → (v.ownBlock = some g ∨ (g = H ∧ ∀ b, b < H → w'.heap[b]? = w.heap[b]?)) → g < w'.heap.size → wpList P ops Q rest (a.put o.dst (.slice (some ⟨g, 0, none⟩) (n + m) cap)) w') : wpList P ops Q (o :: rest) a w :=
  wpList_plain hgd fun _ hK => wp_append_keep w s x t ho base e i z size bytes ht hi hz hsize hby hzs hsz v n xs hs hown ad m c news hx hl hnews h1 hm h63 hbytes hbase H hH fun g cap w' h2 h3 h4 h5 => hK _ _ (h g cap w' h2 h3 h4 h5)

theorem step_append_keep {ops : Array Oper} {o : Oper} {a : Act} {K : Act → World → Prop} {Q : Exit → Act → World → Prop} {E : Prop} (hgd : o.guard = none) (s x : Operand) (t : TypeId)
    (ho : o.op = .call { callee := .builtin .append, args := #[s, x], argTypes := #[t, t] })
    (base : Nat) (e : TypeId) (i : TypeInfo) (z : Value) (size bytes : Nat) (ht : P.underlying t = some (.slice e)) (hi : P.info? e = some i) (hz : i.zero = some z)
    (hsize : i.size = size) (hby : i.bytes = bytes) (hzs : z.cells.size = size) (hsz : 0 < size)
    (v : Value) (n : Nat) (xs : List Value) (hs : a.eval s = v) (hown : w.ownsRow base e size v n xs)
    (ad : Addr) (m c : Nat) (news : List Value) (hx : a.eval x = .slice (some ad) m c) (hl : news.length = m * size) (hnews : ∀ j u, news[j]? = some u → w.cell? (ad.add j) = some u) (h1 : ∀ u ∈ news, u.oneCell' = true)
    (hm : 0 < m) (h63 : n + m ≤ maxLen) (hbytes : (n + m) * bytes ≤ 140737488355328) (hbase : base ≤ w.heap.size) (H : Nat) (hH : w.heap.size = H)
    (h : ∀ g cap w', w'.ownsRow base e size (.slice (some ⟨g, 0, none⟩) (n + m) cap) (n + m) (xs ++ news) → w.grownBy w' v.ownBlock → (v.ownBlock = some g ∨ (g = H ∧ ∀ b, b < H → w'.heap[b]? = w.heap[b]?)) → g < w'.heap.size → K (a.put o.dst (.slice (some ⟨g, 0, none⟩) (n + m) cap)) w') :
    if Region.wanted o (yielded ops a.tmps) = true then Oper.wp P o a w K Q else E := by
  have hw : Region.wanted o (yielded ops a.tmps) = true := by simp [Region.wanted, hgd]
  rw [if_pos hw]
  exact wp_append_keep w s x t ho base e i z size bytes ht hi hz hsize hby hzs hsz v n xs hs hown ad m c news hx hl hnews h1 hm h63 hbytes hbase H hH h

end

end Go.Proofs.YthfdgdfnflilfaaGreatDoor
/- The law's keepNums: numbers that came out are written over, and behind them. -/
namespace Go.Proofs.YthfdgdfnflilfaaGreatDoor
open Go.RowKit Go.Conc

/-- A row of the caller's own, a cell of which is written. -/
theorem own_set {w : World} {base n : Nat} {t : TypeId} {g cap i : Nat} {vals : List Value} (h : w.ownsRow base t 1 (.slice (some ⟨g, 0, none⟩) n cap) n vals) (x : Value) : (w.setCell ⟨g, i, none⟩ x).ownsRow base t 1 (.slice (some ⟨g, 0, none⟩) n cap) n (vals.set i x) := by
  obtain ⟨h1, h2⟩ := h
  refine ⟨by simpa using h1, ?_⟩
  rcases h2 with ⟨hv, -⟩ | ⟨g', cap', cur, hv, hg, hh, hn, hm, hs, ht⟩
  · cases hv
  · cases hv
    have hh' : w.heap[g]? = some (.cells cur.toList.toArray t (0, 0)) := by simpa using hh
    refine Or.inr ⟨g, cap, (cur.toList.set i x).toArray, rfl, hg, blk_set hh' i x, hn, hm, by simpa using hs, ?_⟩
    rw [← ht, List.take_set]

/-- A list of the caller's, all over which stands x. -/
def NumsAt (w : World) (x : Int) (M : Nat) (u : Value) : Prop :=
  ∃ a m c, u = .slice a m c ∧ m ≤ M ∧ m ≤ c ∧ ((a = none ∧ m = 0) ∨ ∃ b cs, a = some ⟨b, 0, none⟩ ∧ w.heap[b]? = some (.cells cs 3 (0, 0)) ∧ ∀ j, j < m → cs.toList[j]? = some (.int .i64 x))

theorem nums_of_own {w : World} {base M : Nat} {u : Value} {x : Int} (h : w.ownsRow base 3 1 u M (List.replicate M (.int .i64 x))) : NumsAt w x M u := by
  rcases h.2 with ⟨rfl, rfl⟩ | ⟨g, cap, cur, rfl, hg, hh, hn, hm, hs, ht⟩
  · exact ⟨none, 0, 0, rfl, Nat.le_refl _, Nat.le_refl _, Or.inl ⟨rfl, rfl⟩⟩
  · refine ⟨_, M, cap, rfl, Nat.le_refl _, hn, Or.inr ⟨g, cur, rfl, hh, fun j hj => ?_⟩⟩
    have e : (cur.toList.take (M * 1))[j]? = (List.replicate M (Value.int .i64 x))[j]? := by rw [ht]
    rw [List.getElem?_take_of_lt (by omega), List.getElem?_replicate] at e
    rw [e, if_pos hj]

theorem NumsAt.sl {w : World} {x : Int} {M : Nat} {u : Value} (h : NumsAt w x M u) (hM : M ≤ 140737488355328) : ∃ m, Sl w u m 1 fun _ _ => .int .i64 x := by
  obtain ⟨a, m, c, rfl, h1, h2, h3⟩ := h
  refine ⟨m, a, c, rfl, by omega, h2, ?_⟩
  rcases h3 with ⟨rfl, rfl⟩ | ⟨b, cs, rfl, hb, hc⟩
  · exact Or.inl rfl
  · refine Or.inr ⟨b, 0, rfl, fun i hi j hj => ?_⟩
    have hb' : w.heap[b]? = some (.cells cs.toList.toArray 3 (0, 0)) := by simpa using hb
    have : 0 + i * 1 + j = i := by omega
    rw [this]
    exact row_cell hb' (hc i hi)

theorem NumsAt.far {w w' : World} {x : Int} {M : Nat} {u : Value} (h : NumsAt w x M u) (hk : ∀ (b : Nat) (cs : Array Value), w.heap[b]? = some (.cells cs 3 (0, 0)) → w'.heap[b]? = w.heap[b]?) : NumsAt w' x M u := by
  obtain ⟨a, m, c, rfl, h1, h2, h3⟩ := h
  refine ⟨a, m, c, rfl, h1, h2, ?_⟩
  rcases h3 with h3 | ⟨b, cs, rfl, hb, hc⟩
  · exact Or.inl h3
  · exact Or.inr ⟨b, cs, rfl, (hk b cs hb).trans hb, hc⟩

/-- Behind an append of x to the newest list. -/
theorem NumsAt.app {w w' : World} {base : Nat} {x : Int} {M : Nat} {u l : Value} {g cap : Nat} (h : NumsAt w x M u) (ho : w'.ownsRow base 3 1 (.slice (some ⟨g, 0, none⟩) (M + 1) cap) (M + 1) (List.replicate (M + 1) (.int .i64 x))) (hg : w.grownBy w' l.ownBlock) (hor : l.ownBlock = some g ∨ (∀ b, b < w.heap.size → w'.heap[b]? = w.heap[b]?)) : NumsAt w' x (M + 1) u := by
  obtain ⟨a, m, c, rfl, h1, h2, h3⟩ := h
  refine ⟨a, m, c, rfl, by omega, h2, ?_⟩
  rcases h3 with h3 | ⟨b, cs, rfl, hb, hc⟩
  · exact Or.inl h3
  · rcases hor with hor | hor
    · by_cases e : b = g
      · subst e
        rcases ho.2 with ⟨hv, -⟩ | ⟨g', cap', cur, hv, -, hh, -, -, -, ht⟩
        · cases hv
        · cases hv
          refine Or.inr ⟨b, cur, rfl, hh, fun j hj => ?_⟩
          have e : (cur.toList.take ((M + 1) * 1))[j]? = (List.replicate (M + 1) (Value.int .i64 x))[j]? := by rw [ht]
          rw [List.getElem?_take_of_lt (by omega), List.getElem?_replicate] at e
          rw [e, if_pos (by omega)]
      · refine Or.inr ⟨b, cs, rfl, (hg.block b (lt_of_blk hb) (fun e' => e ?_)).trans hb, hc⟩
        rw [hor] at e'
        exact Option.some.inj e'
    · exact Or.inr ⟨b, cs, rfl, (hor b (lt_of_blk hb)).trans hb, hc⟩

/-- The lists' blocks. -/
def NumsIn (w0 w : World) (g0 : Option Nat) (u : Value) : Prop := ∀ b, u.ownBlock = some b → b < w.heap.size ∧ (g0 = some b ∨ w0.heap.size ≤ b) ∧ ∃ cs, w.heap[b]? = some (.cells cs 3 (0, 0))

/-- keepNums between two rounds of its second loop: i lists are kept; l is the newest, of length M. -/
structure Kn (base B : Nat) (w0 : World) (p : Nat) (cs0 vals0 : List Value) (v2 : Value) (g0 : Option Nat) (x : Int) (M i : Nat) (vn : Value) (news : List Value) (l : Value) (w : World) : Prop where
  blk : w.heap[p]? = some (.cells (cs0.set 2 vn).toArray 35 (0, 0))
  row : w.ownsRow base 22 1 vn (vals0.length + i) (vals0 ++ news)
  rowAt : ∀ b, vn.ownBlock = some b → v2.ownBlock = some b ∨ w0.heap.size ≤ b
  len : news.length = i
  nums : ∀ u ∈ news, NumsAt w x M u
  ins : ∀ u ∈ news, NumsIn w0 w g0 u
  own : w.ownsRow B 3 1 l M (List.replicate M (.int .i64 x))
  lin : NumsIn w0 w g0 l
  fr : Fr (fun b => b = p ∨ v2.ownBlock = some b ∨ g0 = some b) w0 w

theorem own_typed {w : World} {base n : Nat} {t : TypeId} {v : Value} {vals : List Value} (h : w.ownsRow base t 1 v n vals) {g : Nat} (hg : v.ownBlock = some g) : ∃ cs, w.heap[g]? = some (.cells cs t (0, 0)) := by
  rcases h.2 with ⟨rfl, -⟩ | ⟨g', cap, cur, rfl, -, hh, -⟩
  · cases hg
  · have e : g' = g := by simpa [Value.ownBlock] using hg
    exact ⟨cur, e ▸ hh⟩

theorem NumsIn.far {w0 w w' : World} {g0 : Option Nat} {u : Value} (h : NumsIn w0 w g0 u) (hsz : w.heap.size ≤ w'.heap.size) (hk : ∀ (b : Nat) (cs : Array Value), w.heap[b]? = some (.cells cs 3 (0, 0)) → w'.heap[b]? = w.heap[b]?) : NumsIn w0 w' g0 u := fun b hb => by
  obtain ⟨h1, h2, cs, h3⟩ := h b hb
  exact ⟨Nat.lt_of_lt_of_le h1 hsz, h2, cs, (hk b cs h3).trans h3⟩

/-- The list is added to the row. -/
theorem Kn.push {base B : Nat} {w0 : World} {p : Nat} {cs0 vals0 : List Value} {v2 : Value} {g0 : Option Nat} {x : Int} {M i : Nat} {vn : Value} {news : List Value} {l : Value} {w w1 w2 : World} {gr gcap : Nat} (h : Kn base B w0 p cs0 vals0 v2 g0 x M i vn news l w) (h8 : 2 < cs0.length) (hw1 : Below w.heap.size w w1)
    (ho : w2.ownsRow base 22 1 (.slice (some ⟨gr, 0, none⟩) (vals0.length + i + 1) gcap) (vals0.length + i + 1) ((vals0 ++ news) ++ [l])) (hg : w1.grownBy w2 vn.ownBlock) (hor : vn.ownBlock = some gr ∨ w.heap.size ≤ gr) :
    (w2.cell? ⟨p, 2, none⟩ = some vn ∧ w2.frozen? ⟨p, 2, none⟩ = false) ∧ Kn base B w0 p cs0 vals0 v2 g0 x M (i + 1) (.slice (some ⟨gr, 0, none⟩) (vals0.length + i + 1) gcap) (news ++ [l]) l (w2.setCell ⟨p, 2, none⟩ (.slice (some ⟨gr, 0, none⟩) (vals0.length + i + 1) gcap)) := by
  have hpl := lt_of_blk h.blk
  have hb' : w.heap[p]? = some (.cells (cs0.set 2 vn).toArray 35 (0, 0)) := h.blk
  have hvp : vn.ownBlock ≠ some p := own_ne_type h.row h.blk (by decide)
  have hA : ∀ b, b < w.heap.size → vn.ownBlock ≠ some b → w2.heap[b]? = w.heap[b]? := fun b hb hne => (hg.block b (Nat.lt_of_lt_of_le hb hw1.size) (fun e => hne e.symm)).trans (hw1.block b hb)
  have hp2 := (hA p hpl hvp).trans h.blk
  have hsz2 : w.heap.size ≤ w2.heap.size := Nat.le_trans hw1.size hg.size
  have hsz0 := h.fr.size
  have hset : ∀ b, b ≠ p → (w2.setCell ⟨p, 2, none⟩ (.slice (some ⟨gr, 0, none⟩) (vals0.length + i + 1) gcap)).heap[b]? = w2.heap[b]? := fun b hb => heap_setCell_other _ _ _ _ hb
  have hI : ∀ (b : Nat) (cs : Array Value), w.heap[b]? = some (.cells cs 3 (0, 0)) → (w2.setCell ⟨p, 2, none⟩ (.slice (some ⟨gr, 0, none⟩) (vals0.length + i + 1) gcap)).heap[b]? = w.heap[b]? := fun b cs hb => by
    rw [hset b (ne_of_types hb h.blk (by decide)), hA b (lt_of_blk hb) (own_ne_type h.row hb (by decide))]
  have hsz3 : (w2.setCell ⟨p, 2, none⟩ (.slice (some ⟨gr, 0, none⟩) (vals0.length + i + 1) gcap)).heap.size = w2.heap.size := by simp [World.setCell]
  have hgp : gr ≠ p := fun e => own_ne_type ho hp2 (by decide) (by rw [← e]; rfl)
  refine ⟨⟨(blk_cell hp2 2 vn (by simp [h8])).1, row_frozen hp2 2⟩, ⟨?_, ?_, fun b hb => ?_, by simp [h.len], fun u hu => ?_, fun u hu => ?_, ?_, h.lin.far (by rw [hsz3]; exact hsz2) hI, ?_⟩⟩
  · have := blk_set hp2 2 (.slice (some ⟨gr, 0, none⟩) (vals0.length + i + 1) gcap)
    rw [List.set_set] at this
    exact this
  · rw [← List.append_assoc]
    exact own_of_blockB ho fun g hg' => hset g (fun e => own_ne_type ho hp2 (by decide) (e ▸ hg'))
  · have e : gr = b := by simpa [Value.ownBlock] using hb
    subst e
    rcases hor with h1 | h1
    · exact h.rowAt gr h1
    · exact Or.inr (by omega)
  · rcases List.mem_append.1 hu with h1 | h1
    · exact (h.nums u h1).far hI
    · rw [List.mem_singleton.1 h1]
      exact (nums_of_own h.own).far hI
  · rcases List.mem_append.1 hu with h1 | h1
    · exact (h.ins u h1).far (by rw [hsz3]; exact hsz2) hI
    · rw [List.mem_singleton.1 h1]
      exact h.lin.far (by rw [hsz3]; exact hsz2) hI
  · refine own_of_blockB h.own fun g hg' => ?_
    obtain ⟨-, -, cs, hc⟩ := h.lin g hg'
    exact hI g cs hc
  · refine Fr.setCell (S := fun b => b = p ∨ v2.ownBlock = some b ∨ g0 = some b) ?_ (p := ⟨p, 2, none⟩) (Or.inr (Or.inl rfl)) _
    refine (h.fr.trans (Fr.of_below (S := fun b => b = p ∨ v2.ownBlock = some b ∨ g0 = some b) hw1) (fun _ _ e => e)).grown hg fun k hk => ?_
    rcases h.rowAt k hk with h1 | h1
    · exact Or.inr (Or.inr (Or.inl h1))
    · exact Or.inl h1

/-- The list grows by one. -/
theorem Kn.app {base B : Nat} {w0 : World} {p : Nat} {cs0 vals0 : List Value} {v2 : Value} {g0 : Option Nat} {x : Int} {M i : Nat} {vn : Value} {news : List Value} {l : Value} {w w1 w2 : World} {g cap H : Nat} (h : Kn base B w0 p cs0 vals0 v2 g0 x M i vn news l w) (hw1 : Below w.heap.size w w1) (hH : w1.heap.size = H)
    (ho : w2.ownsRow B 3 1 (.slice (some ⟨g, 0, none⟩) (M + 1) cap) (M + 1) (List.replicate M (.int .i64 x) ++ [.int .i64 x])) (hg : w1.grownBy w2 l.ownBlock) (hor : l.ownBlock = some g ∨ (g = H ∧ ∀ b, b < H → w2.heap[b]? = w1.heap[b]?)) (hlt : g < w2.heap.size) :
    Kn base B w0 p cs0 vals0 v2 g0 x (M + 1) i vn news (.slice (some ⟨g, 0, none⟩) (M + 1) cap) w2 := by
  subst hH
  rw [← List.replicate_succ'] at ho
  have hpl := lt_of_blk h.blk
  have hlp : l.ownBlock ≠ some p := own_ne_type h.own h.blk (by decide)
  have hA : ∀ b, b < w.heap.size → l.ownBlock ≠ some b → w2.heap[b]? = w.heap[b]? := fun b hb hne => (hg.block b (Nat.lt_of_lt_of_le hb hw1.size) (fun e => hne e.symm)).trans (hw1.block b hb)
  have hsz1 := hw1.size
  have hsz2 : w.heap.size ≤ w2.heap.size := Nat.le_trans hw1.size hg.size
  have hsz0 := h.fr.size
  have hins : ∀ u, NumsIn w0 w g0 u → NumsIn w0 w2 g0 u := fun u hu b hb => by
    obtain ⟨h1, h2, cs, h3⟩ := hu b hb
    refine ⟨by omega, h2, ?_⟩
    by_cases e : l.ownBlock = some b
    · rcases hor with h4 | h4
      · rw [h4] at e
        cases e
        exact own_typed ho rfl
      · exact ⟨cs, ((h4.2 b (by omega)).trans (hw1.block b h1)).trans h3⟩
    · exact ⟨cs, (hA b h1 e).trans h3⟩
  refine ⟨(hA p hpl hlp).trans h.blk, ?_, h.rowAt, h.len, fun u hu => ?_, fun u hu => hins u (h.ins u hu), ho, fun b hb => ?_, ?_⟩
  · refine own_of_blockB h.row fun b hb => ?_
    obtain ⟨cs, hc⟩ := own_typed h.row hb
    exact hA b (lt_of_blk hc) (own_ne_type h.own hc (by decide))
  · have h1 : NumsAt w1 x M u := (h.nums u hu).far fun b cs hb => hw1.block b (lt_of_blk hb)
    exact h1.app ho hg (hor.imp id (fun e => e.2))
  · have e : g = b := by simpa [Value.ownBlock] using hb
    subst e
    refine ⟨hlt, ?_, own_typed ho rfl⟩
    rcases hor with h4 | h4
    · exact (h.lin g h4).2.1
    · exact Or.inr (by omega)
  · refine (h.fr.trans (Fr.of_below (S := fun b => b = p ∨ v2.ownBlock = some b ∨ g0 = some b) hw1) (fun _ _ e => e)).grown hg fun k hk => ?_
    rcases (h.lin k hk).2.1 with h1 | h1
    · exact Or.inr (Or.inr (Or.inr h1))
    · exact Or.inl h1

/-- What keepNums leaves. -/
structure KeptN (base : Nat) (col : Nat → Nat) (w : World) (p : Nat) (v0 : Value) (c : Nat) (g0 : Option Nat) (w' : World) : Prop where
  ex : ∃ col', Bk base col' w' p v0 (c + 4) ∧ (∀ b, b < w.heap.size → g0 ≠ some b → col' b = col b) ∧ ∀ b, w.heap.size ≤ b → col' b ≤ 8
  fr : Fr (fun b => g0 = some b ∨ (base ≤ b ∧ col b ≤ 8)) w w'

theorem Kn.done {base B : Nat} {col : Nat → Nat} {w0 : World} {p : Nat} {v0 : Value} {c : Nat} {cs0 vals0 : List Value} {v2 : Value} {g0 : Option Nat} {M : Nat} {vn : Value} {news : List Value} {l : Value} {w : World} (hb : Bk base col w0 p v0 c) (hp : w0.heap[p]? = some (.cells cs0.toArray 35 (0, 0))) (hl8 : cs0.length = 8)
    (hrow : w0.ownsRow base 22 1 v2 vals0.length vals0) (hcv : ∀ g, v2.ownBlock = some g → col g = 2) (hle : vals0.length ≤ c) (h4 : vals0.length % 4 = 0) (h6 : ∀ i (h : i < vals0.length), ∃ m, Sl w0 vals0[i] m 1 (wrN i)) (h7 : ∀ u ∈ vals0, ∀ g, u.ownBlock = some g → g < w0.heap.size ∧ col g = 8)
    (hg0 : ∀ g, g0 = some g → base ≤ g ∧ 8 < col g ∧ g < w0.heap.size) (hM : M ≤ 140737488355328) (h : Kn base B w0 p cs0 vals0 v2 g0 (-1 - (vals0.length : Int)) M 4 vn news l w) : KeptN base col w0 p v0 c g0 w := by
  have hpl := lt_of_blk hp
  have hsz := h.fr.size
  have hbase : base ≤ w0.heap.size := Nat.le_trans hb.ge (Nat.le_of_lt hpl)
  have hvl : ∀ g, v2.ownBlock = some g → g < w0.heap.size := fun g hg => (hrow.lt g hg).2
  let col' : Nat → Nat := fun b => if b < w0.heap.size then (if g0 = some b then 8 else col b) else if vn.ownBlock = some b then 2 else 8
  have k1 : ∀ b, b < w0.heap.size → g0 ≠ some b → col' b = col b := fun b h1 h2 => by simp [col', h1, h2]
  have k2 : ∀ b, w0.heap.size ≤ b → col' b ≤ 8 := fun b h1 => by
    show (if b < w0.heap.size then (if g0 = some b then 8 else col b) else if vn.ownBlock = some b then 2 else 8) ≤ 8
    rw [if_neg (by omega)]; split <;> omega
  have n8 : ∀ b, col b ≤ 8 → g0 ≠ some b := fun b h1 e => by have := (hg0 b e).2.1; omega
  have keep : ∀ b, b < w0.heap.size → b ≠ p → v2.ownBlock ≠ some b → g0 ≠ some b → w.heap[b]? = w0.heap[b]? := fun b h1 h2 h3 h4 => h.fr.block b h1 (fun e => by rcases e with e | e | e; exact h2 e; exact h3 e; exact h4 e)
  have hk8 : ∀ b, b < w0.heap.size → col b ≤ 8 → col b ≠ 0 → col b ≠ 2 → w.heap[b]? = w0.heap[b]? := fun b h1 h2 h3 h4 => keep b h1 (fun e => by rw [e, hb.colp] at h3; exact h3 rfl) (fun e => h4 (hcv b e)) (n8 b h2)
  have hc2 : ∀ j, j ≠ 2 → w.cell? ⟨p, j, none⟩ = w0.cell? ⟨p, j, none⟩ := fun j hj => by
    rw [cell_of_row w p j _ _ _ h.blk, cell_of_row w0 p j _ _ _ hp]
    simp [List.getElem?_set_ne (fun e => hj e.symm)]
  refine ⟨⟨col', ⟨⟨_, h.blk, by simpa using hl8⟩, (k1 p hpl (n8 p (by rw [hb.colp]; omega))).trans hb.colp, hb.ge, (hc2 0 (by decide)).trans hb.c0, fun r hr1 hr7 => ?_, fun b hb' => ?_⟩, k1, k2⟩, ?_⟩
  · by_cases e : r = 2
    · subst e
      have hcell : w.cell? ⟨p, 2, none⟩ = some vn := (blk_cell h.blk 2 vn (by simp [hl8])).1
      refine ⟨vn, vals0 ++ news, hcell, by rw [List.length_append, h.len]; exact h.row, fun g hg => ?_, by rw [List.length_append, h.len]; omega, by rw [List.length_append, h.len]; show (vals0.length + 4) % 4 = 0; omega, fun i hi => ?_, fun u hu g hg => ?_⟩
      · rcases h.rowAt g hg with h1 | h1
        · rw [k1 g (hvl g h1) (n8 g (by rw [hcv g h1]; omega))]; exact hcv g h1
        · show (if g < w0.heap.size then (if g0 = some g then 8 else col g) else if vn.ownBlock = some g then 2 else 8) = 2
          rw [if_neg (by omega), if_pos hg]
      · rcases Nat.lt_or_ge i vals0.length with h1 | h1
        · obtain ⟨m, hm⟩ := h6 i h1
          refine ⟨m, ?_⟩
          rw [List.getElem_append_left h1]
          refine hm.frame fun g hg => ?_
          obtain ⟨q1, q2⟩ := h7 _ (List.getElem_mem h1) g hg
          exact hk8 g q1 (by omega) (by omega) (by omega)
        · have hi4 : i - vals0.length < news.length := by rw [List.length_append] at hi; omega
          obtain ⟨m, hm⟩ := (h.nums _ (List.getElem_mem hi4)).sl hM
          refine ⟨m, ?_⟩
          rw [List.getElem_append_right h1]
          have e : (fun (_ _ : Nat) => Value.int .i64 (-1 - (vals0.length : Int))) = rowF 2 i := by
            funext a b
            show _ = wrN i a b
            unfold wrN
            rw [h.len] at hi4
            have : i / 4 * 4 = vals0.length := by omega
            rw [this]
          rw [← e]
          exact hm
      · rcases List.mem_append.1 hu with h1 | h1
        · obtain ⟨q1, q2⟩ := h7 u h1 g hg
          exact ⟨by omega, (k1 g q1 (n8 g (by omega))).trans q2⟩
        · obtain ⟨q1, q2, cs, q3⟩ := h.ins u h1 g hg
          refine ⟨q1, ?_⟩
          show (if g < w0.heap.size then (if g0 = some g then 8 else col g) else if vn.ownBlock = some g then 2 else 8) = 8
          rcases q2 with q2 | q2
          · rw [if_pos (hg0 g q2).2.2, if_pos q2]
          · rw [if_neg (by omega), if_neg (own_ne_type h.row q3 (by decide))]
    · refine (hb.rows r hr1 hr7).frame (hc2 r e) (fun b h1 h2 => hk8 b h1 (by omega) (by omega) (by omega)) (fun b h1 h2 => k1 b h1 (n8 b (by omega))) hsz (by omega)
  · rw [k1 b (by omega) (fun e => by have := (hg0 b e).1; omega)]; exact hb.low b hb'
  · refine h.fr.mono fun b h1 e => ?_
    rcases e with rfl | e | e
    · exact Or.inr ⟨hb.ge, by rw [hb.colp]; omega⟩
    · exact Or.inr ⟨(hrow.lt b e).1, by rw [hcv b e]; omega⟩
    · exact Or.inl e

end Go.Proofs.YthfdgdfnflilfaaGreatDoor

/- Part 27: Side6, Side7, Play1, Play2, Open2. -/
import Derived.Deep.DeepHandedRow
import Derived.Deep.DeepWitnessRowRef
import Derived.Lay
import Derived.Handy
import Derived.Test.YthfdgdfnflilfaaGreatDoorCards
import Derived.Test.YthfdgdfnflilfaaGreatDoorTie
import Derived.Test.YthfdgdfnflilfaaGreatDoorPart26
/- The law's side: runs. -/
namespace Go.Proofs.YthfdgdfnflilfaaGreatDoor
open Go.RowKit Go.Conc

theorem Did.book {base cx cy : Nat} {col col2 col3 : Nat → Nat} {w w2 w3 : World} {g0 : Nat} (h : Did base cx cy col w col2 w2) (k : Fr (fun b => b = g0 ∨ (base ≤ b ∧ col2 b ≤ 8)) w2 w3) (hg : w.heap.size ≤ g0) (h2 : ∀ b, b < w2.heap.size → b ≠ g0 → col3 b = col2 b) : Did base cx cy col w col3 w3 := by
  have hsz := h.fr.size
  refine ⟨h.fr.trans k (fun b hb e => ?_), fun b hb h20 => ?_⟩
  · rcases e with e | e
    · omega
    · rcases Nat.lt_or_ge 20 (col b) with h20 | h20
      · have := h.old b hb h20; omega
      · exact ⟨e.1, Or.inl h20⟩
  · rw [h2 b (by omega) (by omega), h.old b hb h20]

section
variable {wz : World} {base p : Nat} {v0 : Value} {c sd cx cy x y : Nat} {n : Net} {vs vr vw : Value} {col : Nat → Nat} {w : World} {Rx Ry : Rc}

theorem Sd.backed (h : Sd wz base p v0 c sd cx cy x y n vs vr vw col w Rx Ry) {g0 : Nat} {w' : World} (hg0 : base ≤ g0 ∧ col g0 = 22) (hk : Backed base col w p v0 c g0 w') : ∃ col', Sd wz base p v0 (c + 1) sd cx cy x y n vs vr vw col' w' Rx Ry ∧ Fr (fun b => b = g0 ∨ (base ≤ b ∧ col b ≤ 8)) w w' ∧ ∀ b, b < w.heap.size → b ≠ g0 → col' b = col b := by
  obtain ⟨col', h1, h2, h3, -⟩ := hk.ex
  have hz : Below wz.heap.size wz w' := h.wzm.trans ⟨hk.fr.os, hk.fr.tape, hk.fr.output, hk.fr.size, fun b hb => hk.fr.block b (by have := h.wzm.size; omega) (fun e => by
    have h9 := h.bk.low b (by have := h.wzb; omega)
    rcases e with e | e
    · subst e; omega
    · omega)⟩
  have hx := h.x0
  have hy := h.y0
  refine ⟨col', ⟨h.at'.frame (fun b hb e => ?_) hz, h1, hz, h.wzb, h.x0, h.x9, h.y0, h.y9, h.ne, h.fits, h.net, h.short⟩, hk.fr, h2⟩
  have hn : b ≠ g0 := fun e' => by subst e'; omega
  exact ⟨hk.fr.block b hb (fun e' => by rcases e' with e' | e'; exact hn e'; omega), h2 b hb hn⟩

theorem runM_cons {N : Net} {l : List Int} {i d : Nat} {R : Rc} (hi : i < l.length) : runM N (l.drop i) d R = if inB l[i] N.workers.length then (if stateOf N R l[i].toNat = 1 then runM N (l.drop (i + 1)) (d + 1) (doStep N R l[i].toNat) else runM N (l.drop (i + 1)) d R) else (d, 2, R) := by
  rw [List.drop_eq_getElem_cons hi]; rfl

theorem runM_fine {N : Net} (hv : validB N = true) (hf : NetFits N) : ∀ (l : List Int) (k : Nat) (R : Rc) (d : Nat), Fine N R d → Fine N (runM N l k R).2.2 (d + l.length)
  | [], k, R, d, h => h
  | a :: l, k, R, d, h => by
    have e : d + (a :: l).length = (d + 1) + l.length := by simp; omega
    rw [e, runM]
    split
    · rename_i hin
      have hk : a.toNat < N.workers.length := by simp [inB] at hin; omega
      split
      · exact runM_fine hv hf l _ _ _ (h.step hv hf hk)
      · exact runM_fine hv hf l _ _ _ (h.mono (by omega))
    · exact h.mono (by omega)

/-- runs between two rounds of its loop. -/
structure RunAt (wz : World) (base p : Nat) (v0 : Value) (c sd cx cy x y : Nat) (n : Net) (vs vr vw : Value) (col : Nat → Nat) (w : World) (M : Nat × Int × Rc) (d i : Nat) (S : Rc) (wr : World) : Prop where
  turn : Turn wz base p v0 c sd cx cy x y n vs vr vw col w M.2.2 S wr
  fine : Fine n S (d + i)

theorem RunAt.step {M : Nat × Int × Rc} {d i : Nat} {S : Rc} {wr : World} (h : RunAt wz base p v0 c sd cx cy x y n vs vr vw col w M d i S wr) (hd : d + i ≤ 1099511627776) (k : Nat) (hk : k < n.workers.length) :
    Calls Tryz.prog 61 #[.pointer (some ⟨y, 0, none⟩), .int .i64 k] wr fun e w' => e = .returned (.int .i64 (stateOf n S k)) ∧ RunAt wz base p v0 c sd cx cy x y n vs vr vw col w M d (i + 1) (stepR n S k) w' := by
  obtain ⟨col1, h1, h2⟩ := h.turn.ex
  refine (sd_stepy h1 k hk (h.fine.small hd)).mono fun e w' ⟨q1, q2⟩ => ⟨q1, ⟨?_, h.fine.stepR h1.ok h1.fits hk⟩⟩
  obtain ⟨col2, h3, h4⟩ := q2.ex
  exact ⟨col2, h3, h2.trans h4⟩

theorem RunAt.drewN {M : Nat × Int × Rc} {d i : Nat} {S : Rc} {wr : World} (h : RunAt wz base p v0 c sd cx cy x y n vs vr vw col w M d i S wr) (q : Nat) : RunAt wz base p v0 c sd cx cy x y n vs vr vw col w M d i S (wr.drewN q) := by
  obtain ⟨col1, h1, h2⟩ := h.turn.ex
  have hb : Below wr.heap.size wr (wr.drewN q) := below_drewN (Below.refl _ _) q
  exact ⟨⟨_, h1.belowQ 22 hb, h2.trans (Did.of_below hb)⟩, h.fine⟩

theorem RunAt.read {l : List Int} {M : Nat × Int × Rc} {d i : Nat} {S : Rc} {wr : World} {a : Option Addr} {cl : Nat} (h : RunAt wz base p v0 c sd cx cy x y n vs vr vw col w M d i S wr) (hl : IntsAt wz (.slice a l.length cl) l) : (wr.cell? ⟨sd, 1, none⟩ = some (.pointer (some ⟨y, 0, none⟩)) ∧ ∃ gW cW, wr.cell? ⟨y, 1, none⟩ = some (.slice (some ⟨gW, 0, none⟩) n.workers.length cW)) ∧ ∀ k (hk : k < l.length), ∃ b off, a = some ⟨b, off, none⟩ ∧ wr.cell? ⟨b, off + k, none⟩ = some (.int .i64 l[k]) := by
  obtain ⟨col1, h1, h2⟩ := h.turn.ex
  obtain ⟨-, q1, gS, gW, cS, cW, -, q2⟩ := h1.cells
  refine ⟨⟨q1, gW, cW, q2⟩, fun k hk => ?_⟩
  obtain ⟨a', cap, hv, -, -, hc⟩ := hl
  simp only [Value.slice.injEq, true_and] at hv
  obtain ⟨rfl, rfl⟩ := hv
  rcases hc with hc | ⟨b, off, rfl, hc⟩
  · omega
  · refine ⟨b, off, rfl, ?_⟩
    have e := hc k hk 0 (by decide)
    rw [Nat.mul_one, Nat.add_zero] at e
    rw [h1.wzm.cell (lt_of_cell e), e]
    dsimp only
    rw [getD_eq _ _ _ hk]

/-- Lent, run and given back. -/
theorem runs_head {R : Rc} {d : Nat} {l : List Int} {v : Value} (h : Sd wz base p v0 c sd cx cy x y n vs vr vw col w R R) (hf : Fine n R d) (hd : d + l.length ≤ 1099511627776) (hc : c ≤ 1099511627776) (hl : IntsAt wz v l) (hll : l.length ≤ 1048576) :
    Calls Tryz.prog 22 #[v] w fun e w1 => ∃ ia ic, e = .returned (.tuple #[.slice (some ⟨w.heap.size, 0, none⟩) (l.length + 1) (l.length + 1), .slice ia l.length ic]) ∧ w1.cell? ⟨sd, 0, none⟩ = some (.pointer (some ⟨x, 0, none⟩)) ∧
      Calls Tryz.prog 10 #[.pointer (some ⟨x, 0, none⟩), .slice ia l.length ic] w1 fun e w2 => e = .returned (.tuple #[.int .i64 (runM n l 0 R).1, .int .i64 (runM n l 0 R).2.1]) ∧
        Calls Tryz.prog 29 #[.pointer (some ⟨p, 0, none⟩), .slice (some ⟨w.heap.size, 0, none⟩) (l.length + 1) (l.length + 1), v] w2 fun e w3 => e = .returned (.bool true) ∧ RunAt wz base p v0 (c + 1) sd cx cy x y n vs vr vw col w (runM n l 0 R) d 0 R w3 := by
  have hlw : IntsAt w v l := hl.below h.wzm
  refine (lent_ints hlw hll).mono fun e w1 ⟨ia, ic, q1, q2, q3⟩ => ⟨ia, ic, q1, ?_, ?_⟩
  · exact (h.belowQ 22 q3).cells.1
  · have h1 := h.belowQ 22 q3
    have hsz1 := q3.size
    have hgl := lt_of_blk q2.blk
    have hin := q2.ints hll
    refine (has_run h1.at'.hx hin (fun b hb => ?_) hf.room (fun s hs => by have := hf.words s hs; omega)).mono fun e w2 ⟨r1, r2, r3⟩ => ⟨r1, ?_⟩
    · have hbg : b = w.heap.size := by
        rcases q2.val with e | ⟨-, e⟩
        · rw [e] at hb; simpa [Value.ownBlock] using hb.symm
        · rw [e] at hb; cases hb
      have hx := h.x0
      exact ⟨by omega, by rw [newcol_new (by omega)]; omega⟩
    · obtain ⟨col2, h2, h3⟩ := (h1.keepsx r2 r3).ex
      have hx := h.x0
      have hk2 := keeps_block r3 hgl (by rw [newcol_new (Nat.le_refl _)]; omega)
      have hcg : col2 w.heap.size = 22 := by
        rw [h3.old _ hgl (by rw [newcol_new (Nat.le_refl _)]; omega), newcol_new (Nat.le_refl _)]
      refine (backInts_calls h2.bk (hk2.trans q2.blk) h.base_le (by rw [hcg]; omega) (hl.below h2.wzm) hll hc).mono fun e w3 ⟨s1, s2⟩ => ⟨s1, ?_⟩
      obtain ⟨col3, k1, k2, k3⟩ := h2.backed ⟨h.base_le, hcg⟩ s2
      exact ⟨⟨col3, k1, ((Did.of_below q3).trans h3).book k2 (Nat.le_refl _) k3⟩, hf⟩

set_option maxRecDepth 100000 in
set_option maxHeartbeats 4000000 in
theorem runs_calls {R : Rc} {d : Nat} {l : List Int} {v : Value} (h : Sd wz base p v0 c sd cx cy x y n vs vr vw col w R R) (hf : Fine n R d) (hd : d + l.length ≤ 1099511627776) (hc : c ≤ 1099511627776) (hl : IntsAt wz v l) (hll : l.length ≤ 1048576) :
    Calls Tryz.prog 31 #[.pointer (some ⟨p, 0, none⟩), .pointer (some ⟨sd, 0, none⟩), v] w fun e w' => e = .returned (.bool true) ∧ ∃ R', Turn wz base p v0 (c + 1) sd cx cy x y n vs vr vw col w R' R' w' ∧ Fine n R' (d + l.length) := by
  have HH := hide (runs_head h hf hd hc hl hll)
  have s0 := h.cells.1
  have hok := h.ok
  have HFi := hide (runM_fine hok h.fits l 0 R d hf)
  have hM : runM n (l.drop 0) 0 R = runM n l 0 R := by rw [List.drop_zero]
  obtain ⟨a, cl, rfl, -, -, -⟩ := hl.open
  have HL := hide hl
  clear h hf hl
  generalize runM n l 0 R = M at *
  have HM := hide hM
  clear hM
  obtain ⟨m1, m2, mR⟩ := M
  dsimp only at HFi
  go_enter Tryz.func31, Tryz.ntmps31
  go_wp2_with fail
  refine (unhide HH).mono ?_
  rintro e w1 ⟨ia, ic, rfl, s0, hrun⟩
  have HRu := hide hrun
  clear hrun HH
  go_wp2_with fail
  refine (unhide HRu).mono ?_
  rintro e w2 ⟨rfl, hbk⟩
  have HBk := hide hbk
  clear hbk HRu
  go_wp2_with fail
  refine (unhide HBk).mono ?_
  rintro e w3 ⟨rfl, hra⟩
  have HR0 := hide hra
  clear hra HBk s0
  go_wp2
  go_loopw [12, 13, 14, 15] (fun wv f i _ wr => ∃ (j wn : Nat) (S : Rc), j ≤ l.length ∧ i = .int .i64 j ∧ wv = .int .i64 wn ∧ wn ≤ j ∧ RunAt wz base p v0 (c + 1) sd cx cy x y n vs vr vw col w (m1, m2, mR) d j S wr ∧ ((f = .int .i64 0 ∧ runM n (l.drop j) wn S = (m1, m2, mR)) ∨ (f = .int .i64 2 ∧ (wn, (2 : Int), S) = (m1, m2, mR)))) (fun _ _ i _ _ => l.length - (intOf i).toNat)
  case atStart => exact ⟨0, 0, R, Nat.zero_le _, rfl, rfl, Nat.le_refl _, HR0.out, Or.inl ⟨rfl, HM.out⟩⟩
  case round =>
    obtain ⟨j, wn, S, hj, rfl, rfl, hwn, hra, hcase⟩ := hrel
    clear HR0 HM
    by_cases hlt : j < l.length
    · rcases hcase with ⟨rfl, hm⟩ | ⟨rfl, hm⟩
      · obtain ⟨⟨s1, gW, cW, y1⟩, hget⟩ := hra.read HL.out
        obtain ⟨b, off, rfl, d0⟩ := hget j hlt
        rw [runM_cons hlt] at hm
        have hj0 : (0 : Int) ≤ (j : Int) := by omega
        have hj1 : (j : Int) < (l.length : Int) := by omega
        have HRa := hide hra
        rcases in_cases l[j] n.workers.length with ⟨k, hk, hkl⟩ | ⟨hin, hout⟩
        · rw [hk] at d0 hm
          have hin : inB (k : Int) n.workers.length = true := by simp [inB]; omega
          rw [if_pos hin, Int.toNat_natCast] at hm
          have HSt : Hid (∀ q, Calls Tryz.prog 61 #[.pointer (some ⟨y, 0, none⟩), .int .i64 k] (wr.drewN q) fun e w' => e = .returned (.int .i64 (stateOf n S k)) ∧ (w'.cell? ⟨sd, 1, none⟩ = some (.pointer (some ⟨y, 0, none⟩)) ∧ w'.cell? ⟨b, off + j, none⟩ = some (.int .i64 (k : Int))) ∧ RunAt wz base p v0 (c + 1) sd cx cy x y n vs vr vw col w (m1, m2, mR) d (j + 1) (stepR n S k) w') := fun q => by
            refine ((hra.drewN q).step (by omega) k hkl).mono fun e w' ⟨q1, q2⟩ => ⟨q1, ?_, q2⟩
            obtain ⟨⟨r1, -⟩, r2⟩ := q2.read HL.out
            obtain ⟨b', off', e', r3⟩ := r2 j hlt
            cases e'
            rw [hk] at r3
            exact ⟨r1, r3⟩
          have HM2 : Hid (if stateOf n S k = 1 then runM n (l.drop (j + 1)) (wn + 1) (doStep n S k) = (m1, m2, mR) else runM n (l.drop (j + 1)) wn S = (m1, m2, mR)) := by
            show if _ then _ else _
            split
            · rename_i h1; rw [if_pos h1] at hm; exact hm
            · rename_i h1; rw [if_neg h1] at hm; exact hm
          have HS2 : Hid (stepR n S k = if stateOf n S k = 1 then doStep n S k else S) := rfl
          have hk0 : (0 : Int) ≤ (k : Int) := by omega
          have hk1 : (k : Int) < (n.workers.length : Int) := by omega
          clear hm hget hra hk HRa
          by_cases hs1 : stateOf n S k = 1
          · have hm2 := HM2.out
            have hs2 := HS2.out
            rw [if_pos hs1] at hm2 hs2
            rw [hs1, hs2] at HSt
            have HM3 := hide hm2
            clear hm2 hs2 HM2 HS2 hs1
            go_wp2
            go_quiet (fail)
            go_wp2
            go_region_held3 (fun w' => w'.cell? ⟨sd, 1, none⟩ = some (.pointer (some ⟨y, 0, none⟩)) ∧ w'.cell? ⟨b, off + j, none⟩ = some (.int .i64 (k : Int))) (first | exact ⟨s1, d0⟩ | assumption | go_keep) ((go_at_call 61; refine (unhide HSt _).mono ?_; rintro e w4 ⟨rfl, hS4, hr4⟩; have HR4 := hide hr4; clear hr4))
            clear hS4
            go_wp2
            go_roundw
            case rel => exact ⟨j + 1, wn + 1, _, by omega, by go_num, by go_num, by omega, HR4.out, Or.inl ⟨rfl, HM3.out⟩⟩
            case measure => simp [intOf]; omega
          · have hm2 := HM2.out
            have hs2 := HS2.out
            rw [if_neg hs1] at hm2 hs2
            rw [hs2] at HSt
            have HM3 := hide hm2
            have qs : (((stateOf n S k : Nat) : Int) == 1) = false := by simp; omega
            generalize stateOf n S k = st at *
            clear hm2 hs2 HM2 HS2 hs1
            go_wp2
            go_quiet (fail)
            go_wp2
            go_region_held3 (fun w' => w'.cell? ⟨sd, 1, none⟩ = some (.pointer (some ⟨y, 0, none⟩)) ∧ w'.cell? ⟨b, off + j, none⟩ = some (.int .i64 (k : Int))) (first | exact ⟨s1, d0⟩ | assumption | go_keep) ((go_at_call 61; refine (unhide HSt _).mono ?_; rintro e w4 ⟨rfl, hS4, hr4⟩; have HR4 := hide hr4; clear hr4))
            clear hS4
            go_wp2
            go_roundw
            case rel => exact ⟨j + 1, wn, _, by omega, by go_num, rfl, by omega, HR4.out, Or.inl ⟨rfl, HM3.out⟩⟩
            case measure => simp [intOf]; omega
        · rw [if_neg (by rw [hin]; decide)] at hm
          have HM3 := hide hm
          have HR4 : Hid (∀ q, RunAt wz base p v0 (c + 1) sd cx cy x y n vs vr vw col w (m1, m2, mR) d (j + 1) S (wr.drewN q)) := fun q => ⟨(hra.drewN q).turn, hra.fine.mono (by omega)⟩
          generalize l[j] = lk at *
          clear hm hget hra HRa hin
          rcases hout with hk | ⟨hk0, hk1⟩
          · go_wp2
            go_quiet (fail)
            go_wp2
            go_roundw
            case rel => exact ⟨j + 1, wn, S, by omega, by go_num, rfl, by omega, HR4.out _, Or.inr ⟨rfl, HM3.out⟩⟩
            case measure => simp [intOf]; omega
          · go_wp2
            go_quiet (fail)
            go_wp2
            go_roundw
            case rel => exact ⟨j + 1, wn, S, by omega, by go_num, rfl, by omega, HR4.out _, Or.inr ⟨rfl, HM3.out⟩⟩
            case measure => simp [intOf]; omega
      · simp only [Prod.mk.injEq] at hm
        obtain ⟨rfl, rfl, rfl⟩ := hm
        have HT := hide hra.turn
        clear hra
        go_wp2
        go_ret
        exact ⟨rfl, _, HT.out, HFi.out⟩
    · have hje : j = l.length := by omega
      rcases hcase with ⟨rfl, hm⟩ | ⟨rfl, hm⟩
      · rw [hje, List.drop_length] at hm
        simp only [runM, Prod.mk.injEq] at hm
        obtain ⟨rfl, rfl, rfl⟩ := hm
        have HT := hide hra.turn
        clear hra
        go_wp2
        go_ret
        exact ⟨rfl, _, HT.out, HFi.out⟩
      · simp only [Prod.mk.injEq] at hm
        obtain ⟨rfl, rfl, rfl⟩ := hm
        have HT := hide hra.turn
        clear hra
        go_wp2
        go_ret
        exact ⟨rfl, _, HT.out, HFi.out⟩

end

end Go.Proofs.YthfdgdfnflilfaaGreatDoor
/- The law's ended. -/
namespace Go.Proofs.YthfdgdfnflilfaaGreatDoor
open Go.RowKit Go.Conc

section
variable {wz : World} {base p : Nat} {v0 : Value} {c sd cx cy x y : Nat} {n : Net} {vs vr vw : Value} {col : Nat → Nat} {w : World} {Rx Ry : Rc}

theorem Sd.more (h : Sd wz base p v0 c sd cx cy x y n vs vr vw col w Rx Ry) {c' : Nat} (hc : c ≤ c') : Sd wz base p v0 c' sd cx cy x y n vs vr vw col w Rx Ry :=
  ⟨h.at', h.bk.frame (fun _ _ _ => rfl) (fun _ _ _ => rfl) h.bk.low (Nat.le_refl _) hc, h.wzm, h.wzb, h.x0, h.x9, h.y0, h.y9, h.ne, h.fits, h.net, h.short⟩

theorem Turn.more {w' : World} (h : Turn wz base p v0 c sd cx cy x y n vs vr vw col w Rx Ry w') {c' : Nat} (hc : c ≤ c') : Turn wz base p v0 c' sd cx cy x y n vs vr vw col w Rx Ry w' := by
  obtain ⟨col', h1, h2⟩ := h.ex
  exact ⟨col', h1.more hc, h2⟩

theorem Turn.cells {w' : World} (h : Turn wz base p v0 c sd cx cy x y n vs vr vw col w Rx Ry w') : w'.cell? ⟨sd, 0, none⟩ = some (.pointer (some ⟨x, 0, none⟩)) ∧ w'.cell? ⟨sd, 1, none⟩ = some (.pointer (some ⟨y, 0, none⟩)) ∧
    ∃ gS gW cS cW, w'.cell? ⟨y, 0, none⟩ = some (.slice (some ⟨gS, 0, none⟩) n.streams.length cS) ∧ w'.cell? ⟨y, 1, none⟩ = some (.slice (some ⟨gW, 0, none⟩) n.workers.length cW) := by
  obtain ⟨col', h1, -⟩ := h.ex
  exact h1.cells

theorem Turn.next {Rx' Ry' : Rc} {c' : Nat} {w1 : World} {f : FuncId} {args : Array Value} {P : Ending → Prop} (h : Turn wz base p v0 c sd cx cy x y n vs vr vw col w Rx Ry w1)
    (k : ∀ col1, Sd wz base p v0 c sd cx cy x y n vs vr vw col1 w1 Rx Ry → Calls Tryz.prog f args w1 fun e w' => P e ∧ Turn wz base p v0 c' sd cx cy x y n vs vr vw col1 w1 Rx' Ry' w') :
    Calls Tryz.prog f args w1 fun e w' => P e ∧ Turn wz base p v0 c' sd cx cy x y n vs vr vw col w Rx' Ry' w' := by
  obtain ⟨col1, h1, h2⟩ := h.ex
  refine (k col1 h1).mono fun e w' ⟨q1, q2⟩ => ⟨q1, ?_⟩
  obtain ⟨col2, h3, h4⟩ := q2.ex
  exact ⟨col2, h3, h2.trans h4⟩

set_option maxRecDepth 100000 in
set_option maxHeartbeats 4000000 in
theorem ended_calls {R : Rc} {d : Nat} (h : Sd wz base p v0 c sd cx cy x y n vs vr vw col w R R) (hf : Fine n R d) (hd : d ≤ 1099511627776) (hc : c + 100 ≤ 1099511627776) :
    Calls Tryz.prog 18 #[.pointer (some ⟨p, 0, none⟩), .pointer (some ⟨sd, 0, none⟩)] w fun e w' => e = .returned (.bool true) ∧ Turn wz base p v0 (c + 40) sd cx cy x y n vs vr vw col w R R w' := by
  obtain ⟨hs1, hs8, hw1, hw6⟩ := valid_counts h.ok
  have HLk : Hid (∀ wr (k : Int), Turn wz base p v0 c sd cx cy x y n vs vr vw col w R R wr → Calls Tryz.prog 32 #[.pointer (some ⟨sd, 0, none⟩), .int .i64 k] wr fun e w' => e = .returned (.bool true) ∧ Turn wz base p v0 c sd cx cy x y n vs vr vw col w R R w') := fun wr k ht => ht.next fun col1 h1 => looks_calls h1 k
  have HHi : Hid (∀ wr (k : Int) (j : Nat), j < 10 → Turn wz base p v0 (c + 4 * j) sd cx cy x y n vs vr vw col w R R wr → Calls Tryz.prog 33 #[.pointer (some ⟨p, 0, none⟩), .pointer (some ⟨sd, 0, none⟩), .int .i64 k] wr fun e w' => e = .returned (.bool true) ∧ Turn wz base p v0 (c + 4 * (j + 1)) sd cx cy x y n vs vr vw col w R R w') := fun wr k j hj ht => ht.next fun col1 h1 => by
    have := histories_calls h1 hf hd (by omega) k
    rw [show c + 4 * j + 4 = c + 4 * (j + 1) by omega] at this
    exact this
  have HRo : Hid (∀ wr (k : Int) (j : Nat), Turn wz base p v0 (c + 4 * j) sd cx cy x y n vs vr vw col w R R wr → Calls Tryz.prog 34 #[.pointer (some ⟨sd, 0, none⟩), .int .i64 k] wr fun e w' => e = .returned (.bool true) ∧ Turn wz base p v0 (c + 4 * j) sd cx cy x y n vs vr vw col w R R w') := fun wr k j ht => ht.next fun col1 h1 => rooms_calls h1 hf hd k
  have HT0 := hide h.refl
  clear h hf hd hc
  go_enter Tryz.func18, Tryz.ntmps18
  go_wp2
  go_loopw [5, 6] (fun i _ wr => ∃ j : Nat, j ≤ n.workers.length + 2 ∧ i = .int .i64 ((j : Int) - 1) ∧ Turn wz base p v0 c sd cx cy x y n vs vr vw col w R R wr) (fun i _ _ => n.workers.length + 3 - (intOf i + 1).toNat)
  case atStart => exact ⟨0, Nat.zero_le _, rfl, HT0.out⟩
  case round =>
    clear HT0
    obtain ⟨j, hj, rfl, ht⟩ := hrel
    obtain ⟨s0, s1, gS, gW, cS, cW, y0, y1⟩ := ht.cells
    by_cases hlt : j < n.workers.length + 2
    · have hle : (j : Int) - 1 ≤ (n.workers.length : Int) := by omega
      have HC := hide (HLk.out wr ((j : Int) - 1) ht)
      clear ht
      go_wp2_with fail
      refine (unhide HC).mono ?_
      rintro e w1 ⟨rfl, ht⟩
      have HT1 := hide ht
      clear ht HC
      go_wp2
      go_roundw
      case rel => exact ⟨j + 1, by omega, by go_num, HT1.out⟩
      case measure => simp [intOf]; omega
    · have hgt : ¬ (j : Int) - 1 ≤ (n.workers.length : Int) := by omega
      have HT1 := hide ht
      clear ht HLk
      go_wp2
      go_loopw [7, 8, 9] (fun i _ _ wr => ∃ j : Nat, j ≤ n.streams.length + 2 ∧ i = .int .i64 ((j : Int) - 1) ∧ Turn wz base p v0 (c + 4 * j) sd cx cy x y n vs vr vw col w R R wr) (fun i _ _ _ => n.streams.length + 3 - (intOf i + 1).toNat)
      case atStart => exact ⟨0, Nat.zero_le _, rfl, HT1.out⟩
      case round =>
        clear HT1
        obtain ⟨j, hj, rfl, ht⟩ := hrel
        obtain ⟨s0, s1, gS, gW, cS, cW, y0, y1⟩ := ht.cells
        by_cases hlt : j < n.streams.length + 2
        · have hle : (j : Int) - 1 ≤ (n.streams.length : Int) := by omega
          have HC := hide (HHi.out wr ((j : Int) - 1) j (by omega) ht)
          clear ht
          go_wp2_with fail
          refine (unhide HC).mono ?_
          rintro e w1 ⟨rfl, ht⟩
          have HC1 := hide (HRo.out w1 ((j : Int) - 1) (j + 1) ht)
          clear ht HC
          go_wp2_with fail
          refine (unhide HC1).mono ?_
          rintro e w2 ⟨rfl, ht⟩
          have HT2 := hide ht
          clear ht HC1
          go_wp2
          go_roundw
          case rel => exact ⟨j + 1, by omega, by go_num, HT2.out⟩
          case measure => simp [intOf]; omega
        · have hgt : ¬ (j : Int) - 1 ≤ (n.streams.length : Int) := by omega
          have HT2 : Hid (Turn wz base p v0 (c + 40) sd cx cy x y n vs vr vw col w R R wr) := ht.more (by omega)
          clear ht HHi HRo
          go_wp2
          go_ret
          exact ⟨rfl, HT2.out⟩

end

end Go.Proofs.YthfdgdfnflilfaaGreatDoor
/- The law's step: what a script's call does to a side. Made by mkstep.py. -/
namespace Go.Proofs.YthfdgdfnflilfaaGreatDoor
open Go.RowKit Go.Conc

/-- A call of a script. -/
structure OpV where
  kind : Int
  num : Int
  sched : List Int
  sa : Option Addr
  sc : Nat
  net : Net
  a0 : Option Addr
  c0 : Nat
  a1 : Option Addr
  c1 : Nat
  a2 : Option Addr
  c2 : Nat
  str : ByteArray
  which : Bool

def OpV.vals (o : OpV) : List Value := [.int .i64 o.kind, .int .i64 o.num, .slice o.sa o.sched.length o.sc, .slice o.a0 o.net.streams.length o.c0, .slice o.a1 o.net.sources.length o.c1, .slice o.a2 o.net.workers.length o.c2, .string o.str, .bool o.which]

structure OpAt (w : World) (o : OpV) : Prop where
  sched : IntsAt w (.slice o.sa o.sched.length o.sc) o.sched
  slen : o.sched.length ≤ 1048576
  net : NetAt w (.agg #[.slice o.a0 o.net.streams.length o.c0, .slice o.a1 o.net.sources.length o.c1, .slice o.a2 o.net.workers.length o.c2]) o.net
  short : ShortNet o.net
  str : o.str.size ≤ 1048576
  num : Fits o.num

/-- What a step of a script leaves: the side may be another race. -/
structure Went2 (wz : World) (base p : Nat) (v0 : Value) (c d sd cx cy : Nat) (n : Net) (vs vr vw : Value) (col : Nat → Nat) (w w' : World) : Prop where
  ex : ∃ x y R c', c' ≤ c + 2097152 ∧ Turn wz base p v0 c' sd cx cy x y n vs vr vw col w R R w' ∧ Fine n R (d + 1048576)

/-- The law's step, of kinds up to most. -/
def StepLaw (most : Int) : Prop := ∀ (wz : World) (base p : Nat) (v0 : Value) (c d sd cx cy x y : Nat) (n : Net) (vs vr vw : Value) (col : Nat → Nat) (w : World) (R : Rc) (o : OpV), Sd wz base p v0 c sd cx cy x y n vs vr vw col w R R → Fine n R d → d + 1048576 ≤ 1099511627776 → c + 4194304 ≤ 1099511627776 → OpAt wz o → o.kind ≤ most →
  Calls Tryz.prog 16 #[.pointer (some ⟨p, 0, none⟩), .pointer (some ⟨sd, 0, none⟩), .agg #[.int .i64 o.kind, .int .i64 o.num, .slice o.sa o.sched.length o.sc, .slice o.a0 o.net.streams.length o.c0, .slice o.a1 o.net.sources.length o.c1, .slice o.a2 o.net.workers.length o.c2, .string o.str, .bool o.which]] w fun e w' => e = .returned (.bool true) ∧ Went2 wz base p v0 c d sd cx cy n vs vr vw col w w'

section
variable {wz : World} {base p : Nat} {v0 : Value} {c d sd cx cy x y : Nat} {n : Net} {vs vr vw : Value} {col : Nat → Nat} {w : World} {R : Rc}

theorem Sd.box (h : Sd wz base p v0 c sd cx cy x y n vs vr vw col w R R) (o : Obj) : Sd wz base p v0 c sd cx cy x y n vs vr vw (newcol col w.heap.size 22) (w.alloc o) R R ∧ Did base cx cy col w (newcol col w.heap.size 22) (w.alloc o) :=
  ⟨h.belowQ 22 ((Below.refl _ _).alloc (Nat.le_refl _) _), Did.of_below ((Below.refl _ _).alloc (Nat.le_refl _) _)⟩

theorem Went2.of {col1 : Nat → Nat} {w1 w' : World} {c' : Nat} {R' : Rc} (hd : Did base cx cy col w col1 w1) (ht : Turn wz base p v0 c' sd cx cy x y n vs vr vw col1 w1 R' R' w') (hc : c' ≤ c + 2097152) (hf : Fine n R' (d + 1048576)) : Went2 wz base p v0 c d sd cx cy n vs vr vw col w w' := by
  obtain ⟨col2, h3, h4⟩ := ht.ex
  exact ⟨x, y, R', c', hc, ⟨col2, h3, hd.trans h4⟩, hf⟩

set_option maxRecDepth 100000 in
set_option maxHeartbeats 4000000 in
theorem step_k1 (h : Sd wz base p v0 c sd cx cy x y n vs vr vw col w R R) (hf : Fine n R d) (hd : d + 1048576 ≤ 1099511627776) (hc : c + 4194304 ≤ 1099511627776) {sched : List Int} {sa : Option Addr} {sc : Nat} (hl : IntsAt wz (.slice sa sched.length sc) sched) (hll : sched.length ≤ 1048576) (num : Int) (net : Net) (a0 : Option Addr) (c0 : Nat) (a1 : Option Addr) (c1 : Nat) (a2 : Option Addr) (c2 : Nat) (str : ByteArray) (which : Bool) :
    Calls Tryz.prog 16 #[.pointer (some ⟨p, 0, none⟩), .pointer (some ⟨sd, 0, none⟩), .agg #[.int .i64 1, .int .i64 num, .slice sa sched.length sc, .slice a0 net.streams.length c0, .slice a1 net.sources.length c1, .slice a2 net.workers.length c2, .string str, .bool which]] w fun e w' => e = .returned (.bool true) ∧ Went2 wz base p v0 c d sd cx cy n vs vr vw col w w' := by
  have _hu := And.intro hd (And.intro hc (And.intro hl hll))
  have hbx := h.box (.cells #[.int .i64 1, .int .i64 num, .slice sa sched.length sc, .slice a0 net.streams.length c0, .slice a1 net.sources.length c1, .slice a2 net.workers.length c2, .string str, .bool which] 65)
  have HC : Hid (Calls Tryz.prog 30 #[.pointer (some ⟨sd, 0, none⟩), .int .i64 num] (w.alloc (.cells #[.int .i64 1, .int .i64 num, .slice sa sched.length sc, .slice a0 net.streams.length c0, .slice a1 net.sources.length c1, .slice a2 net.workers.length c2, .string str, .bool which] 65)) fun e w' => e = .returned (.bool true) ∧ Went2 wz base p v0 c d sd cx cy n vs vr vw col w w') := (steps_calls hbx.1 hf (by omega) num).mono fun e w' ⟨q1, R', q2, q3⟩ => ⟨q1, Went2.of hbx.2 q2 (by omega) (q3.mono (by omega))⟩
  clear h hf hd hc hl hll hbx _hu
  go_enter Tryz.func16, Tryz.ntmps16
  go_wp2_with fail
  refine (unhide HC).mono ?_
  rintro e w1 ⟨rfl, ht⟩
  have HT := hide ht
  clear ht HC
  go_wp2
  go_ret
  exact ⟨rfl, HT.out⟩

set_option maxRecDepth 100000 in
set_option maxHeartbeats 4000000 in
theorem step_k2 (h : Sd wz base p v0 c sd cx cy x y n vs vr vw col w R R) (hf : Fine n R d) (hd : d + 1048576 ≤ 1099511627776) (hc : c + 4194304 ≤ 1099511627776) {sched : List Int} {sa : Option Addr} {sc : Nat} (hl : IntsAt wz (.slice sa sched.length sc) sched) (hll : sched.length ≤ 1048576) (num : Int) (net : Net) (a0 : Option Addr) (c0 : Nat) (a1 : Option Addr) (c1 : Nat) (a2 : Option Addr) (c2 : Nat) (str : ByteArray) (which : Bool) :
    Calls Tryz.prog 16 #[.pointer (some ⟨p, 0, none⟩), .pointer (some ⟨sd, 0, none⟩), .agg #[.int .i64 2, .int .i64 num, .slice sa sched.length sc, .slice a0 net.streams.length c0, .slice a1 net.sources.length c1, .slice a2 net.workers.length c2, .string str, .bool which]] w fun e w' => e = .returned (.bool true) ∧ Went2 wz base p v0 c d sd cx cy n vs vr vw col w w' := by
  have _hu := And.intro hd (And.intro hc (And.intro hl hll))
  have hbx := h.box (.cells #[.int .i64 2, .int .i64 num, .slice sa sched.length sc, .slice a0 net.streams.length c0, .slice a1 net.sources.length c1, .slice a2 net.workers.length c2, .string str, .bool which] 65)
  have HC : Hid (Calls Tryz.prog 31 #[.pointer (some ⟨p, 0, none⟩), .pointer (some ⟨sd, 0, none⟩), .slice sa sched.length sc] (w.alloc (.cells #[.int .i64 2, .int .i64 num, .slice sa sched.length sc, .slice a0 net.streams.length c0, .slice a1 net.sources.length c1, .slice a2 net.workers.length c2, .string str, .bool which] 65)) fun e w' => e = .returned (.bool true) ∧ Went2 wz base p v0 c d sd cx cy n vs vr vw col w w') := (runs_calls hbx.1 hf (by omega) (by omega) hl hll).mono fun e w' ⟨q1, R', q2, q3⟩ => ⟨q1, Went2.of hbx.2 q2 (by omega) (q3.mono (by omega))⟩
  clear h hf hd hc hl hll hbx _hu
  go_enter Tryz.func16, Tryz.ntmps16
  go_wp2_with fail
  refine (unhide HC).mono ?_
  rintro e w1 ⟨rfl, ht⟩
  have HT := hide ht
  clear ht HC
  go_wp2
  go_ret
  exact ⟨rfl, HT.out⟩

set_option maxRecDepth 100000 in
set_option maxHeartbeats 4000000 in
theorem step_k3 (h : Sd wz base p v0 c sd cx cy x y n vs vr vw col w R R) (hf : Fine n R d) (hd : d + 1048576 ≤ 1099511627776) (hc : c + 4194304 ≤ 1099511627776) {sched : List Int} {sa : Option Addr} {sc : Nat} (hl : IntsAt wz (.slice sa sched.length sc) sched) (hll : sched.length ≤ 1048576) (num : Int) (net : Net) (a0 : Option Addr) (c0 : Nat) (a1 : Option Addr) (c1 : Nat) (a2 : Option Addr) (c2 : Nat) (str : ByteArray) (which : Bool) :
    Calls Tryz.prog 16 #[.pointer (some ⟨p, 0, none⟩), .pointer (some ⟨sd, 0, none⟩), .agg #[.int .i64 3, .int .i64 num, .slice sa sched.length sc, .slice a0 net.streams.length c0, .slice a1 net.sources.length c1, .slice a2 net.workers.length c2, .string str, .bool which]] w fun e w' => e = .returned (.bool true) ∧ Went2 wz base p v0 c d sd cx cy n vs vr vw col w w' := by
  have _hu := And.intro hd (And.intro hc (And.intro hl hll))
  have hbx := h.box (.cells #[.int .i64 3, .int .i64 num, .slice sa sched.length sc, .slice a0 net.streams.length c0, .slice a1 net.sources.length c1, .slice a2 net.workers.length c2, .string str, .bool which] 65)
  have HC : Hid (Calls Tryz.prog 32 #[.pointer (some ⟨sd, 0, none⟩), .int .i64 num] (w.alloc (.cells #[.int .i64 3, .int .i64 num, .slice sa sched.length sc, .slice a0 net.streams.length c0, .slice a1 net.sources.length c1, .slice a2 net.workers.length c2, .string str, .bool which] 65)) fun e w' => e = .returned (.bool true) ∧ Went2 wz base p v0 c d sd cx cy n vs vr vw col w w') := (looks_calls hbx.1 num).mono fun e w' ⟨q1, q2⟩ => ⟨q1, Went2.of hbx.2 q2 (by omega) (hf.mono (by omega))⟩
  clear h hf hd hc hl hll hbx _hu
  go_enter Tryz.func16, Tryz.ntmps16
  go_wp2_with fail
  refine (unhide HC).mono ?_
  rintro e w1 ⟨rfl, ht⟩
  have HT := hide ht
  clear ht HC
  go_wp2
  go_ret
  exact ⟨rfl, HT.out⟩

set_option maxRecDepth 100000 in
set_option maxHeartbeats 4000000 in
theorem step_k4 (h : Sd wz base p v0 c sd cx cy x y n vs vr vw col w R R) (hf : Fine n R d) (hd : d + 1048576 ≤ 1099511627776) (hc : c + 4194304 ≤ 1099511627776) {sched : List Int} {sa : Option Addr} {sc : Nat} (hl : IntsAt wz (.slice sa sched.length sc) sched) (hll : sched.length ≤ 1048576) (num : Int) (net : Net) (a0 : Option Addr) (c0 : Nat) (a1 : Option Addr) (c1 : Nat) (a2 : Option Addr) (c2 : Nat) (str : ByteArray) (which : Bool) :
    Calls Tryz.prog 16 #[.pointer (some ⟨p, 0, none⟩), .pointer (some ⟨sd, 0, none⟩), .agg #[.int .i64 4, .int .i64 num, .slice sa sched.length sc, .slice a0 net.streams.length c0, .slice a1 net.sources.length c1, .slice a2 net.workers.length c2, .string str, .bool which]] w fun e w' => e = .returned (.bool true) ∧ Went2 wz base p v0 c d sd cx cy n vs vr vw col w w' := by
  have _hu := And.intro hd (And.intro hc (And.intro hl hll))
  have hbx := h.box (.cells #[.int .i64 4, .int .i64 num, .slice sa sched.length sc, .slice a0 net.streams.length c0, .slice a1 net.sources.length c1, .slice a2 net.workers.length c2, .string str, .bool which] 65)
  have HC : Hid (Calls Tryz.prog 33 #[.pointer (some ⟨p, 0, none⟩), .pointer (some ⟨sd, 0, none⟩), .int .i64 num] (w.alloc (.cells #[.int .i64 4, .int .i64 num, .slice sa sched.length sc, .slice a0 net.streams.length c0, .slice a1 net.sources.length c1, .slice a2 net.workers.length c2, .string str, .bool which] 65)) fun e w' => e = .returned (.bool true) ∧ Went2 wz base p v0 c d sd cx cy n vs vr vw col w w') := (histories_calls hbx.1 hf (by omega) (by omega) num).mono fun e w' ⟨q1, q2⟩ => ⟨q1, Went2.of hbx.2 q2 (by omega) (hf.mono (by omega))⟩
  clear h hf hd hc hl hll hbx _hu
  go_enter Tryz.func16, Tryz.ntmps16
  go_wp2_with fail
  refine (unhide HC).mono ?_
  rintro e w1 ⟨rfl, ht⟩
  have HT := hide ht
  clear ht HC
  go_wp2
  go_ret
  exact ⟨rfl, HT.out⟩

set_option maxRecDepth 100000 in
set_option maxHeartbeats 4000000 in
theorem step_k5 (h : Sd wz base p v0 c sd cx cy x y n vs vr vw col w R R) (hf : Fine n R d) (hd : d + 1048576 ≤ 1099511627776) (hc : c + 4194304 ≤ 1099511627776) {sched : List Int} {sa : Option Addr} {sc : Nat} (hl : IntsAt wz (.slice sa sched.length sc) sched) (hll : sched.length ≤ 1048576) (num : Int) (net : Net) (a0 : Option Addr) (c0 : Nat) (a1 : Option Addr) (c1 : Nat) (a2 : Option Addr) (c2 : Nat) (str : ByteArray) (which : Bool) :
    Calls Tryz.prog 16 #[.pointer (some ⟨p, 0, none⟩), .pointer (some ⟨sd, 0, none⟩), .agg #[.int .i64 5, .int .i64 num, .slice sa sched.length sc, .slice a0 net.streams.length c0, .slice a1 net.sources.length c1, .slice a2 net.workers.length c2, .string str, .bool which]] w fun e w' => e = .returned (.bool true) ∧ Went2 wz base p v0 c d sd cx cy n vs vr vw col w w' := by
  have _hu := And.intro hd (And.intro hc (And.intro hl hll))
  have hbx := h.box (.cells #[.int .i64 5, .int .i64 num, .slice sa sched.length sc, .slice a0 net.streams.length c0, .slice a1 net.sources.length c1, .slice a2 net.workers.length c2, .string str, .bool which] 65)
  have HC : Hid (Calls Tryz.prog 34 #[.pointer (some ⟨sd, 0, none⟩), .int .i64 num] (w.alloc (.cells #[.int .i64 5, .int .i64 num, .slice sa sched.length sc, .slice a0 net.streams.length c0, .slice a1 net.sources.length c1, .slice a2 net.workers.length c2, .string str, .bool which] 65)) fun e w' => e = .returned (.bool true) ∧ Went2 wz base p v0 c d sd cx cy n vs vr vw col w w') := (rooms_calls hbx.1 hf (by omega) num).mono fun e w' ⟨q1, q2⟩ => ⟨q1, Went2.of hbx.2 q2 (by omega) (hf.mono (by omega))⟩
  clear h hf hd hc hl hll hbx _hu
  go_enter Tryz.func16, Tryz.ntmps16
  go_wp2_with fail
  refine (unhide HC).mono ?_
  rintro e w1 ⟨rfl, ht⟩
  have HT := hide ht
  clear ht HC
  go_wp2
  go_ret
  exact ⟨rfl, HT.out⟩

set_option maxRecDepth 100000 in
set_option maxHeartbeats 4000000 in
theorem step_k0 (h : Sd wz base p v0 c sd cx cy x y n vs vr vw col w R R) (hf : Fine n R d) (hd : d + 1048576 ≤ 1099511627776) (hc : c + 4194304 ≤ 1099511627776) {sched : List Int} {sa : Option Addr} {sc : Nat} (hl : IntsAt wz (.slice sa sched.length sc) sched) (hll : sched.length ≤ 1048576) (num : Int) (net : Net) (a0 : Option Addr) (c0 : Nat) (a1 : Option Addr) (c1 : Nat) (a2 : Option Addr) (c2 : Nat) (str : ByteArray) (which : Bool) (kind : Int) (q1 : (kind == 1) = false) (q2 : (kind == 2) = false) (q3 : (kind == 3) = false) (q4 : (kind == 4) = false) (q5 : (kind == 5) = false) (q6 : (kind == 6) = false) (q7 : (kind == 7) = false) (q8 : (kind == 8) = false) (q9 : (kind == 9) = false) (q10 : (kind == 10) = false) (q11 : (kind == 11) = false) :
    Calls Tryz.prog 16 #[.pointer (some ⟨p, 0, none⟩), .pointer (some ⟨sd, 0, none⟩), .agg #[.int .i64 kind, .int .i64 num, .slice sa sched.length sc, .slice a0 net.streams.length c0, .slice a1 net.sources.length c1, .slice a2 net.workers.length c2, .string str, .bool which]] w fun e w' => e = .returned (.bool true) ∧ Went2 wz base p v0 c d sd cx cy n vs vr vw col w w' := by
  have _hu := And.intro hd (And.intro hc (And.intro hl hll))
  have hbx := h.box (.cells #[.int .i64 kind, .int .i64 num, .slice sa sched.length sc, .slice a0 net.streams.length c0, .slice a1 net.sources.length c1, .slice a2 net.workers.length c2, .string str, .bool which] 65)
  have HC : Hid (Went2 wz base p v0 c d sd cx cy n vs vr vw col w (w.alloc (.cells #[.int .i64 kind, .int .i64 num, .slice sa sched.length sc, .slice a0 net.streams.length c0, .slice a1 net.sources.length c1, .slice a2 net.workers.length c2, .string str, .bool which] 65))) := Went2.of hbx.2 hbx.1.refl (by omega) (hf.mono (by omega))
  clear h hf hd hc hl hll hbx _hu
  go_enter Tryz.func16, Tryz.ntmps16
  go_wp2
  go_ret
  exact ⟨rfl, HC.out⟩

theorem steps_law : StepLaw 5 := fun wz base p v0 c d sd cx cy x y n vs vr vw col w R o h hf hd hc ho hk => by
  obtain ⟨kind, num, sched, sa, sc, net, a0, c0, a1, c1, a2, c2, str, which⟩ := o
  dsimp only at hk ⊢
  rcases (show kind = 1 ∨ kind = 2 ∨ kind = 3 ∨ kind = 4 ∨ kind = 5 ∨ kind ≤ 0 by omega) with rfl | rfl | rfl | rfl | rfl | h0
  · exact step_k1 h hf hd hc ho.sched ho.slen num net a0 c0 a1 c1 a2 c2 str which
  · exact step_k2 h hf hd hc ho.sched ho.slen num net a0 c0 a1 c1 a2 c2 str which
  · exact step_k3 h hf hd hc ho.sched ho.slen num net a0 c0 a1 c1 a2 c2 str which
  · exact step_k4 h hf hd hc ho.sched ho.slen num net a0 c0 a1 c1 a2 c2 str which
  · exact step_k5 h hf hd hc ho.sched ho.slen num net a0 c0 a1 c1 a2 c2 str which
  · exact step_k0 h hf hd hc ho.sched ho.slen num net a0 c0 a1 c1 a2 c2 str which kind (by simp; omega) (by simp; omega) (by simp; omega) (by simp; omega) (by simp; omega) (by simp; omega) (by simp; omega) (by simp; omega) (by simp; omega) (by simp; omega) (by simp; omega)

end

end Go.Proofs.YthfdgdfnflilfaaGreatDoor
/- The law's play. -/
namespace Go.Proofs.YthfdgdfnflilfaaGreatDoor
open Go.RowKit Go.Conc

/-- A side's places. -/
structure Sdi where
  sd : Nat
  x : Nat
  y : Nat
  n : Net
  vs : Value
  vr : Value
  vw : Value
  R : Rc

/-- All sides, and the book. -/
structure PlayAt (wz : World) (base p : Nat) (v0 : Value) (c d : Nat) (l : List Sdi) (col : Nat → Nat) (w : World) : Prop where
  side : ∀ i (hi : i < l.length), Sd wz base p v0 c l[i].sd (30 + 2 * i) (31 + 2 * i) l[i].x l[i].y l[i].n l[i].vs l[i].vr l[i].vw col w l[i].R l[i].R ∧ Fine l[i].n l[i].R d
  bk : Bk base col w p v0 c
  row : w.ownsRow base 50 1 v0 l.length (l.map fun i => .pointer (some ⟨i.sd, 0, none⟩))
  v0c : ∀ g, v0.ownBlock = some g → col g = 24
  len : l.length ≤ 2
  wzm : Below wz.heap.size wz w
  wzb : wz.heap.size ≤ base

/-- A script. -/
def ScriptAt (w : World) (v : Value) (ops : List OpV) : Prop := (∃ a cap, v = .slice a ops.length cap ∧ ops.length ≤ 149797 ∧ ∀ i (hi : i < ops.length), ∃ b off, a = some ⟨b, off, none⟩ ∧ ∀ j, j < 8 → w.cell? ⟨b, off + i * 8 + j, none⟩ = ops[i].vals[j]?) ∧ ∀ o ∈ ops, OpAt w o

section
variable {wz : World} {base p : Nat} {v0 : Value} {c d : Nat} {l : List Sdi} {col : Nat → Nat} {w : World}

theorem PlayAt.more (h : PlayAt wz base p v0 c d l col w) {c' d' : Nat} (hc : c ≤ c') (hd : d ≤ d') : PlayAt wz base p v0 c' d' l col w :=
  ⟨fun i hi => ⟨(h.side i hi).1.more hc, (h.side i hi).2.mono hd⟩, h.bk.frame (fun _ _ _ => rfl) (fun _ _ _ => rfl) h.bk.low (Nat.le_refl _) hc, h.row, h.v0c, h.len, h.wzm, h.wzb⟩

theorem PlayAt.went {i c' : Nat} {w' : World} (h : PlayAt wz base p v0 c d l col w) (hi : i < l.length) {x' y' : Nat} {R' : Rc} (ht : Turn wz base p v0 c' l[i].sd (30 + 2 * i) (31 + 2 * i) x' y' l[i].n l[i].vs l[i].vr l[i].vw col w R' R' w') {d' : Nat} (hd : d ≤ d') (hf : Fine l[i].n R' d') :
    ∃ col', PlayAt wz base p v0 c' d' (l.set i { l[i] with x := x', y := y', R := R' }) col' w' := by
  obtain ⟨col', h1, h2⟩ := ht.ex
  have hlen := h.len
  have hrow := h2.row (by omega) (by omega) (by rw [List.length_map]; exact h.row) h.v0c
  rw [List.length_map] at hrow
  refine ⟨col', ⟨fun j hj => ?_, h1.bk, ?_, hrow.2, by simpa using h.len, h1.wzm, h1.wzb⟩⟩
  · have hj' : j < l.length := by simpa using hj
    by_cases e : i = j
    · subst e
      rw [List.getElem_set_self]
      exact ⟨h1, hf⟩
    · rw [List.getElem_set_ne e]
      obtain ⟨g1, g2⟩ := h.side j hj'
      exact ⟨⟨g1.at'.did h2 g1.wzm g1.wzb (by omega) (by omega) (by omega) (by omega) (by omega) (by omega) (by omega) (by omega), h1.bk, h1.wzm, h1.wzb, g1.x0, g1.x9, g1.y0, g1.y9, g1.ne, g1.fits, g1.net, g1.short⟩, g2.mono hd⟩
  · have e : (l.set i { l[i] with x := x', y := y', R := R' }).map (fun i => (Value.pointer (some ⟨i.sd, 0, none⟩) : Value)) = l.map fun i => .pointer (some ⟨i.sd, 0, none⟩) := by
      rw [List.map_set]
      dsimp only
      have : (l.map fun i => (Value.pointer (some ⟨i.sd, 0, none⟩) : Value))[i]'(by simpa using hi) = .pointer (some ⟨l[i].sd, 0, none⟩) := by simp
      rw [← this, List.set_getElem_self]
    rw [e, List.length_set]
    exact hrow.1

theorem PlayAt.below {w' : World} (h : PlayAt wz base p v0 c d l col w) (hb : Below w.heap.size w w') : PlayAt wz base p v0 c d l (newcol col w.heap.size 22) w' := by
  have hbl : base ≤ w.heap.size := by
    obtain ⟨cs, hp, -⟩ := h.bk.blk
    exact Nat.le_trans h.bk.ge (Nat.le_of_lt (lt_of_blk hp))
  refine ⟨fun i hi => ⟨(h.side i hi).1.belowQ 22 hb, (h.side i hi).2⟩, h.bk.frame (fun b h' _ => hb.block b h') (fun b h' _ => newcol_old h') (fun b h' => by rw [newcol_old (by omega)]; exact h.bk.low b h') hb.size (Nat.le_refl _), own_of_blockB h.row fun g hg => hb.block g (h.row.lt g hg).2, fun g hg => ?_, h.len, h.wzm.trans (hb.mono h.wzm.size), h.wzb⟩
  rw [newcol_old (h.row.lt g hg).2]; exact h.v0c g hg

/-- The cells that play reads. -/
theorem PlayAt.cells (h : PlayAt wz base p v0 c d l col w) : ∃ a cap, w.cell? ⟨p, 0, none⟩ = some (.slice a l.length cap) ∧ ∀ i (hi : i < l.length), ∃ g, a = some ⟨g, 0, none⟩ ∧ w.cell? ⟨g, i, none⟩ = some (.pointer (some ⟨l[i].sd, 0, none⟩)) := by
  obtain ⟨a, cap, hv, -, hg⟩ := own_row_get h.row
  refine ⟨a, cap, by rw [← hv]; exact h.bk.c0, fun i hi => ?_⟩
  obtain ⟨g, e1, e2⟩ := hg i (by simpa using hi)
  exact ⟨g, e1, by rw [e2]; simp⟩

/-- Between two rounds of play. -/
structure Playing (wz : World) (base p : Nat) (v0 : Value) (c d : Nat) (L : Nat) (w wr : World) : Prop where
  ex : ∃ l col, l.length = L ∧ PlayAt wz base p v0 c d l col wr
  fr : Fr (fun b => base ≤ b) w wr

theorem Playing.step {L i : Nat} {wr : World} {most : Int} (h : Playing wz base p v0 c d L w wr) (hlaw : StepLaw most) (hi : i < L) (hd : d + 1048576 ≤ 1099511627776) (hc : c + 4194304 ≤ 1099511627776) (o : OpV) (ho : OpAt wz o) (hk : o.kind ≤ most) :
    ∃ cap g sd, wr.cell? ⟨p, 0, none⟩ = some (.slice (some ⟨g, 0, none⟩) L cap) ∧ wr.cell? ⟨g, i, none⟩ = some (.pointer (some ⟨sd, 0, none⟩)) ∧
      Calls Tryz.prog 16 #[.pointer (some ⟨p, 0, none⟩), .pointer (some ⟨sd, 0, none⟩), .agg #[.int .i64 o.kind, .int .i64 o.num, .slice o.sa o.sched.length o.sc, .slice o.a0 o.net.streams.length o.c0, .slice o.a1 o.net.sources.length o.c1, .slice o.a2 o.net.workers.length o.c2, .string o.str, .bool o.which]] wr fun e w' => e = .returned (.bool true) ∧ Playing wz base p v0 (c + 2097152) (d + 1048576) L w w' := by
  obtain ⟨l, col, rfl, hp⟩ := h.ex
  obtain ⟨a, cap, q1, q2⟩ := hp.cells
  obtain ⟨g, rfl, q3⟩ := q2 i hi
  obtain ⟨s1, s2⟩ := hp.side i hi
  refine ⟨cap, g, l[i].sd, q1, q3, (hlaw _ _ _ _ _ _ _ _ _ _ _ _ _ _ _ _ _ _ o s1 s2 hd hc ho hk).mono fun e w' ⟨r1, r2⟩ => ⟨r1, ?_⟩⟩
  obtain ⟨x', y', R', c', k1, k2, k3⟩ := r2.ex
  obtain ⟨col', k4⟩ := hp.went hi (k2.more k1) (by omega) k3
  obtain ⟨col2, -, k5⟩ := k2.ex
  exact ⟨⟨_, col', by simp, k4⟩, h.fr.trans (k5.fr.mono fun b _ e => e.1) (fun b _ e => e)⟩

theorem Playing.kept {L : Nat} {wr : World} (h : Playing wz base p v0 c d L w wr) (hc : c ≤ 1099511627776) :
    Calls Tryz.prog 17 #[.pointer (some ⟨p, 0, none⟩)] wr fun e w' => e = .returned (.bool true) ∧ Playing wz base p v0 c d L w w' := by
  obtain ⟨l, col, hl, hp⟩ := h.ex
  refine (hp.bk.kept (by omega)).mono fun e w' ⟨r1, q, r2⟩ => ⟨r1, ?_⟩
  subst r2
  exact ⟨⟨l, _, hl, hp.below (below_drewN (Below.refl _ _) q)⟩, h.fr.drewN q⟩

theorem Playing.ended {L i : Nat} {wr : World} (h : Playing wz base p v0 c d L w wr) (hi : i < L) (hd : d ≤ 1099511627776) (hc : c + 100 ≤ 1099511627776) :
    ∃ cap g sd, wr.cell? ⟨p, 0, none⟩ = some (.slice (some ⟨g, 0, none⟩) L cap) ∧ wr.cell? ⟨g, i, none⟩ = some (.pointer (some ⟨sd, 0, none⟩)) ∧
      Calls Tryz.prog 18 #[.pointer (some ⟨p, 0, none⟩), .pointer (some ⟨sd, 0, none⟩)] wr fun e w' => e = .returned (.bool true) ∧ Playing wz base p v0 (c + 40) d L w w' := by
  obtain ⟨l, col, rfl, hp⟩ := h.ex
  obtain ⟨a, cap, q1, q2⟩ := hp.cells
  obtain ⟨g, rfl, q3⟩ := q2 i hi
  obtain ⟨s1, s2⟩ := hp.side i hi
  refine ⟨cap, g, l[i].sd, q1, q3, (ended_calls s1 s2 hd hc).mono fun e w' ⟨r1, k2⟩ => ⟨r1, ?_⟩⟩
  obtain ⟨col', k4⟩ := hp.went hi k2 (Nat.le_refl _) s2
  obtain ⟨col2, -, k5⟩ := k2.ex
  exact ⟨⟨_, col', by simp, k4⟩, h.fr.trans (k5.fr.mono fun b _ e => e.1) (fun b _ e => e)⟩

theorem Playing.op {L j : Nat} {wr : World} {a : Option Addr} {cap : Nat} {ops : List OpV} (h : Playing wz base p v0 c d L w wr) (hL : 0 < L) (hs : ScriptAt wz (.slice a ops.length cap) ops) (hj : j < ops.length) :
    ∃ b off, a = some ⟨b, off, none⟩ ∧ wr.cell? ⟨b, off + j * 8, none⟩ = some (.int .i64 ops[j].kind) ∧ wr.cell? ⟨b, off + j * 8 + 1, none⟩ = some (.int .i64 ops[j].num) ∧ wr.cell? ⟨b, off + j * 8 + 2, none⟩ = some (.slice ops[j].sa ops[j].sched.length ops[j].sc) ∧ wr.cell? ⟨b, off + j * 8 + 3, none⟩ = some (.slice ops[j].a0 ops[j].net.streams.length ops[j].c0) ∧ wr.cell? ⟨b, off + j * 8 + 4, none⟩ = some (.slice ops[j].a1 ops[j].net.sources.length ops[j].c1) ∧ wr.cell? ⟨b, off + j * 8 + 5, none⟩ = some (.slice ops[j].a2 ops[j].net.workers.length ops[j].c2) ∧ wr.cell? ⟨b, off + j * 8 + 6, none⟩ = some (.string ops[j].str) ∧ wr.cell? ⟨b, off + j * 8 + 7, none⟩ = some (.bool ops[j].which) := by
  obtain ⟨l, col, rfl, hp⟩ := h.ex
  have hz := (hp.side 0 hL).1.wzm
  obtain ⟨⟨a', cap', hv, -, hc⟩, -⟩ := hs
  simp only [Value.slice.injEq, true_and] at hv
  obtain ⟨rfl, rfl⟩ := hv
  obtain ⟨b, off, rfl, hc2⟩ := hc j hj
  have key : ∀ i v, i < 8 → ops[j].vals[i]? = some v → wr.cell? ⟨b, off + j * 8 + i, none⟩ = some v := fun i v hi hv => by
    have e := (hc2 i hi).trans hv
    rw [hz.cell (lt_of_cell e), e]
  exact ⟨b, off, rfl, key 0 _ (by decide) rfl, key 1 _ (by decide) rfl, key 2 _ (by decide) rfl, key 3 _ (by decide) rfl, key 4 _ (by decide) rfl, key 5 _ (by decide) rfl, key 6 _ (by decide) rfl, key 7 _ (by decide) rfl⟩

theorem Playing.more {L c' d' : Nat} {wr : World} (h : Playing wz base p v0 c d L w wr) (hc : c ≤ c') (hd : d ≤ d') : Playing wz base p v0 c' d' L w wr := by
  obtain ⟨l, col, hl, hp⟩ := h.ex
  exact ⟨⟨l, col, hl, hp.more hc hd⟩, h.fr⟩

theorem Playing.row {L : Nat} {wr : World} (h : Playing wz base p v0 c d L w wr) : ∃ a cap, wr.cell? ⟨p, 0, none⟩ = some (.slice a L cap) := by
  obtain ⟨l, col, rfl, hp⟩ := h.ex
  obtain ⟨a, cap, q1, -⟩ := hp.cells
  exact ⟨a, cap, q1⟩

end

set_option maxRecDepth 100000 in
set_option maxHeartbeats 4000000 in
theorem play_calls {wz : World} {base p : Nat} {v0 : Value} {c d L : Nat} {w : World} {most : Int} {v : Value} {ops : List OpV} (h : Playing wz base p v0 c d L w w) (hL : L ≤ 2) (hs : ScriptAt wz v ops) (hlaw : StepLaw most) (hc : c ≤ 1048576000) (hd : d ≤ 1000000) :
    Calls Tryz.prog 9 #[.pointer (some ⟨p, 0, none⟩), v, .int .i64 most] w fun e w' => e = .returned (.bool true) ∧ Fr (fun b => base ≤ b) w w' := by
  obtain ⟨⟨a, cap, rfl, hops, -⟩, hop⟩ := id hs
  have HSc := hide hs
  have HOp := hide hop
  have HPl := hide h
  obtain ⟨ra, rc, p0⟩ := h.row
  clear h hs hop
  go_enter Tryz.func9, Tryz.ntmps9
  go_wp2
  go_loopw [8, 9, 10, 11] (fun i _ _ _ wr => ∃ j : Nat, j ≤ ops.length ∧ i = .int .i64 j ∧ Playing wz base p v0 (c + j * 2097152) (d + j * 1048576) L w wr) (fun i _ _ _ _ => ops.length - (intOf i).toNat)
  case atStart => exact ⟨0, Nat.zero_le _, rfl, by simpa using HPl.out⟩
  case round =>
    clear HPl p0
    obtain ⟨j, hj, rfl, hp⟩ := hrel
    by_cases hgo : j < ops.length ∧ 0 < L
    · obtain ⟨hlt, hL0⟩ := hgo
      obtain ⟨b, off, ha, o0, o1, o2, o3, o4, o5, o6, o7⟩ := hp.op hL0 HSc.out hlt
      have hoat := HOp.out _ (List.getElem_mem hlt)
      have hj0 : (0 : Int) ≤ (j : Int) := by omega
      have hj1 : (j : Int) < (ops.length : Int) := by omega
      have hLi : (0 : Int) < (L : Int) := by omega
      subst ha
      have e1 : c + j * 2097152 + 2097152 = c + (j + 1) * 2097152 := by omega
      have e2 : d + j * 1048576 + 1048576 = d + (j + 1) * 1048576 := by omega
      have HP2 : Hid (Playing wz base p v0 (c + (j + 1) * 2097152) (d + (j + 1) * 1048576) L w wr) := hp.more (by omega) (by omega)
      have HKp : Hid (∀ wx, Playing wz base p v0 (c + (j + 1) * 2097152) (d + (j + 1) * 1048576) L w wx → Calls Tryz.prog 17 #[.pointer (some ⟨p, 0, none⟩)] wx fun e w' => e = .returned (.bool true) ∧ Playing wz base p v0 (c + (j + 1) * 2097152) (d + (j + 1) * 1048576) L w w') := fun wx hx => hx.kept (by omega)
      have HSt : Hid (∀ i, i < L → ops[j].kind ≤ most → ∃ cap g sd, wr.cell? ⟨p, 0, none⟩ = some (.slice (some ⟨g, 0, none⟩) L cap) ∧ wr.cell? ⟨g, i, none⟩ = some (.pointer (some ⟨sd, 0, none⟩)) ∧
          Calls Tryz.prog 16 #[.pointer (some ⟨p, 0, none⟩), .pointer (some ⟨sd, 0, none⟩), .agg #[.int .i64 ops[j].kind, .int .i64 ops[j].num, .slice ops[j].sa ops[j].sched.length ops[j].sc, .slice ops[j].a0 ops[j].net.streams.length ops[j].c0, .slice ops[j].a1 ops[j].net.sources.length ops[j].c1, .slice ops[j].a2 ops[j].net.workers.length ops[j].c2, .string ops[j].str, .bool ops[j].which]] wr fun e w' => e = .returned (.bool true) ∧ Playing wz base p v0 (c + (j + 1) * 2097152) (d + (j + 1) * 1048576) L w w') := fun i hi hk => by
        have := hp.step hlaw hi (by omega) (by omega) ops[j] hoat hk
        rw [e1, e2] at this
        exact this
      clear hp hoat e1 e2
      generalize ops[j] = o at *
      obtain ⟨kind, num, sched, sa, sc, net, a0, c0, a1, c1, a2, c2, str, which⟩ := o
      dsimp only at o0 o1 o2 o3 o4 o5 o6 o7 HSt
      by_cases hkd : kind ≤ most
      · obtain ⟨cap0, g0, sd0, p0, r0, hc0⟩ := HSt.out 0 hL0 hkd
        obtain ⟨cap1, g1, sd1, p1, r1, hc1⟩ := HSt.out (L - 1) (by omega) hkd
        have ep := p0.symm.trans p1
        simp only [Option.some.injEq, Value.slice.injEq, Addr.mk.injEq, and_true, true_and] at ep
        obtain ⟨rfl, rfl⟩ := ep
        have HC0 := hide hc0
        have HC1 := hide hc1
        have hkd' : ¬ most < kind := by omega
        have eL : ((L - 1 : Nat) : Int) = (L : Int) - 1 := by omega
        have hL1 : (0 : Int) ≤ (L : Int) - 1 := by omega
        have hL2 : (L : Int) - 1 < (L : Int) := by omega
        clear hc0 hc1 HSt p1 HP2 hkd
        cases which
        · clear HC1
          go_wp2_with fail
          refine (unhide HC0).mono ?_
          rintro e w1 ⟨rfl, hp1⟩
          have HK1 := hide (HKp.out w1 hp1)
          clear hp1 HC0 HKp
          go_wp2_with fail
          refine (unhide HK1).mono ?_
          rintro e w2 ⟨rfl, hp2⟩
          have HP2 := hide hp2
          clear hp2 HK1
          go_wp2
          go_roundw
          case rel => exact ⟨j + 1, by omega, by go_num, HP2.out⟩
          case measure => simp [intOf]; omega
        · clear HC0
          go_wp2_with fail
          refine (unhide HC1).mono ?_
          rintro e w1 ⟨rfl, hp1⟩
          have HK1 := hide (HKp.out w1 hp1)
          clear hp1 HC1 HKp
          go_wp2_with fail
          refine (unhide HK1).mono ?_
          rintro e w2 ⟨rfl, hp2⟩
          have HP2 := hide hp2
          clear hp2 HK1
          go_wp2
          go_roundw
          case rel => exact ⟨j + 1, by omega, by go_num, HP2.out⟩
          case measure => simp [intOf]; omega
      · have hkd' : most < kind := by omega
        clear HSt HKp hkd
        go_wp2
        go_roundw
        case rel => exact ⟨j + 1, by omega, by go_num, HP2.out⟩
        case measure => simp [intOf]; omega
    · obtain ⟨cc, ecc⟩ : ∃ cc, cc = c + ops.length * 2097152 := ⟨_, rfl⟩
      obtain ⟨dd, edd⟩ : ∃ dd, dd = d + ops.length * 1048576 := ⟨_, rfl⟩
      have HP1 : Hid (Playing wz base p v0 cc dd L w wr) := hp.more (by omega) (by omega)
      have hcc : cc ≤ 1000000000000 := by omega
      have hdd : dd ≤ 1000000000000 := by omega
      clear ecc edd
      have HKp : Hid (∀ wx (i : Nat), i ≤ 2 → Playing wz base p v0 (cc + 40 * i) dd L w wx → Calls Tryz.prog 17 #[.pointer (some ⟨p, 0, none⟩)] wx fun e w' => e = .returned (.bool true) ∧ Playing wz base p v0 (cc + 40 * i) dd L w w') := fun wx i hi hx => hx.kept (by omega)
      have HEn : Hid (∀ wx (i : Nat), i < L → Playing wz base p v0 (cc + 40 * i) dd L w wx → ∃ cap g sd, wx.cell? ⟨p, 0, none⟩ = some (.slice (some ⟨g, 0, none⟩) L cap) ∧ wx.cell? ⟨g, i, none⟩ = some (.pointer (some ⟨sd, 0, none⟩)) ∧
          Calls Tryz.prog 18 #[.pointer (some ⟨p, 0, none⟩), .pointer (some ⟨sd, 0, none⟩)] wx fun e w' => e = .returned (.bool true) ∧ Playing wz base p v0 (cc + 40 * (i + 1)) dd L w w') := fun wx i hi hx => by
        have := hx.ended hi (by omega) (by omega)
        rw [show cc + 40 * i + 40 = cc + 40 * (i + 1) by omega] at this
        exact this
      clear hp HSc HOp hops
      by_cases hjl : j < ops.length
      · have hL0 : ¬ (0 : Int) < (L : Int) := fun h2 => hgo ⟨hjl, by omega⟩
        have hj1 : (j : Int) < (ops.length : Int) := by omega
        go_wp2
        go_loopw [12, 13] (fun i _ wr => ∃ k : Nat, k ≤ L ∧ i = .int .i64 k ∧ Playing wz base p v0 (cc + 40 * k) dd L w wr) (fun i _ _ => L - (intOf i).toNat)
        case atStart => exact ⟨0, Nat.zero_le _, rfl, HP1.out⟩
        case round =>
          clear HP1
          obtain ⟨k, hk, rfl, hp⟩ := hrel
          by_cases hkl : k < L
          · exfalso; omega
          · have hk1 : ¬ (k : Int) < (L : Int) := by omega
            have HK1 := hide (HKp.out wr k (by omega) hp)
            clear hp HKp HEn
            go_wp2_with fail
            refine (unhide HK1).mono ?_
            rintro e w1 ⟨rfl, hp1⟩
            have HP2 := hide hp1.fr
            clear hp1 HK1
            go_wp2
            go_ret
            exact ⟨rfl, HP2.out⟩
      · have hj1 : ¬ (j : Int) < (ops.length : Int) := by omega
        go_wp2
        go_loopw [12, 13] (fun i _ wr => ∃ k : Nat, k ≤ L ∧ i = .int .i64 k ∧ Playing wz base p v0 (cc + 40 * k) dd L w wr) (fun i _ _ => L - (intOf i).toNat)
        case atStart => exact ⟨0, Nat.zero_le _, rfl, HP1.out⟩
        case round =>
          clear HP1
          obtain ⟨k, hk, rfl, hp⟩ := hrel
          by_cases hkl : k < L
          · obtain ⟨cap0, g0, sd0, p0, r0, hc0⟩ := HEn.out wr k hkl hp
            have HC0 := hide hc0
            have hk0 : (0 : Int) ≤ (k : Int) := by omega
            have hk1 : (k : Int) < (L : Int) := by omega
            clear hc0 hp HEn HKp
            go_wp2_with fail
            refine (unhide HC0).mono ?_
            rintro e w1 ⟨rfl, hp1⟩
            have HP2 := hide hp1
            clear hp1 HC0
            go_wp2
            go_roundw
            case rel => exact ⟨k + 1, by omega, by go_num, HP2.out⟩
            case measure => simp [intOf]; omega
          · have hk1 : ¬ (k : Int) < (L : Int) := by omega
            have HK1 := hide (HKp.out wr k (by omega) hp)
            clear hp HKp HEn
            go_wp2_with fail
            refine (unhide HK1).mono ?_
            rintro e w1 ⟨rfl, hp1⟩
            have HP2 := hide hp1.fr
            clear hp1 HK1
            go_wp2
            go_ret
            exact ⟨rfl, HP2.out⟩

end Go.Proofs.YthfdgdfnflilfaaGreatDoor
/- What comes in to a law over a net and three lists. -/
namespace Go.Proofs.YthfdgdfnflilfaaGreatDoor
open Go.ChangeShapes Go.WideShapes Go.ChangeAt Go.RowKit

theorem door_own : ownKnob Tryz.prog.godebug = none := by kernel_rfl

theorem fits_of_short {n : Net} (h : ShortNet n) : NetFits n := by
  refine ⟨fun k hk i hi => ?_, fun s hs x hx => (h.2.2.2.1 s hs).2 x hx⟩
  have hm : codeOf n k ∈ n.workers := by unfold codeOf; rw [getD_eq _ _ _ hk]; exact List.getElem_mem hk
  exact (h.2.2.2.2 _ hm).2 i hi

theorem slice_one {v v' : Value} (h : v.cells.toList = [v']) (hs : ∃ a len cap, v = .slice a len cap) : v = v' := by
  obtain ⟨a, len, cap, rfl⟩ := hs
  simpa [Value.cells] using h

set_option maxRecDepth 100000 in
/-- What comes in to a law over a net and three lists. -/
theorem four_open {H : Type} {enc : TypeId × Value → H} {W : World} {base : Nat} {args : Array Value} {ds : List (DataW H)} {p : List MemPlace}
    (hval : ∀ (j : Nat) t v, #[26, 22, 22, 22][j]? = some t → args[j]? = some v → Value.okWide Tryz.prog W .any base t v)
    (hA : DataW.TrodAll enc Tryz.prog W 0 (fun _ => true) true [26, 22, 22, 22] args.toList ds p) (hk : Rows.uptoBulkAll ds ≤ 1048576) :
    ∃ v0 v1 v2 v3 n rooms one two, args = #[v0, v1, v2, v3] ∧ (∃ d0 d1 d2 d3, ds = [d0, d1, d2, d3]) ∧ NetAt W v0 n ∧ NetFits n ∧ (IntsAt W v1 rooms ∧ ∀ x ∈ rooms, InR x) ∧ (IntsAt W v2 one ∧ one.length ≤ 1048576 ∧ ∀ x ∈ one, InR x) ∧ (IntsAt W v3 two ∧ two.length ≤ 1048576 ∧ ∀ x ∈ two, InR x) := by
  obtain ⟨v0, vs0, d0, ds0, p0, q0, e0, rfl, -, h0, r0⟩ := trodAll_cons hA
  obtain ⟨v1, vs1, d1, ds1, p1, q1, rfl, rfl, -, h1, r1⟩ := trodAll_cons r0
  obtain ⟨v2, vs2, d2, ds2, p2, q2, rfl, rfl, -, h2, r2⟩ := trodAll_cons r1
  obtain ⟨v3, vs3, d3, ds3, p3, q3, rfl, rfl, -, h3, r3⟩ := trodAll_cons r2
  obtain ⟨rfl, rfl, -⟩ := trodAll_nil r3
  obtain rfl : args = #[v0, v1, v2, v3] := by cases args; simp_all
  simp only [Rows.uptoBulkAll] at hk
  obtain ⟨cs0, rfl, -⟩ := okWide_struct Tryz.underlying26 (hval 0 26 v0 rfl rfl)
  obtain ⟨f0, g0⟩ := h0
  obtain ⟨f1, g1⟩ := h1
  obtain ⟨f2, g2⟩ := h2
  obtain ⟨f3, g3⟩ := h3
  obtain ⟨n, hn, hsh⟩ := net_of_trod ⟨_, rfl⟩ g0 (by omega)
  obtain ⟨w1, l1, e1, i1, -, f1⟩ := ints_of_trod g1 (by omega)
  obtain ⟨w2, l2, e2, i2, b2, f2⟩ := ints_of_trod g2 (by omega)
  obtain ⟨w3, l3, e3, i3, b3, f3⟩ := ints_of_trod g3 (by omega)
  have e1' := slice_one e1 (okWide_slice Tryz.underlying22 (hval 1 22 v1 rfl rfl))
  have e2' := slice_one e2 (okWide_slice Tryz.underlying22 (hval 2 22 v2 rfl rfl))
  have e3' := slice_one e3 (okWide_slice Tryz.underlying22 (hval 3 22 v3 rfl rfl))
  subst e1' e2' e3'
  exact ⟨_, _, _, _, n, l1, l2, l3, rfl, ⟨_, _, _, _, rfl⟩, hn, fits_of_short hsh, ⟨i1, f1⟩, ⟨i2, b2, f2⟩, ⟨i3, b3, f3⟩⟩

end Go.Proofs.YthfdgdfnflilfaaGreatDoor

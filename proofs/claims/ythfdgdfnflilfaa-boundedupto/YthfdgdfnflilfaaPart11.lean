/- Part 11: Streams6, Race10, Race11, KeepM, Make1, Make2, Make3, Make4. -/
import Derived.Test.YthfdgdfnflilfaaPart10
/- Package streams: History. -/
namespace Go.Proofs.Ythfdgdfnflilfaa
open Go.RowKit Go.Conc

/-- A stream's history. -/
def histOf (sourced : Bool) (m : Sm) : List Int := if sourced then m.words.take m.read else m.words

theorem own_cells {w : World} {a : Option Addr} {cap : Nat} {l : List Int} (h : w.ownsRow 0 3 1 (.slice a l.length cap) l.length (intRow l)) (k : Nat) (hk : k ≤ l.length) (h0 : 0 < k) :
    ∃ g, a = some ⟨g, 0, none⟩ ∧ ∀ wr : World, wr.heap[g]? = w.heap[g]? → ∀ j u, (intRow (l.take k))[j]? = some u → wr.cell? ((⟨g, 0, none⟩ : Addr).add j) = some u := by
  rcases h.2 with ⟨h3, h4⟩ | ⟨g, cap', cur, hv, hg, hh, hn, hm, hs, ht⟩
  · omega
  · cases hv
    refine ⟨g, rfl, fun wr hwr j u hj => ?_⟩
    have hj' : j < k := by
      have := (List.getElem?_eq_some_iff.1 hj).1
      simp [intRow] at this; omega
    rw [addr_add, Nat.zero_add, cell_of_row wr g j cur 3 (0, 0) (by rw [hwr]; exact hh)]
    have e : (intRow l)[j]? = some u := by
      rw [← hj]; simp only [intRow, List.map_take]
      rw [List.getElem?_take_of_lt hj']
    rw [← ht, List.getElem?_take_of_lt (by omega)] at e
    simpa using e

set_option maxRecDepth 100000 in
set_option maxHeartbeats 1000000 in
theorem shistory_calls {w : World} {b : Nat} {vw : Value} {ch : Option Nat} {sourced : Bool} {m : Sm} (h : StAt w b vw ch sourced m) :
    Calls Try.prog 35 #[.pointer (some ⟨b, 0, none⟩)] w fun e w' => ∃ a' c', e = .returned (.slice a' (histOf sourced m).length c') ∧
      w'.ownsRow w.heap.size 3 1 (.slice a' (histOf sourced m).length c') (histOf sourced m).length (intRow (histOf sourced m)) ∧ Below w.heap.size w w' := by
  obtain ⟨c0, c1, c2, c3, cf⟩ := h.cells
  obtain ⟨i0, hi, hz0, hz1, hz2⟩ := info_parts Try.info3
  obtain ⟨a, cap, rfl, hcap, -⟩ := own_form h.own
  have HO := hide h.own
  have hsm := h.small
  have hle := h.le
  clear c3 cf h
  cases sourced with
  | false =>
    have HN : Hid (0 < m.words.length → ∃ ad : Addr, a = some ad ∧ ∀ j u, (intRow m.words)[j]? = some u → w.cell? (ad.add j) = some u) := fun h0 => by
      obtain ⟨g, hg, hx⟩ := own_cells HO.out _ (Nat.le_refl _) h0
      refine ⟨⟨g, 0, none⟩, hg, fun j u hj => hx w rfl j u ?_⟩
      rw [List.take_length]; exact hj
    have hl : (intRow m.words).length = m.words.length * 1 := by rw [intRow_length]; omega
    have h1 := intRow_one m.words
    have HP : Hid (∀ (a' : Option Addr) (c' : Nat) (w' : World), w'.ownsRow w.heap.size 3 1 (.slice a' m.words.length c') m.words.length (intRow m.words) → w'.ownsRow w.heap.size 3 1 (.slice a' (histOf false m).length c') (histOf false m).length (intRow (histOf false m))) := fun _ _ _ hx => hx
    have e : (histOf false m).length = m.words.length := rfl
    simp only [e] at HP ⊢
    clear e HO
    generalize m.words.length = n at *
    generalize intRow m.words = ws at *
    generalize intRow (histOf false m) = hs at *
    have h63 : n ≤ maxLen := by unfold maxLen; omega
    have hby : n * 8 ≤ 140737488355328 := by omega
    have HL := hide hl
    clear hl
    go_enter Try.func35, Try.ntmps35
    go_wp2_with (at_builtin; refine wpList_append_fresh rfl _ (.tmp 20) 22 rfl 3 i0 (.int .i64 0) 1 8 Try.underlying22 hi hz0 hz1 hz2 rfl (by decide) a n cap ws rfl rfl HL.out HN.out h1 h63 hby ?_)
    intro a' c' w' hown hb
    have HR := hide (HP.out _ _ _ hown)
    have HB := hide hb
    clear hown hb
    go_wp2
    go_ret
    exact ⟨_, _, rfl, HR.out, HB.out⟩
  | true =>
    obtain ⟨n, hn⟩ : ∃ n, n = m.read := ⟨_, rfl⟩
    have HN : Hid (∀ wr : World, (∀ g, g < w.heap.size → wr.heap[g]? = w.heap[g]?) → 0 < m.read → ∃ ad : Addr, a = some ad ∧ ∀ j u, (intRow (m.words.take m.read))[j]? = some u → wr.cell? (ad.add j) = some u) := fun wr hwr h0 => by
      obtain ⟨g, hg, hx⟩ := own_cells HO.out _ hle h0
      refine ⟨⟨g, 0, none⟩, hg, fun j u hj => hx wr (hwr g ?_) j u hj⟩
      obtain ⟨cur, hc⟩ := own_block HO.out (g := g) (by rw [hg]; rfl)
      exact lt_of_blk hc
    have hA : a = none ∧ cap = 0 ∧ m.read = 0 ∧ m.words.length = 0 ∨ ∃ g, a = some ⟨g, 0, none⟩ := by
      rcases HO.out.2 with ⟨h3, h4⟩ | ⟨g, cap', cur, hv, hg, hh, hn, hm, hs, ht⟩
      · simp only [Value.slice.injEq] at h3; exact Or.inl ⟨h3.1, h3.2.2, by omega, h4⟩
      · cases hv; exact Or.inr ⟨g, rfl⟩
    have hl : (intRow (m.words.take m.read)).length = m.read * 1 := by rw [intRow_length]; simp; omega
    have h1 := intRow_one (m.words.take m.read)
    have e : (histOf true m).length = m.read := by simp [histOf]; omega
    have HP : Hid (∀ (a' : Option Addr) (c' : Nat) (w' : World), w'.ownsRow w.heap.size 3 1 (.slice a' m.read c') m.read (intRow (m.words.take m.read)) → w'.ownsRow w.heap.size 3 1 (.slice a' (histOf true m).length c') (histOf true m).length (intRow (histOf true m))) := fun _ _ _ hx => by rw [e]; exact hx
    simp only [e] at HP ⊢
    rw [if_pos rfl] at c2
    clear e HO hn
    generalize intRow (m.words.take m.read) = ws at *
    generalize intRow (histOf true m) = hs at *
    generalize m.read = n at *
    generalize m.words.length = ln at *
    have h63 : n ≤ maxLen := by unfold maxLen; omega
    have hby : n * 8 ≤ 140737488355328 := by omega
    have HL := hide hl
    clear hl
    have hn0 : (0 : Int) ≤ (n : Int) := by omega
    have hnc : (n : Int) ≤ (cap : Int) := by omega
    rcases hA with ⟨rfl, rfl, rfl, rfl⟩ | ⟨g, rfl⟩
    · go_enter Try.func35, Try.ntmps35
      go_wp2
      refine wp_region_still_tail 9 Try.mixed (by kernel_rfl) ?_
      simp only [List.take_succ_cons, List.take_zero, List.drop_succ_cons, List.drop_zero]
      iterate 9 still_step
      refine wpStill_nil ?_
      show wpList _ _ _ _ _ w.drew
      go_wp2_with (at_builtin; refine wpList_append_fresh rfl _ (.tmp 15) 22 rfl 3 i0 (.int .i64 0) 1 8 Try.underlying22 hi hz0 hz1 hz2 rfl (by decide) none 0 0 ws rfl rfl HL.out (HN.out w.drew (fun _ _ => rfl)) h1 h63 hby ?_)
      intro a' c' w' hown hb
      have HR := hide (HP.out _ _ _ hown)
      have HB : Hid (Below w.heap.size w w') := ⟨hb.os, hb.tape, hb.output, hb.size, hb.block⟩
      clear hown hb
      go_wp2
      go_ret
      exact ⟨_, _, rfl, HR.out, HB.out⟩
    · go_enter Try.func35, Try.ntmps35
      go_wp2
      refine wp_region_still_tail 9 Try.mixed (by kernel_rfl) ?_
      simp only [List.take_succ_cons, List.take_zero, List.drop_succ_cons, List.drop_zero]
      iterate 9 still_step
      refine wpStill_nil ?_
      show wpList _ _ _ _ _ w.drew
      go_wp2_with (at_builtin; refine wpList_append_fresh rfl _ (.tmp 15) 22 rfl 3 i0 (.int .i64 0) 1 8 Try.underlying22 hi hz0 hz1 hz2 rfl (by decide) (some ⟨g, 0, none⟩) n cap ws rfl rfl HL.out (HN.out w.drew (fun _ _ => rfl)) h1 h63 hby ?_)
      intro a' c' w' hown hb
      have HR := hide (HP.out _ _ _ hown)
      have HB : Hid (Below w.heap.size w w') := ⟨hb.os, hb.tape, hb.output, hb.size, hb.block⟩
      clear hown hb
      go_wp2
      go_ret
      exact ⟨_, _, rfl, HR.out, HB.out⟩

end Go.Proofs.Ythfdgdfnflilfaa
/- Package millrace: History, Room, Look of what is not there. -/
namespace Go.Proofs.Ythfdgdfnflilfaa
open Go.RowKit Go.Conc

set_option maxHeartbeats 1000000 in
theorem rhistory_calls {L : Lay} {w : World} {N : Net} {R : Rc} (h : RaceAt L w N R) (s : Nat) (hs : s < N.streams.length) :
    Calls Try.prog 16 #[.pointer (some ⟨L.p, 0, none⟩), .int .i64 s] w fun e w' => ∃ a' c', e = .returned (.tuple #[.slice a' (histOf (srcd N s) (R.s s)).length c', .int .i64 0]) ∧
      w'.ownsRow w.heap.size 3 1 (.slice a' (histOf (srcd N s) (R.s s)).length c') (histOf (srcd N s) (R.s s)).length (intRow (histOf (srcd N s) (R.s s))) ∧ Below w.heap.size w w' := by
  have hin : inB (s : Int) N.streams.length = true := by simp [inB]; omega
  have HH := hide (hasStream_calls h s)
  rw [hin] at HH
  have hlen := (valid_counts h.ok).2.1
  obtain ⟨ga, ca, gw, cw, hva, hvw, hc⟩ := h.forms
  obtain ⟨c0, c1, c2, -⟩ := hc w (Below.refl _ _)
  have d0 := c2 s hs
  have HP := hide (shistory_calls (h.env.at' s hs))
  rw [hva] at c0
  have hk0 : (0 : Int) ≤ (s : Int) := by omega
  have hk1 : (s : Int) < (N.streams.length : Int) := by omega
  clear hc c1 c2 hin h hva hvw
  generalize intRow (histOf (srcd N s) (R.s s)) = ir at *
  generalize (histOf (srcd N s) (R.s s)).length = hl at *
  generalize N.streams.length = sl at *
  go_enter Try.func16, Try.ntmps16
  go_wp2_with fail
  refine (unhide HH).mono ?_
  rintro e w1 ⟨rfl, rfl⟩
  go_wp2_with fail
  refine (unhide HP).mono ?_
  rintro e w2 ⟨a', c', rfl, hown, hb⟩
  have HO := hide hown
  have HB := hide hb
  clear hown hb
  go_wp2
  go_ret2
  exact ⟨a', c', rfl, HO.out, HB.out⟩

set_option maxHeartbeats 1000000 in
theorem rhistory_out {L : Lay} {w : World} {N : Net} {R : Rc} (h : RaceAt L w N R) (k : Int) (hk : inB k N.streams.length = false) :
    Calls Try.prog 16 #[.pointer (some ⟨L.p, 0, none⟩), .int .i64 k] w fun e w' => e = .returned (.tuple #[.slice none 0 0, .int .i64 2]) ∧ w' = w := by
  have HH := hide (hasStream_calls h k)
  rw [hk] at HH
  go_enter Try.func16, Try.ntmps16
  go_wp2_with fail
  refine (unhide HH).mono ?_
  rintro e w1 ⟨rfl, rfl⟩
  go_wp2
  go_ret2
  exact ⟨rfl, rfl⟩

set_option maxHeartbeats 1000000 in
theorem rroom_out {L : Lay} {w : World} {N : Net} {R : Rc} (h : RaceAt L w N R) (k : Int) (hk : inB k N.streams.length = false) :
    Calls Try.prog 33 #[.pointer (some ⟨L.p, 0, none⟩), .int .i64 k] w fun e w' => e = .returned (.tuple #[.int .i64 0, .int .i64 0, .int .i64 2]) ∧ w' = w := by
  have HH := hide (hasStream_calls h k)
  rw [hk] at HH
  go_enter Try.func33, Try.ntmps33
  go_wp2_with fail
  refine (unhide HH).mono ?_
  rintro e w1 ⟨rfl, rfl⟩
  go_wp2
  go_ret3
  exact ⟨rfl, rfl⟩

end Go.Proofs.Ythfdgdfnflilfaa
/- Package millrace: Run. -/
namespace Go.Proofs.Ythfdgdfnflilfaa
open Go.RowKit Go.Conc

/-- What comes of a schedule. -/
def runM (N : Net) : List Int → Nat → Rc → Nat × Int × Rc
  | [], d, R => (d, 0, R)
  | k :: ks, d, R => if inB k N.workers.length then (if stateOf N R k.toNat = 1 then runM N ks (d + 1) (doStep N R k.toNat) else runM N ks d R) else (d, 2, R)

set_option maxRecDepth 100000 in
set_option maxHeartbeats 1000000 in
theorem rrun_calls {L : Lay} {w : World} {N : Net} {R : Rc} (h : RaceAt L w N R) {l : List Int} {v : Value} (hv : IntsAt w v l) (hsep : ∀ b, v.ownBlock = some b → ¬ Foot L N b) (hro : RoomR N R) (hw : ∀ s, s < N.streams.length → (R.s s).words.length + l.length < 4398046511104) :
    Calls Try.prog 15 #[.pointer (some ⟨L.p, 0, none⟩), v] w fun e w' =>
      e = .returned (.tuple #[.int .i64 (runM N l 0 R).1, .int .i64 (runM N l 0 R).2.1]) ∧ Went L w N (runM N l 0 R).2.2 w' := by
  obtain ⟨a, cap, rfl, hn, hcap, hc⟩ := hv.openD
  have HC : Hid (∀ wr, Fr (Foot L N) w wr → ∀ k, k < l.length → ∃ b off, a = some ⟨b, off, none⟩ ∧ wr.cell? ⟨b, off + k, none⟩ = some (.int .i64 (l.getD k 0))) := fun wr hf k hk => by
    obtain ⟨b, off, ha, hlt, hd⟩ := hc k hk
    refine ⟨b, off, ha, ?_⟩
    have e := hd w (Below.refl _ _)
    have hb : b < w.heap.size := lt_of_cell e
    rw [← e]
    exact World.cell?_of_block (w := w) (hf.block b hb (hsep b (by rw [ha]; rfl)))
  have HO : Hid (∀ d wx S, Held N R d S → d ≤ l.length → Went L w N S wx → ∀ x : Int, inB x N.workers.length = false → Calls Try.prog 12 #[.pointer (some ⟨L.p, 0, none⟩), .int .i64 x] wx fun e w' => e = .returned (.tuple #[.int .i64 0, .int .i64 2]) ∧ Went L w N S w') := fun d wx S hh hd hq x hx => by
    obtain ⟨L1, r, g, f⟩ := hq.at'
    rw [← g.1.1]
    exact (rstep_out r x hx).mono fun e w' hx => ⟨hx.1, by rw [hx.2]; exact hq⟩
  have HS : Hid (∀ d wx S, Held N R d S → d < l.length → Went L w N S wx → ∀ k : Nat, k < N.workers.length → Calls Try.prog 12 #[.pointer (some ⟨L.p, 0, none⟩), .int .i64 k] wx fun e w' => e = .returned (.tuple #[.int .i64 (stateOf N S k), .int .i64 0]) ∧ Went L w N (if stateOf N S k = 1 then doStep N S k else S) w') := fun d wx S hh hd hq k hk => by
    obtain ⟨L1, r, g, f⟩ := hq.at'
    rw [← g.1.1]
    refine (rstep_calls r k hk (fun s hs => by have := hh.words s hs; have := hw s hs; omega)).mono fun e w' hx => ⟨hx.1, ?_⟩
    rcases hx.2 with ⟨h1, h2⟩ | ⟨h1, h2⟩
    · rw [if_neg h1]; exact hq.below h2
    · rw [if_pos h1]; exact went_next g f h2
  have HH0 : Hid (Held N R 0 R) := ⟨h.lenS, hro, fun s hs => Nat.le_refl _⟩
  have HW0 := hide (Went.refl h)
  have HFr : Hid (∀ S wx, Went L w N S wx → Fr (Foot L N) w wx) := fun S wx hq => by obtain ⟨L1, r, g, f⟩ := hq.at'; exact f
  have HR : Hid (∀ k (hk : k < l.length) d S, runM N (l.drop k) d S = if inB (l.getD k 0) N.workers.length then (if stateOf N S (l.getD k 0).toNat = 1 then runM N (l.drop (k + 1)) (d + 1) (doStep N S (l.getD k 0).toNat) else runM N (l.drop (k + 1)) d S) else (d, 2, S)) := fun k hk d S => by
    rw [List.drop_eq_getElem_cons hk, getD_eq _ _ _ hk]; rfl
  have HR0 : Hid (runM N (l.drop 0) 0 R = runM N l 0 R) := by rw [List.drop_zero]; rfl
  have HRn : Hid (∀ k d S, ¬ k < l.length → runM N (l.drop k) d S = (d, 0, S)) := fun k d S hk => by
    rw [List.drop_eq_nil_of_le (by omega)]; rfl
  clear hw hro h hsep hc hv
  generalize Went L w N = Wn at *
  generalize runM N l 0 R = res at *
  generalize hl : l.length = n at *
  have HL := hide hl
  clear hl
  go_enter Try.func15, Try.ntmps15
  go_wp2
  go_loopw [6, 13] (fun dn i wr => ∃ (k d : Nat) (S : Rc), k ≤ n ∧ d ≤ k ∧ i = .int .i64 k ∧ dn = .int .i64 d ∧ Held N R d S ∧ Wn S wr ∧ runM N (l.drop k) d S = res) (fun _ i _ => n - (intOf i).toNat)
  case atStart => exact ⟨0, 0, R, Nat.zero_le _, Nat.le_refl _, rfl, rfl, HH0.out, HW0.out, HR0.out⟩
  case round =>
    obtain ⟨k, d, S, hk, hd, rfl, rfl, hhe, hwn, hres⟩ := hrel
    have HE := hide hhe
    have HQ := hide hres
    clear hhe hres
    by_cases hlt : k < n
    · obtain ⟨b, off, rfl, e0⟩ := HC.out wr (HFr.out S wr hwn) k hlt
      have HQ1 := hide (HR.out k hlt d S)
      have hk0 : (0 : Int) ≤ (k : Int) := by omega
      have hk1 : (k : Int) < (n : Int) := by omega
      have hd1 : (d : Int) + 1 < 9223372036854775807 := by omega
      clear HR HC
      generalize l.getD k 0 = x at *
      cases hin : inB x N.workers.length
      · have HO1 := hide (HO.out d wr S HE.out (by omega) hwn x hin)
        have HQ2 : Hid (res = (d, 2, S)) := by
          rw [← HQ.out, HQ1.out, hin]; rfl
        clear HQ1 HO HS
        go_wp2_with fail
        refine (unhide HO1).mono ?_
        rintro e w1 ⟨rfl, hw1⟩
        go_wp2
        go_ret2
        exact ⟨by rw [HQ2.out]; rfl, by rw [HQ2.out]; exact hw1⟩
      · obtain ⟨j, rfl⟩ : ∃ j : Nat, x = j := ⟨x.toNat, by simp [inB] at hin; omega⟩
        have hj : j < N.workers.length := by simp [inB] at hin; omega
        have HS1 := hide (HS.out d wr S HE.out (by omega) hwn j hj)
        have HQ2 : Hid (res = if stateOf N S j = 1 then runM N (l.drop (k + 1)) (d + 1) (doStep N S j) else runM N (l.drop (k + 1)) d S) := by
          rw [← HQ.out, HQ1.out, hin]; simp [Hid]
        clear HQ1 HO HS hin hj
        by_cases hy : stateOf N S j = 1
        · rw [hy] at HS1
          have HQ3 : Hid (runM N (l.drop (k + 1)) (d + 1) (doStep N S j) = res) := by rw [HQ2.out, if_pos hy]; rfl
          clear HQ2 hy
          simp only [if_true] at HS1
          go_wp2_with fail
          refine (unhide HS1).mono ?_
          rintro e w1 ⟨rfl, hw1⟩
          go_wp2
          go_roundw
          case rel => exact ⟨k + 1, d + 1, doStep N S j, by omega, by omega, by go_num, by go_num, HE.out.step, hw1, HQ3.out⟩
          case measure => simp [intOf]; omega
        · have hz : ((stateOf N S j : Int) == 1) = false := by simp; omega
          have HQ3 : Hid (runM N (l.drop (k + 1)) d S = res) := by rw [HQ2.out, if_neg hy]; rfl
          rw [if_neg hy] at HS1
          clear HQ2 hy
          generalize stateOf N S j = sv at *
          go_wp2_with fail
          refine (unhide HS1).mono ?_
          rintro e w1 ⟨rfl, hw1⟩
          go_wp2
          go_roundw
          case rel => exact ⟨k + 1, d, S, by omega, by omega, by go_num, rfl, HE.out, hw1, HQ3.out⟩
          case measure => simp [intOf]; omega
    · have HQ2 : Hid (res = (d, 0, S)) := by rw [← HQ.out, HRn.out k d S hlt]; rfl
      clear HR HC
      go_wp2
      go_ret2
      exact ⟨by rw [HQ2.out]; rfl, by rw [HQ2.out]; exact hwn⟩

end Go.Proofs.Ythfdgdfnflilfaa
/- The two races of the head of millracekeep, in the model. No program here. -/
namespace Go.Proofs.Ythfdgdfnflilfaa
open Go.RowKit Go.Conc

def netOne : Net := ⟨[2, 1], [⟨0, [5, 6]⟩], [[⟨1, 0, 0, 4⟩, ⟨4, 0, 0, 0⟩, ⟨2, 0, 1, 0⟩, ⟨9, 0, 0, 0⟩]]⟩
def netTwo : Net := ⟨[1, 1], [], [[⟨2, 0, 0, 0⟩, ⟨2, 0, 0, 0⟩, ⟨2, 0, 1, 0⟩], [⟨1, 0, 1, 0⟩, ⟨1, 0, 0, 0⟩, ⟨1, 0, 0, 0⟩]]⟩

theorem netOne_ok : validB netOne = true := by decide
theorem netTwo_ok : validB netTwo = true := by decide

/-- So many steps of worker 0. -/
def oneAt : Nat → Rc
  | 0 => initR netOne netOne.streams
  | i + 1 => doStep netOne (oneAt i) 0

theorem oneAt_goes : ∀ i, i < 9 → firstGo netOne (oneAt i) netOne.workers.length = some 0 := by
  intro i hi
  have : i = 0 ∨ i = 1 ∨ i = 2 ∨ i = 3 ∨ i = 4 ∨ i = 5 ∨ i = 6 ∨ i = 7 ∨ i = 8 := by omega
  rcases this with rfl | rfl | rfl | rfl | rfl | rfl | rfl | rfl | rfl <;> decide +kernel
theorem oneAt_ends : firstGo netOne (oneAt 9) netOne.workers.length = none := by decide +kernel
theorem oneAt_hist : histOf (srcd netOne 1) ((oneAt 9).s 1) = [10, 12] := by decide +kernel

theorem flow_to (i : Nat) (hi : i ≤ 9) : FlowTo netOne 100 (initR netOne netOne.streams) i (oneAt i) := by
  induction i with
  | zero => exact .refl
  | succ i ih => exact (ih (by omega)).tail (FStep.step (by omega) (oneAt_goes i (by omega)))

theorem flow_one : FlowEnd netOne (initR netOne netOne.streams) 100 9 3 (oneAt 9) := by
  refine ⟨flow_to 9 (Nat.le_refl _), Or.inr ⟨by decide, oneAt_ends, 0, .none fun s hs => ?_⟩⟩
  have : s = 0 ∨ s = 1 := by have : netOne.streams.length = 2 := rfl; omega
  rcases this with rfl | rfl <;> decide +kernel

def twoAt : Rc := doStep netTwo (initR netTwo netTwo.streams) 0
theorem two_a : stateOf netTwo (initR netTwo netTwo.streams) 0 = 1 := by decide +kernel
theorem two_b : stateOf netTwo twoAt 0 = 3 := by decide +kernel
theorem two_c : stateOf netTwo twoAt 1 = 2 := by decide +kernel
theorem two_d : Grows netTwo twoAt (0 : Nat) 0 (some 0) := by
  refine .grows (by decide +kernel) ⟨by decide, by decide +kernel, fun s hs _ => ?_⟩ (by decide +kernel)
  have : s = 0 ∨ s = 1 := by have : netTwo.streams.length = 2 := rfl; omega
  rcases this with rfl | rfl
  · exact Or.inr ⟨rfl, Nat.le_refl _⟩
  · exact Or.inr ⟨by decide +kernel, by decide⟩
theorem two_o : Grows netTwo (growS twoAt 0) 0 3 none := .goes (by decide +kernel)

/-- Rooms of a new race are those of its net. -/
theorem init_room {N : Net} (h : validB N = true) : ∀ s (hs : s < N.streams.length), ((initR N N.streams).s s).room = N.streams[s].toNat ∧ 1 ≤ N.streams[s] ∧ N.streams[s] ≤ 6 := by
  intro s hs
  have h1 : 1 ≤ N.streams[s] ∧ N.streams[s] ≤ 6 := by
    simp only [validB, validStreamsB, Bool.and_eq_true] at h
    have := List.all_eq_true.1 h.1.1.1.2 N.streams[s] (List.getElem_mem hs)
    simpa using this
  refine ⟨?_, h1⟩
  simp [Rc.s, initR, List.getD, hs]
theorem init_roomR {N : Net} (h : validB N = true) : RoomR N (initR N N.streams) := fun s hs => by
  obtain ⟨h1, h2, h3⟩ := init_room h s hs
  rw [h1]; omega
theorem init_words {N : Net} (h : validB N = true) : ∀ s, s < N.streams.length → ((initR N N.streams).s s).words.length ≤ 50 := by
  intro s hs
  have e : ((initR N N.streams).s s).words = if srcd N s then srcWords N s else [] := by simp [Rc.s, initR, List.getD, hs]
  rw [e]
  split
  · have hq : validSourcesB N.sources N.streams.length = true := by
      simp only [validB, Bool.and_eq_true] at h; exact h.1.1.2
    unfold srcWords
    cases hf : N.sources.find? fun x => x.stream == (s : Int) with
    | none => simp
    | some x =>
      have hm := List.mem_of_find?_eq_some hf
      obtain ⟨j, hj, rfl⟩ := List.getElem_of_mem hm
      have := List.all_eq_true.1 hq j (List.mem_range.2 hj)
      rw [getD_eq _ _ _ hj] at this
      simp only [Bool.and_eq_true, decide_eq_true_eq] at this
      simpa using this.1.2
  · simp

end Go.Proofs.Ythfdgdfnflilfaa
/- What makes streams and workers: Unread, WithRoom, FromSource, workers.New. -/
namespace Go.Proofs.Ythfdgdfnflilfaa
open Go.RowKit Go.Conc

/-- A stream that is new. -/
def NewSt (w : World) (src : Bool) (m : Sm) (some' : Bool) (e : Ending) (w' : World) : Prop :=
  ∃ b vw ch, e = .returned (.pointer (some ⟨b, 0, none⟩)) ∧ StAt w' b vw ch src m ∧ Below w.heap.size w w' ∧ w.heap.size ≤ b ∧ (∀ g, vw.ownBlock = some g → w.heap.size ≤ g) ∧ (∀ c, ch = some c → w.heap.size ≤ c) ∧ ch.isSome = some'

set_option maxHeartbeats 1000000 in
theorem unread_calls (w : World) (r : Nat) : Calls Try.prog 48 #[.int .i64 r] w fun e w' => NewSt w false ⟨[], 0, r⟩ false e w' := by
  go_enter Try.func48, Try.ntmps48
  go_wp2
  go_ret
  refine ⟨w.heap.size, .slice none 0 0, none, rfl, ⟨heap_alloc_new _ _, ⟨rfl, Or.inl ⟨rfl, rfl⟩⟩, Nat.le_refl _, by simp, fun c hc => (by cases hc), fun c hc => (by cases hc)⟩, (Below.refl _ _).alloc (Nat.le_refl _) _, Nat.le_refl _, fun g hg => (by cases hg), fun c hc => (by cases hc), rfl⟩

set_option maxHeartbeats 1000000 in
theorem withRoom_calls (w : World) (r : Nat) (hr : r ≤ 1000) : Calls Try.prog 47 #[.int .i64 r] w fun e w' => NewSt w false ⟨[], 0, r⟩ true e w' := by
  obtain ⟨i0, hi, hi8⟩ := Try.infoInt
  have hmk := fun (wx : World) => run_makeChan (P := Try.prog) (w := wx) (t := 115) Try.underlying115 hi .i64 r (by omega) (by rw [hi8]; omega)
  go_enter Try.func47, Try.ntmps47
  go_wp2
  go_ret
  have hb1 : Below w.heap.size w (w.alloc (.chan r #[] false 0 0 false)) := (Below.refl _ _).alloc (Nat.le_refl _) _
  refine ⟨w.heap.size + 1, .slice none 0 0, some w.heap.size, rfl, ⟨?_, ⟨rfl, Or.inl ⟨rfl, rfl⟩⟩, Nat.le_refl _, by simp, fun c hc => ?_, fun c hc => rfl⟩, hb1.alloc hb1.size _, Nat.le_succ _, fun g hg => (by cases hg), fun c hc => (by cases hc; exact Nat.le_refl _), rfl⟩
  · have := heap_alloc_new (w.alloc (.chan r #[] false 0 0 false)) (.cells #[.bool false, .slice none 0 0, .int .i64 0, .chan (some w.heap.size), .int .i64 0] 117)
    simpa using this
  · cases hc
    refine ⟨⟨0, 0, ?_⟩, by simp, hr⟩
    rw [Below.heap_alloc _ _ _ (by simp)]
    exact heap_alloc_new _ _

set_option maxHeartbeats 1000000 in
theorem fromSource_calls {w : World} {v : Value} {l : List Int} (hv : IntsAt w v l) (hl : l.length ≤ 1048576) (r : Nat) : Calls Try.prog 49 #[v] w fun e w' => NewSt w true ⟨l, 0, r⟩ false e w' := by
  obtain ⟨i0, hi, hz0, hz1, hz2⟩ := info_parts Try.info3
  obtain ⟨a, cap, rfl, -, -, -⟩ := hv.openD
  have HN : Hid (0 < l.length → ∃ ad : Addr, a = some ad ∧ ∀ j u, (intRow l)[j]? = some u → w.cell? (ad.add j) = some u) := fun h0 => by
    obtain ⟨ad, hg, -, hx⟩ := ints_cells hv h0
    exact ⟨ad, hg, fun j u hj => hx w (Below.refl _ _) j u hj⟩
  have HL : Hid ((intRow l).length = l.length * 1) := by rw [intRow_length]; simp [Hid]
  have h1 := intRow_one l
  have h63 : l.length ≤ maxLen := by unfold maxLen; omega
  have hby : l.length * 8 ≤ 140737488355328 := by omega
  have HF : Hid (∀ (a' : Option Addr) (c' : Nat) (w1 : World), w1.ownsRow w.heap.size 3 1 (.slice a' l.length c') l.length (intRow l) → Below w.heap.size w w1 → NewSt w true ⟨l, 0, r⟩ false (.returned (.pointer (some ⟨w1.heap.size, 0, none⟩))) (w1.alloc (.cells #[.bool true, .slice a' l.length c', .int .i64 0, .chan none, .int .i64 0] 117))) := fun a' c' w1 ho hb => by
    refine ⟨w1.heap.size, .slice a' l.length c', none, rfl, ⟨heap_alloc_new _ _, ?_, Nat.zero_le _, by dsimp only; omega, fun c hc => (by cases hc), fun c hc => (by cases hc)⟩, hb.alloc hb.size _, hb.size, fun g hg => ?_, fun c hc => (by cases hc), rfl⟩
    · have ho0 : w1.ownsRow 0 3 1 (.slice a' l.length c') l.length (intRow l) := by
        rcases ho with ⟨q1, q2 | ⟨g, cap, cur, q2, q3, q4⟩⟩
        · exact ⟨q1, Or.inl q2⟩
        · exact ⟨q1, Or.inr ⟨g, cap, cur, q2, Nat.zero_le _, q4⟩⟩
      exact ho0.alloc _
    · rcases ho with ⟨q1, q2 | ⟨g', cap, cur, q2, q3, q4⟩⟩
      · rw [q2.1] at hg; cases hg
      · rw [q2] at hg; cases hg; exact q3
  clear hv
  generalize l.length = n at *
  generalize intRow l = ws at *
  go_enter Try.func49, Try.ntmps49
  go_wp2_with (at_builtin; refine wpList_append_fresh rfl _ (.tmp 3) 22 rfl 3 i0 (.int .i64 0) 1 8 Try.underlying22 hi hz0 hz1 hz2 rfl (by decide) a n cap ws rfl rfl HL.out HN.out h1 h63 hby ?_)
  intro a' c' w1 hown hb
  have HR := hide (HF.out _ _ _ hown hb)
  clear hown hb
  go_wp2
  go_ret
  exact HR.out

end Go.Proofs.Ythfdgdfnflilfaa
/- What makes workers: workers.New, newWorkers. -/
namespace Go.Proofs.Ythfdgdfnflilfaa
open Go.RowKit Go.Conc

theorem Try.infoIns : (Try.prog.info? 56).map (fun i => (i.zero, i.size, i.bytes)) = some (some (.agg #[.int .i64 0, .int .i64 0, .int .i64 0, .int .i64 0]), 4, 32) := by kernel_rfl

theorem codeRow_one (l : List Ins) : ∀ u ∈ codeRow l, u.oneCell' = true := by
  intro u hu
  simp only [codeRow, List.mem_flatMap] at hu
  obtain ⟨x, -, hx⟩ := hu
  simp only [List.mem_cons, List.not_mem_nil, or_false] at hx
  rcases hx with rfl | rfl | rfl | rfl <;> rfl

theorem code_cells {w : World} {a : Option Addr} {l : List Ins} {n cap : Nat} (h : CodeAt w (.slice a n cap) l) (h0 : 0 < l.length) : ∃ ad : Addr, a = some ad ∧ ad.spot = none ∧ ∀ j u, (codeRow l)[j]? = some u → w.cell? (ad.add j) = some u := by
  obtain ⟨a', cap', hv, hn, hcap, hc⟩ := h
  cases hv
  rcases hc with hz | ⟨b, off, ha, hc⟩
  · omega
  · refine ⟨⟨b, off, none⟩, ha, rfl, fun j u hj => ?_⟩
    have hjl : j < l.length * 4 := by
      have := (List.getElem?_eq_some_iff.1 hj).1
      rw [codeRow_length] at this; exact this
    have hd : j / 4 < l.length := by omega
    have e := codeRow_get l (j / 4) hd (j % 4) (by omega)
    have ej : j / 4 * 4 + j % 4 = j := by omega
    rw [ej, hj] at e
    have := hc (j / 4) hd (j % 4) (by omega)
    rw [addr_add]
    rw [Nat.add_assoc, ej] at this
    rw [this, e]; dsimp only; rw [getD_eq _ _ _ hd]

/-- A worker that is new. -/
def NewWk (w : World) (code : List Ins) (e : Ending) (w' : World) : Prop :=
  ∃ b vc, e = .returned (.pointer (some ⟨b, 0, none⟩)) ∧ WkAt w' b vc code ⟨0, fun _ => 0, 0⟩ ∧ Below w.heap.size w w' ∧ w.heap.size ≤ b ∧ (∀ g, vc.ownBlock = some g → w.heap.size ≤ g)

set_option maxHeartbeats 1000000 in
theorem wnew_calls {w : World} {v : Value} {code : List Ins} (hv : CodeAt w v code) (hl : code.length ≤ 20) : Calls Try.prog 50 #[v] w fun e w' => NewWk w code e w' := by
  obtain ⟨i0, hi, hz0, hz1, hz2⟩ := info_parts Try.infoIns
  obtain ⟨a, cap, rfl⟩ := hv.form
  have HN : Hid (0 < code.length → ∃ ad : Addr, a = some ad ∧ ∀ j u, (codeRow code)[j]? = some u → w.cell? (ad.add j) = some u) := fun h0 => by
    obtain ⟨ad, hg, -, hx⟩ := code_cells hv h0
    exact ⟨ad, hg, hx⟩
  have HL : Hid ((codeRow code).length = code.length * 4) := codeRow_length code
  have h1 := codeRow_one code
  have h63 : code.length ≤ maxLen := by unfold maxLen; omega
  have hby : code.length * 32 ≤ 140737488355328 := by omega
  have HF : Hid (∀ (a' : Option Addr) (c' : Nat) (w1 : World), w1.ownsRow w.heap.size 56 4 (.slice a' code.length c') code.length (codeRow code) → Below w.heap.size w w1 → NewWk w code (.returned (.pointer (some ⟨w1.heap.size, 0, none⟩))) (w1.alloc (.cells #[.slice a' code.length c', .int .i64 0, .int .i64 0, .int .i64 0, .int .i64 0, .int .i64 0, .int .i64 0] 113))) := fun a' c' w1 ho hb => by
    refine ⟨w1.heap.size, .slice a' code.length c', rfl, ⟨heap_alloc_new _ _, ?_, Nat.zero_le _, hl⟩, hb.alloc hb.size _, hb.size, fun g hg => ?_⟩
    · have ho0 : w1.ownsRow 0 56 4 (.slice a' code.length c') code.length (codeRow code) := by
        rcases ho with ⟨q1, q2 | ⟨g, cap, cur, q2, q3, q4⟩⟩
        · exact ⟨q1, Or.inl q2⟩
        · exact ⟨q1, Or.inr ⟨g, cap, cur, q2, Nat.zero_le _, q4⟩⟩
      exact ho0.alloc _
    · rcases ho with ⟨q1, q2 | ⟨g', cap, cur, q2, q3, q4⟩⟩
      · rw [q2.1] at hg; cases hg
      · rw [q2] at hg; cases hg; exact q3
  clear hv hl
  generalize code.length = n at *
  generalize codeRow code = ws at *
  go_enter Try.func50, Try.ntmps50
  go_wp2_with (at_builtin; refine wpList_append_fresh rfl _ (.tmp 3) 57 rfl 56 i0 (.agg #[.int .i64 0, .int .i64 0, .int .i64 0, .int .i64 0]) 4 32 Try.underlying57 hi hz0 hz1 hz2 rfl (by decide) a n cap ws rfl rfl HL.out HN.out h1 h63 hby ?_)
  intro a' c' w1 hown hb
  have HR := hide (HF.out _ _ _ hown hb)
  clear hown hb
  go_wp2
  go_ret
  exact HR.out

end Go.Proofs.Ythfdgdfnflilfaa
/- newWorkers: a row of new workers. -/
namespace Go.Proofs.Ythfdgdfnflilfaa
open Go.RowKit Go.Conc

theorem Try.infoPW : (Try.prog.info? 81).map (fun i => (i.zero, i.size, i.bytes)) = some (some (.pointer none), 1, 8) := by kernel_rfl

/-- A row g of pointers whose first k are new workers' (of the programs ws), made above base. -/
structure RowW (base g : Nat) (ws : List (List Ins)) (k : Nat) (wb : Nat → Nat) (VC : Nat → Value) (w : World) : Prop where
  row : ∃ cs : List Value, w.heap[g]? = some (.cells cs.toArray 81 (0, 0)) ∧ cs.length = ws.length ∧ (∀ i, i < k → cs[i]? = some (.pointer (some ⟨wb i, 0, none⟩)))
  wk : ∀ i, i < k → WkAt w (wb i) (VC i) (ws.getD i []) ⟨0, fun _ => 0, 0⟩
  base : base ≤ g ∧ ∀ i, i < k → base ≤ wb i ∧ ∀ q, (VC i).ownBlock = some q → base ≤ q
  inj : ∀ i j, i < j → j < k → wb i < wb j

theorem RowW.below {base g : Nat} {ws : List (List Ins)} {k : Nat} {wb : Nat → Nat} {VC : Nat → Value} {w w' : World} (h : RowW base g ws k wb VC w) (hb : Below w.heap.size w w') : RowW base g ws k wb VC w' := by
  obtain ⟨cs, hg, hl, hc⟩ := h.row
  exact ⟨⟨cs, by rw [hb.block _ (lt_of_blk hg)]; exact hg, hl, hc⟩, fun i hi => (h.wk i hi).below hb, h.base, h.inj⟩

theorem RowW.next {base g : Nat} {ws : List (List Ins)} {k : Nat} {wb : Nat → Nat} {VC : Nat → Value} {w w1 : World} {b : Nat} {vc : Value} (h : RowW base g ws k wb VC w) (hk : k < ws.length)
    (hs : base ≤ w.heap.size) (hb : Below w.heap.size w w1) (hw : WkAt w1 b vc (ws.getD k []) ⟨0, fun _ => 0, 0⟩) (hbb : w.heap.size ≤ b) (hvc : ∀ q, vc.ownBlock = some q → w.heap.size ≤ q) :
    RowW base g ws (k + 1) (fun i => if i = k then b else wb i) (fun i => if i = k then vc else VC i) (w1.setCell ⟨g, k, none⟩ (.pointer (some ⟨b, 0, none⟩))) ∧ w1.cell? ⟨g, k, none⟩ ≠ none ∧ w1.frozen? ⟨g, k, none⟩ = false := by
  have h1 := h.below hb
  obtain ⟨cs, hg, hl, hc⟩ := h1.row
  have stay : ∀ {b' : Nat} {vc' : Value} {c : List Ins}, WkAt w1 b' vc' c ⟨0, fun _ => 0, 0⟩ → WkAt (w1.setCell ⟨g, k, none⟩ (.pointer (some ⟨b, 0, none⟩))) b' vc' c ⟨0, fun _ => 0, 0⟩ := fun hW => by
    refine hW.stays fun y hy => Below.heap_setCell _ _ _ _ ?_
    rcases hy with rfl | hy
    · exact ne_of_types hW.blk hg (by decide)
    · obtain ⟨cur, hcur⟩ := own_block hW.own hy
      exact ne_of_types hcur hg (by decide)
  refine ⟨⟨⟨cs.set k (.pointer (some ⟨b, 0, none⟩)), blk_set hg k _, by simpa using hl, fun i hi => ?_⟩, fun i hi => ?_, ⟨h.base.1, fun i hi => ?_⟩, fun i j hij hj => ?_⟩, ?_, row_frozen hg k⟩
  · by_cases e : i = k
    · subst e; rw [if_pos rfl]; rw [List.getElem?_set_self (by omega)]
    · rw [if_neg e, List.getElem?_set_ne (fun e' => e e'.symm)]; exact hc i (by omega)
  · by_cases e : i = k
    · subst e; rw [if_pos rfl, if_pos rfl]; exact stay hw
    · rw [if_neg e, if_neg e]; exact stay (h1.wk i (by omega))
  · by_cases e : i = k
    · subst e; rw [if_pos rfl, if_pos rfl]; exact ⟨by omega, fun q hq => by have := hvc q hq; omega⟩
    · rw [if_neg e, if_neg e]; exact h.base.2 i (by omega)
  · rw [if_neg (show i ≠ k by omega)]
    by_cases e : j = k
    · rw [if_pos e]
      have := lt_of_blk (h.wk i (by omega)).blk
      omega
    · rw [if_neg e]; exact h.inj i j hij (by omega)
  · have : cs[k]? = some (cs[k]'(by omega)) := List.getElem?_eq_getElem (by omega)
    rw [row_cell hg this]; simp

set_option maxRecDepth 100000 in
set_option maxHeartbeats 1000000 in
theorem newWorkers_calls {n : Net} {v : Value} {w : World} (h : NetAt w v n) (hl6 : n.workers.length ≤ 6) (hl20 : ∀ c ∈ n.workers, c.length ≤ 20) :
    Calls Try.prog 25 #[v] w fun e w' => ∃ g wb VC, e = .returned (.slice (some ⟨g, 0, none⟩) n.workers.length n.workers.length) ∧ RowW w.heap.size g n.workers n.workers.length wb VC w' ∧ Below w.heap.size w w' := by
  obtain ⟨vs, vr, vw, rfl, h1, h2, h3⟩ := h
  obtain ⟨sa, sc, rfl⟩ := h1.form
  obtain ⟨ar, cr, rfl⟩ := h2.form
  obtain ⟨aw, cw, rfl, hwn, -, hc⟩ := h3.open
  have hmk := run_make_row' (P := Try.prog) 76 81 (.pointer none) 8 Try.underlying76 Try.infoPW rfl .i64 .i64 n.workers.length (by omega) (by omega)
  rw [madeCells_zrow] at hmk
  have HC : Hid (∀ wr, Below w.heap.size w wr → ∀ k (hk : k < n.workers.length), ∃ b off u cap', aw = some ⟨b, off, none⟩ ∧ wr.cell? ⟨b, off + k, none⟩ = some (.slice u (n.workers.getD k []).length cap') ∧ Calls Try.prog 50 #[.slice u (n.workers.getD k []).length cap'] wr fun e w' => NewWk wr (n.workers.getD k []) e w') := fun wr hb k hk => by
    obtain ⟨b, off, u, ha, hcell, hcode⟩ := hc wr hb k hk
    rw [getD_eq _ _ _ hk]
    obtain ⟨ua, uc, rfl⟩ := hcode.form
    exact ⟨b, off, ua, uc, ha, hcell, wnew_calls hcode (hl20 _ (List.getElem_mem hk))⟩
  have HZ : Hid (∀ (w1 : World), RowW w.heap.size w1.heap.size n.workers 0 (fun _ => 0) (fun _ => .bool false) (w1.alloc (.cells (zrow (.pointer none) n.workers.length) 81)) ∨ w1.heap.size < w.heap.size) := fun w1 => by
    rcases Nat.lt_or_ge w1.heap.size w.heap.size with hlt | hge
    · exact Or.inr hlt
    · refine Or.inl ⟨⟨(zrow (.pointer none) n.workers.length).toList, by simpa using heap_alloc_new _ _, by simp [zrow], fun i hi => by omega⟩, fun i hi => by omega, ⟨hge, fun i hi => by omega⟩, fun i j _ hj => by omega⟩
  clear h1 h2 h3 hc hl20
  generalize n.workers = ws at *
  generalize hq : ws.length = wl at *
  have HWL := hide hq
  clear hq
  generalize n.sources.length = rl at *
  generalize n.streams.length = sl at *
  go_enter Try.func25, Try.ntmps25
  go_wp2
  go_loopw [13] (fun i wr => ∃ (k : Nat) (wb : Nat → Nat) (VC : Nat → Value), k ≤ wl ∧ i = .int .i64 k ∧ Below (w.heap.size + 1) (w.alloc (.cells #[.slice sa sl sc, .slice ar rl cr, .slice aw wl cw] 26)) wr ∧ RowW w.heap.size (w.heap.size + 1) ws k wb VC wr) (fun i _ => wl - (intOf i).toNat)
  case atStart =>
    have hz := HZ.out (w.alloc (.cells #[.slice sa sl sc, .slice ar rl cr, .slice aw wl cw] 26))
    refine ⟨0, fun _ => 0, fun _ => .bool false, Nat.zero_le _, rfl, ?_, ?_⟩
    · have hb0 : Below (w.heap.size + 1) (w.alloc (.cells #[.slice sa sl sc, .slice ar rl cr, .slice aw wl cw] 26)) (w.alloc (.cells #[.slice sa sl sc, .slice ar rl cr, .slice aw wl cw] 26)) := Below.refl _ _
      exact hb0.alloc (by simp) _
    · rcases hz with hz | hz
      · simpa using hz
      · simp at hz; omega
  case round =>
    obtain ⟨k, wb, VC, hk, rfl, hbl, hrow⟩ := hrel
    have hb0 : Below w.heap.size w wr := below_box hbl
    have HB := hide hbl
    have HRo := hide hrow
    by_cases hlt : k < wl
    · obtain ⟨b, off, u, cap', rfl, d0, hnew⟩ := HC.out wr hb0 k hlt
      have HNw := hide hnew
      have HX : Hid (∀ e w1, NewWk wr (ws.getD k []) e w1 → ∃ b1, e = .returned (.pointer (some ⟨b1, 0, none⟩)) ∧ (∃ x, w1.cell? ⟨w.heap.size + 1, k, none⟩ = some x) ∧ w1.frozen? ⟨w.heap.size + 1, k, none⟩ = false ∧
          ∃ wb' VC', Below (w.heap.size + 1) (w.alloc (.cells #[.slice sa sl sc, .slice ar rl cr, .slice (some ⟨b, off, none⟩) wl cw] 26)) (w1.setCell ⟨w.heap.size + 1, k, none⟩ (.pointer (some ⟨b1, 0, none⟩))) ∧ RowW w.heap.size (w.heap.size + 1) ws (k + 1) wb' VC' (w1.setCell ⟨w.heap.size + 1, k, none⟩ (.pointer (some ⟨b1, 0, none⟩)))) := fun e w1 hn => by
        obtain ⟨b1, vc, he, hwk, hb1, hbb, hvc⟩ := hn
        obtain ⟨r1, r2, r3⟩ := hrow.next (by rw [HWL.out]; exact hlt) hb0.size hb1 hwk hbb hvc
        have hsz : w.heap.size + 1 ≤ wr.heap.size := by have := hbl.size; simpa using this
        have hb2 := hbl.trans (hb1.mono hsz)
        refine ⟨b1, he, Option.ne_none_iff_exists'.1 r2, r3, _, _, ?_, r1⟩
        exact hb2.setCell (p := ⟨w.heap.size + 1, k, none⟩) (Nat.le_refl _) _
      have hk0 : (0 : Int) ≤ (k : Int) := by omega
      have hk1 : (k : Int) < (wl : Int) := by omega
      clear hbl hrow hb0 hnew HC HZ hmk
      generalize NewWk wr (ws.getD k []) = NW at *
      generalize (ws.getD k []).length = cl at *
      go_wp2_with fail
      refine (unhide HNw).mono ?_
      intro e w1 hn
      obtain ⟨b1, rfl, ⟨x, hx⟩, hfz, wb', VC', hb', hr'⟩ := HX.out e w1 hn
      have HB' := hide hb'
      have HR' := hide hr'
      clear hb' hr' hn
      go_wp2
      go_roundw
      case rel => exact ⟨k + 1, wb', VC', by omega, by go_num, HB'.out, HR'.out⟩
      case measure => simp [intOf]; omega
    · have e : k = wl := by omega
      subst e
      go_wp2
      go_ret
      exact ⟨w.heap.size + 1, wb, VC, rfl, HRo.out, below_box HB.out⟩

end Go.Proofs.Ythfdgdfnflilfaa
/- A row of new streams. -/
namespace Go.Proofs.Ythfdgdfnflilfaa
open Go.RowKit Go.Conc

theorem Try.infoPS : (Try.prog.info? 87).map (fun i => (i.zero, i.size, i.bytes)) = some (some (.pointer none), 1, 8) := by kernel_rfl

def setAt {α : Type} (f : Nat → α) (s : Nat) (x : α) : Nat → α := fun i => if i = s then x else f i
theorem setAt_self {α : Type} (f : Nat → α) (s : Nat) (x : α) : setAt f s x s = x := if_pos rfl
theorem setAt_ne {α : Type} (f : Nat → α) (s i : Nat) (x : α) (h : i ≠ s) : setAt f s x i = f i := if_neg h

/-- A row g of n pointers; those of D are streams', made above base. -/
structure RowS (base g n : Nat) (D SRC : Nat → Bool) (M : Nat → Sm) (st : Nat → Nat) (VW : Nat → Value) (CH : Nat → Option Nat) (w : World) : Prop where
  row : ∃ cs : List Value, w.heap[g]? = some (.cells cs.toArray 87 (0, 0)) ∧ cs.length = n ∧ (∀ i, i < n → D i = true → cs[i]? = some (.pointer (some ⟨st i, 0, none⟩)))
  at' : ∀ i, i < n → D i = true → StAt w (st i) (VW i) (CH i) (SRC i) (M i)
  base : base ≤ g ∧ ∀ i, i < n → D i = true → base ≤ st i ∧ (∀ q, (VW i).ownBlock = some q → base ≤ q) ∧ (∀ q, CH i = some q → base ≤ q)
  inj : ∀ i j, i < n → j < n → D i = true → D j = true → i ≠ j → st i ≠ st j ∧ (∀ q, (VW i).ownBlock = some q → (VW j).ownBlock ≠ some q) ∧ (∀ c, CH i = some c → CH j ≠ some c)

theorem RowS.below {base g n : Nat} {D SRC : Nat → Bool} {M : Nat → Sm} {st : Nat → Nat} {VW : Nat → Value} {CH : Nat → Option Nat} {w w' : World} (h : RowS base g n D SRC M st VW CH w) (hb : Below w.heap.size w w') : RowS base g n D SRC M st VW CH w' := by
  obtain ⟨cs, hg, hl, hc⟩ := h.row
  exact ⟨⟨cs, by rw [hb.block _ (lt_of_blk hg)]; exact hg, hl, hc⟩, fun i hi hd => (h.at' i hi hd).below hb, h.base, h.inj⟩

theorem st_lt {w : World} {b : Nat} {vw : Value} {ch : Option Nat} {src : Bool} {m : Sm} (h : StAt w b vw ch src m) : b < w.heap.size ∧ (∀ q, vw.ownBlock = some q → q < w.heap.size) ∧ (∀ q, ch = some q → q < w.heap.size) := by
  refine ⟨lt_of_blk h.blk, fun q hq => ?_, fun q hq => ?_⟩
  · obtain ⟨cur, hc⟩ := own_block h.own hq; exact lt_of_blk hc
  · obtain ⟨⟨a, r, h1⟩, _⟩ := h.chan q hq; exact lt_of_blk h1

theorem RowS.next {base g n : Nat} {D SRC : Nat → Bool} {M : Nat → Sm} {st : Nat → Nat} {VW : Nat → Value} {CH : Nat → Option Nat} {w w1 : World} {s b : Nat} {vw : Value} {ch : Option Nat} {src : Bool} {m : Sm}
    (h : RowS base g n D SRC M st VW CH w) (hs : s < n) (hsz : base ≤ w.heap.size) (hb : Below w.heap.size w w1) (hst : StAt w1 b vw ch src m) (hbb : w.heap.size ≤ b) (hvw : ∀ q, vw.ownBlock = some q → w.heap.size ≤ q) (hch : ∀ q, ch = some q → w.heap.size ≤ q) :
    RowS base g n (setAt D s true) (setAt SRC s src) (setAt M s m) (setAt st s b) (setAt VW s vw) (setAt CH s ch) (w1.setCell ⟨g, s, none⟩ (.pointer (some ⟨b, 0, none⟩))) ∧ (∃ x, w1.cell? ⟨g, s, none⟩ = some x) ∧ w1.frozen? ⟨g, s, none⟩ = false := by
  have h1 := h.below hb
  obtain ⟨cs, hg, hl, hc⟩ := h1.row
  have stay : ∀ {b' : Nat} {vw' : Value} {ch' : Option Nat} {src' : Bool} {m' : Sm}, StAt w1 b' vw' ch' src' m' → StAt (w1.setCell ⟨g, s, none⟩ (.pointer (some ⟨b, 0, none⟩))) b' vw' ch' src' m' := fun hW => by
    refine hW.stays fun y hy => Below.heap_setCell _ _ _ _ ?_
    rcases hy with rfl | hy | hy
    · exact ne_of_types hW.blk hg (by decide)
    · obtain ⟨cur, hcur⟩ := own_block hW.own hy
      exact ne_of_types hcur hg (by decide)
    · obtain ⟨⟨a, r, h1⟩, _⟩ := hW.chan y hy
      exact chan_ne_cells h1 hg
  have old : ∀ i, i < n → i ≠ s → setAt D s true i = true → D i = true := fun i _ e hd => by rw [setAt_ne _ _ _ _ e] at hd; exact hd
  refine ⟨⟨⟨cs.set s (.pointer (some ⟨b, 0, none⟩)), blk_set hg s _, by simpa using hl, fun i hi hd => ?_⟩, fun i hi hd => ?_, ⟨h.base.1, fun i hi hd => ?_⟩, fun i j hi hj hdi hdj hne => ?_⟩, ⟨cs[s]'(by omega), row_cell hg (List.getElem?_eq_getElem (by omega))⟩, row_frozen hg s⟩
  · by_cases e : i = s
    · subst e; rw [setAt_self, List.getElem?_set_self (by omega)]
    · rw [setAt_ne _ _ _ _ e, List.getElem?_set_ne (fun e' => e e'.symm)]; exact hc i hi (old i hi e hd)
  · by_cases e : i = s
    · subst e; simp only [setAt_self]; exact stay hst
    · simp only [setAt_ne _ _ _ _ e]; exact stay (h1.at' i hi (old i hi e hd))
  · by_cases e : i = s
    · subst e; simp only [setAt_self]; exact ⟨by omega, fun q hq => by have := hvw q hq; omega, fun q hq => by have := hch q hq; omega⟩
    · simp only [setAt_ne _ _ _ _ e]; exact h.base.2 i hi (old i hi e hd)
  · by_cases ei : i = s
    · have ej : j ≠ s := fun e => hne (ei.trans e.symm)
      subst ei
      obtain ⟨l1, l2, l3⟩ := st_lt (h.at' j hj (old j hj ej hdj))
      simp only [setAt_self, setAt_ne _ _ _ _ ej]
      exact ⟨by omega, fun q hq hq' => by have := hvw q hq; have := l2 q hq'; omega, fun q hq hq' => by have := hch q hq; have := l3 q hq'; omega⟩
    · have hDi := old i hi ei hdi
      obtain ⟨l1, l2, l3⟩ := st_lt (h.at' i hi hDi)
      by_cases ej : j = s
      · subst ej
        simp only [setAt_self, setAt_ne _ _ _ _ ei]
        exact ⟨by omega, fun q hq hq' => by have := hvw q hq'; have := l2 q hq; omega, fun q hq hq' => by have := hch q hq'; have := l3 q hq; omega⟩
      · simp only [setAt_ne _ _ _ _ ei, setAt_ne _ _ _ _ ej]
        exact h.inj i j hi hj hDi (old j hj ej hdj) hne

end Go.Proofs.Ythfdgdfnflilfaa

/- Part 3: Streams4, Streams5, Save1, Nets2, Nets3. -/
import Derived.Deep.RegionHeld3
import Derived.Deep.RegionWith
import Derived.WalkSmall
import Derived.Test.YthfdgdfnflilfaaDoorPart2
/- Package streams: Put. -/
namespace Go.Proofs.YthfdgdfnflilfaaDoor
open Go.RowKit Go.Conc

theorem intRow_snoc (l : List Int) (x : Int) : intRow (l ++ [x]) = intRow l ++ [.int .i64 x] := by simp [intRow]

/-- What comes of putting a word in. -/
def Puts (w : World) (b : Nat) (vw : Value) (ch : Option Nat) (m : Sm) (x : Int) (e : Ending) (w' : World) : Prop :=
  (e = .returned (.bool true) ∧ (ch ≠ none → m.words.length - m.read < m.room) ∧ ∃ vw', (∀ g, vw'.ownBlock = some g → vw.ownBlock = some g ∨ w.heap.size ≤ g) ∧ StAt w' b vw' ch false { m with words := m.words ++ [x] } ∧ Fr (fun y => y = b ∨ vw.ownBlock = some y ∨ ch = some y) w w') ∨
  (e = .returned (.bool false) ∧ ch ≠ none ∧ m.room ≤ m.words.length - m.read ∧ w' = w)

/-- A word more, no channel. -/
theorem StAt.put_none {w w1 : World} {b g cap : Nat} {vw : Value} {m : Sm} {x : Int} (h : StAt w b vw none false m) (hsm : m.words.length < 4398046511104) (o : Obj)
    (hown : w1.ownsRow 0 3 1 (.slice (some ⟨g, 0, none⟩) (m.words.length + 1) cap) (m.words.length + 1) (intRow m.words ++ [.int .i64 x])) (hg : (w.alloc o).grownBy w1 vw.ownBlock) :
    StAt (w1.setCell ⟨b, 1, none⟩ (.slice (some ⟨g, 0, none⟩) (m.words.length + 1) cap)) b (.slice (some ⟨g, 0, none⟩) (m.words.length + 1) cap) none false { m with words := m.words ++ [x] } ∧
      w1.heap[b]? = some (.cells #[.bool false, vw, .int .i64 0, .chan none, .int .i64 (m.room : Int)] 88 (0, 0)) ∧ g ≠ b := by
  have hb := lt_of_blk h.blk
  have hblk : w1.heap[b]? = some (.cells #[.bool false, vw, .int .i64 0, .chan none, .int .i64 (m.room : Int)] 88 (0, 0)) := by
    rw [hg.block b (by simp; omega) (fun e => h.ne_own e.symm rfl), Below.heap_alloc _ _ _ hb]
    exact h.blk
  obtain ⟨cur, hcur⟩ := own_block hown (g := g) rfl
  have hgb : g ≠ b := ne_of_types hcur hblk (by decide)
  refine ⟨⟨?_, ?_, ?_, ?_, fun c hc => (by cases hc), fun c hc => (by cases hc)⟩, hblk, hgb⟩
  · have := blk_set hblk 1 (.slice (some ⟨g, 0, none⟩) (m.words.length + 1) cap)
    simpa using this
  · have e : (m.words ++ [x]).length = m.words.length + 1 := by simp
    dsimp only
    rw [e, intRow_snoc]
    exact own_of_block hown fun g' hg' => by
      have : g = g' := by simpa [Value.ownBlock] using hg'
      subst this
      exact Below.heap_setCell _ _ _ _ hgb
  · have := h.le; simp; omega
  · simp; omega

set_option maxHeartbeats 1000000 in
theorem put_none {w : World} {b : Nat} {vw : Value} {m : Sm} (x : Int) (h : StAt w b vw none false m) (hsm : m.words.length < 4398046511104) :
    Calls Tryd.prog 50 #[.pointer (some ⟨b, 0, none⟩), .int .i64 x] w fun e w' => Puts w b vw none m x e w' := by
  obtain ⟨c0, c1, c2, c3, cf⟩ := h.cells
  obtain ⟨i0, hi, hz0, hz1, hz2⟩ := info_parts Tryd.info3
  obtain ⟨a, cap, hvw, hcap, hw⟩ := own_form h.own
  have heql := fun (wx : World) (a : Option Nat) => run_eql_chan_nil (P := Tryd.prog) wx 86 a Tryd.underlying86
  have HO := hide h.own
  have H := hide h
  rw [hvw] at c1 HO H
  have HB : Hid (b < w.heap.size) := lt_of_blk h.blk
  have hbytes : (m.words.length + 1) * 8 ≤ 140737488355328 := by omega
  have h63 : m.words.length + 1 ≤ maxLen := by unfold maxLen; omega
  clear cf c0 c2 hw h
  generalize hn : m.words.length = n at *
  have HN := hide hn
  clear hn
  go_enter Tryd.func50, Tryd.ntmps50
  go_wp2_with (at_builtin; refine wpList_append_lies _ rfl (.tmp 14) (.tmp 16) 22 rfl 0 3 i0 (.int .i64 0) 1 8 Tryd.underlying22 hi hz0 hz1 hz2 rfl (by decide) (.slice a n cap) n (intRow m.words) rfl (HO.out.alloc _) ⟨w.heap.size, 0, none⟩ 1 1 [.int .i64 x] rfl rfl ?c1 ?c2 (by decide) h63 hbytes (Nat.zero_le _) (w.heap.size + 1) (by simp) ?_)
  case c1 => exact cell_one_new _ _ _
  case c2 => intro u hu; simp at hu; subst hu; rfl
  intro g gcap w1 hown hgrow hor hglt
  have hn := HN.out
  subst hn
  have R := H.out.put_none (x := x) hsm _ hown hgrow
  obtain ⟨R1, R2, R3⟩ := R
  have k1 : w1.cell? ⟨b, 1, none⟩ = some (.slice a m.words.length cap) := row_cell R2 rfl
  have k2 : w1.frozen? ⟨b, 1, none⟩ = false := row_frozen R2 1
  have HR := hide R1
  have HF : Hid (Fr (fun y => y = b ∨ (Value.slice a m.words.length cap).ownBlock = some y ∨ (none : Option Nat) = some y) w (w1.setCell ⟨b, 1, none⟩ (.slice (some ⟨g, 0, none⟩) (m.words.length + 1) gcap))) :=
    Fr.setCell (S := fun y => y = b ∨ (Value.slice a m.words.length cap).ownBlock = some y ∨ (none : Option Nat) = some y) (((Fr.refl _ w).alloc _).grown hgrow (fun k hk => Or.inr (Or.inr (Or.inl hk)))) (p := ⟨b, 1, none⟩) (Or.inr (Or.inl rfl)) _
  have HOR : Hid ((Value.slice a m.words.length cap).ownBlock = some g ∨ w.heap.size ≤ g) := by
    rcases hor with h1 | h1
    · exact Or.inl h1
    · exact Or.inr (by omega)
  have HV := hide hvw
  clear R1 R2 R3 hown hgrow hor hglt H HO c1 c3 hvw
  generalize m.words.length + 1 = n1 at *
  go_wp2
  go_ret
  refine Or.inl ⟨rfl, fun hh => absurd rfl hh, .slice (some ⟨g, 0, none⟩) n1 gcap, fun g' hg' => ?_, HR.out, ?_⟩
  · have e : g = g' := by simpa [Value.ownBlock] using hg'
    subst e
    rw [HV.out]
    exact HOR.out
  · rw [HV.out]; exact HF.out

/-- A word more, in the channel too. -/
theorem StAt.put_some {w w1 : World} {b c g cap : Nat} {vw : Value} {m : Sm} {x : Int} (h : StAt w b vw (some c) false m) (hsm : m.words.length < 4398046511104) (hroom : m.words.length - m.read < m.room) (s r : Nat) (o : Obj)
    (hown : w1.ownsRow 0 3 1 (.slice (some ⟨g, 0, none⟩) (m.words.length + 1) cap) (m.words.length + 1) (intRow m.words ++ [.int .i64 x]))
    (hg : ((w.setChan c m.room ((intRow (m.words.drop m.read)).toArray.push (.int .i64 x)) false s r false).alloc o).grownBy w1 vw.ownBlock) :
    StAt (w1.setCell ⟨b, 1, none⟩ (.slice (some ⟨g, 0, none⟩) (m.words.length + 1) cap)) b (.slice (some ⟨g, 0, none⟩) (m.words.length + 1) cap) (some c) false { m with words := m.words ++ [x] } ∧
      w1.heap[b]? = some (.cells #[.bool false, vw, .int .i64 0, .chan (some c), .int .i64 0] 88 (0, 0)) ∧ g ≠ b := by
  have hb := lt_of_blk h.blk
  obtain ⟨⟨s0, r0, hc⟩, hcap, hrm⟩ := h.chan c rfl
  have hcl := lt_of_blk hc
  have hbc := h.ne_chan rfl
  have hblk : w1.heap[b]? = some (.cells #[.bool false, vw, .int .i64 0, .chan (some c), .int .i64 0] 88 (0, 0)) := by
    rw [hg.block b (by simp [size_setChan]; omega) (fun e => h.ne_own e.symm rfl), Below.heap_alloc _ _ _ (by rw [size_setChan]; exact hb), heap_setChan_ne _ _ _ _ _ _ _ _ _ hbc.symm]
    exact h.blk
  have hch : w1.heap[c]? = some (.chan m.room ((intRow (m.words.drop m.read)).toArray.push (.int .i64 x)) false s r false) := by
    rw [hg.block c (by simp [size_setChan]; omega) (fun e => h.own_ne_chan rfl e.symm rfl), Below.heap_alloc _ _ _ (by rw [size_setChan]; exact hcl), heap_setChan _ _ _ _ _ _ _ _ hcl]
  obtain ⟨cur, hcur⟩ := own_block hown (g := g) rfl
  have hgb : g ≠ b := ne_of_types hcur hblk (by decide)
  have hle := h.le
  refine ⟨⟨?_, ?_, ?_, ?_, fun c' hc' => ?_, fun c hc => rfl⟩, hblk, hgb⟩
  · have := blk_set hblk 1 (.slice (some ⟨g, 0, none⟩) (m.words.length + 1) cap)
    simpa using this
  · have e : (m.words ++ [x]).length = m.words.length + 1 := by simp
    dsimp only
    rw [e, intRow_snoc]
    exact own_of_block hown fun g' hg' => by
      have : g = g' := by simpa [Value.ownBlock] using hg'
      subst this
      exact Below.heap_setCell _ _ _ _ hgb
  · simp; omega
  · simp; omega
  · cases hc'
    refine ⟨⟨s, r, ?_⟩, by dsimp only; simp; omega, hrm⟩
    rw [Below.heap_setCell _ _ _ _ hbc.symm, hch]
    congr 2
    dsimp only
    rw [List.drop_append_of_le_length hle, intRow_snoc]
    simp

set_option maxRecDepth 100000 in
set_option maxHeartbeats 1000000 in
theorem put_some {w : World} {b c : Nat} {vw : Value} {m : Sm} (x : Int) (h : StAt w b vw (some c) false m) (hsm : m.words.length < 4398046511104) :
    Calls Tryd.prog 50 #[.pointer (some ⟨b, 0, none⟩), .int .i64 x] w fun e w' => Puts w b vw (some c) m x e w' := by
  obtain ⟨c0, c1, c2, c3, cf⟩ := h.cells
  obtain ⟨i0, hi, hz0, hz1, hz2⟩ := info_parts Tryd.info3
  obtain ⟨a, cap, hvw, hcap, hw⟩ := own_form h.own
  obtain ⟨⟨s, r, hc⟩, hcr, hroom⟩ := h.chan c rfl
  have heql := fun (wx : World) (a : Option Nat) => run_eql_chan_nil (P := Tryd.prog) wx 86 a Tryd.underlying86
  clear cf c0 c2 hw
  refine calls_of_wpN Tryd.func50 rfl ?_
  simp only [Tryd.ntmps50, List.size_toArray, List.length_cons, List.length_nil, Nat.reduceAdd, Nat.reduceSub, Array.replicate_succ, Array.replicate_zero, List.push_toArray, List.append_toArray, List.nil_append, List.cons_append]
  refine wpN_seq (wpN_of_wp ?_)
  go_wp2
  refine wpN_seq (wpN_of_wp ?_)
  go_wp2
  refine wpN_seq (wpN_of_wp ?_)
  go_wp2
  by_cases hlt : m.words.length - m.read < m.room
  · refine wpN_seq (wpN_region_first _ _ (fun b0 k cs hb => step_lone_select_send_room (c := c) (v := .int .i64 x) (z' := .int .i64 0) (comm_of rfl rfl (w' := w) (by simp [go_sem, execOp, scase, Act.eval]) b0 k cs hb) hc (by rw [unread_size]; exact hlt)) ?_)
    have hb := lt_of_blk h.blk
    have hbc := h.ne_chan rfl
    have hcl := lt_of_blk hc
    have HP : Hid (∀ (g gcap : Nat) (w1 : World) (o : Obj), w1.ownsRow 0 3 1 (.slice (some ⟨g, 0, none⟩) (m.words.length + 1) gcap) (m.words.length + 1) (intRow m.words ++ [.int .i64 x]) → ((w.setChan c m.room ((intRow (m.words.drop m.read)).toArray.push (.int .i64 x)) false (s + 1) r false).alloc o).grownBy w1 vw.ownBlock → _) := fun g gcap w1 o h1 h2 => h.put_some hsm hlt (s + 1) r o h1 h2
    have hf0 : Fr (fun y => y = b ∨ vw.ownBlock = some y ∨ (some c : Option Nat) = some y) w (w.setChan c m.room ((intRow (m.words.drop m.read)).toArray.push (.int .i64 x)) false (s + 1) r false) := (Fr.refl _ w).setChan (Or.inr (Or.inr (Or.inr rfl))) _ _ _ _ _ _
    have hblk1 : (w.setChan c m.room ((intRow (m.words.drop m.read)).toArray.push (.int .i64 x)) false (s + 1) r false).heap[b]? = some (.cells #[.bool false, vw, .int .i64 0, .chan (some c), .int .i64 0] 88 (0, 0)) := by
      rw [heap_setChan_ne _ _ _ _ _ _ _ _ _ hbc.symm]; exact h.blk
    have hown1 : (w.setChan c m.room ((intRow (m.words.drop m.read)).toArray.push (.int .i64 x)) false (s + 1) r false).ownsRow 0 3 1 vw m.words.length (intRow m.words) :=
      own_of_block h.own fun g hg => heap_setChan_ne _ _ _ _ _ _ _ _ _ (h.own_ne_chan rfl hg).symm
    have hsz : (w.setChan c m.room ((intRow (m.words.drop m.read)).toArray.push (.int .i64 x)) false (s + 1) r false).heap.size = w.heap.size := size_setChan _ _ _ _ _ _ _ _
    generalize (w.setChan c m.room ((intRow (m.words.drop m.read)).toArray.push (.int .i64 x)) false (s + 1) r false) = w0 at *
    have k1 : w0.cell? ⟨b, 1, none⟩ = some vw := row_cell hblk1 rfl
    have HO := hide hown1
    have HF0 := hide hf0
    have HSZ := hide hsz
    have HLT := hide hlt
    have HV := hide hvw
    have HB := hide hb
    have HB1 := hide hblk1
    rw [hvw] at k1 HO
    have hbytes : (m.words.length + 1) * 8 ≤ 140737488355328 := by omega
    have h63 : m.words.length + 1 ≤ maxLen := by unfold maxLen; omega
    clear h hc hf0 hsz hlt hblk1 hown1 hvw c1 c3 hcl hbc
    generalize hn : m.words.length = n at *
    have HN := hide hn
    clear hn
    go_wp2
    refine wpN_of_wp ?_
    go_wp2_with (at_builtin; refine wpList_append_lies _ rfl (.tmp 32) (.tmp 34) 22 rfl 0 3 i0 (.int .i64 0) 1 8 Tryd.underlying22 hi hz0 hz1 hz2 rfl (by decide) (.slice a n cap) n (intRow m.words) rfl (HO.out.alloc _) ⟨w0.heap.size, 0, none⟩ 1 1 [.int .i64 x] rfl rfl ?c1 ?c2 (by decide) h63 hbytes (Nat.zero_le _) (w0.heap.size + 1) (by simp) ?_)
    case c1 => exact cell_one_new _ _ _
    case c2 => intro u hu; simp at hu; subst hu; rfl
    intro g gcap w1 hown hgrow hor hglt
    rw [← HV.out] at hgrow hor
    obtain ⟨R1, R2, R3⟩ := HP.out g gcap w1 _ hown hgrow
    have k1' : w1.cell? ⟨b, 1, none⟩ = some (.slice a n cap) := by rw [row_cell R2 rfl, HV.out]
    have k2 : w1.frozen? ⟨b, 1, none⟩ = false := row_frozen R2 1
    have HR := hide R1
    have HF : Hid (Fr (fun y => y = b ∨ vw.ownBlock = some y ∨ (some c : Option Nat) = some y) w (w1.setCell ⟨b, 1, none⟩ (.slice (some ⟨g, 0, none⟩) (n + 1) gcap))) :=
      Fr.setCell (S := fun y => y = b ∨ vw.ownBlock = some y ∨ (some c : Option Nat) = some y) ((HF0.out.alloc _).grown hgrow (fun k hk => Or.inr (Or.inr (Or.inl hk)))) (p := ⟨b, 1, none⟩) (Or.inr (Or.inl rfl)) _
    have HOR : Hid (vw.ownBlock = some g ∨ w.heap.size ≤ g) := by
      rcases hor with h1 | h1
      · exact Or.inl h1
      · exact Or.inr (by have := HSZ.out; omega)
    clear R1 R2 R3 hown hgrow hor hglt HO k1
    generalize n + 1 = n1 at *
    go_wp2
    go_ret
    refine Or.inl ⟨rfl, fun _ => ?_, .slice (some ⟨g, 0, none⟩) n1 gcap, fun g' hg' => ?_, HR.out, HF.out⟩
    · rw [HN.out]; exact HLT.out
    · have e : g = g' := by simpa [Value.ownBlock] using hg'
      subst e
      exact HOR.out
  · refine wpN_seq (wpN_region_first _ _ (fun b0 k cs hb => step_lone_select_send_full (c := c) (v := .int .i64 x) (z' := .int .i64 0) (comm_of rfl rfl (w' := w) (by simp [go_sem, execOp, scase, Act.eval]) b0 k cs hb) hc (by rw [unread_size]; omega)) ?_)
    have HLT : Hid (m.room ≤ m.words.length - m.read) := by unfold Hid; omega
    clear h hc hlt
    go_wp2
    refine wpN_of_wp ?_
    go_wp2
    go_ret
    exact Or.inr ⟨rfl, by simp, HLT.out, rfl⟩

end Go.Proofs.YthfdgdfnflilfaaDoor
/- Package streams: Grow. -/
namespace Go.Proofs.YthfdgdfnflilfaaDoor
open Go.RowKit Go.Conc

theorem Tryd.infoInt : ∃ i, Tryd.prog.info? 3 = some i ∧ i.bytes = 8 := by
  obtain ⟨i0, hi, hz0, hz1, hz2⟩ := info_parts Tryd.info3
  exact ⟨i0, hi, hz2⟩

set_option maxRecDepth 100000 in
set_option maxHeartbeats 1000000 in
theorem sgrow_calls {w : World} {b c : Nat} {vw : Value} {m : Sm} (h : StAt w b vw (some c) false m) (hr : m.room < 1000) :
    Calls Tryd.prog 38 #[.pointer (some ⟨b, 0, none⟩)] w fun e w' => e = .returned (.tuple #[]) ∧
      StAt w' b vw (some w.heap.size) false { m with room := m.room + 1 } ∧ Fr (fun y => y = b ∨ y = c) w w' := by
  obtain ⟨c0, c1, c2, c3, cf⟩ := h.cells
  obtain ⟨⟨s, r, hc⟩, hcr, hroom⟩ := h.chan c rfl
  obtain ⟨i0, hi, hi8⟩ := Tryd.infoInt
  have hcp := fun ty => run_cap_chan (P := Tryd.prog) 86 ty Tryd.underlying86 hc
  have hmk := fun (wx : World) => run_makeChan (P := Tryd.prog) (w := wx) (t := 86) Tryd.underlying86 hi .i64 (m.room + 1) (by omega) (by rw [hi8]; omega)
  have ec : ((m.room + 1 : Nat) : Int) = (m.room : Int) + 1 := by omega
  simp only [ec] at hmk
  clear ec
  have hbc := h.ne_chan rfl
  have hcl := lt_of_blk hc
  have hb := lt_of_blk h.blk
  clear c0 c1 c2
  refine calls_of_wpN Tryd.func38 rfl ?_
  simp only [Tryd.ntmps38, List.size_toArray, List.length_cons, List.length_nil, Nat.reduceAdd, Nat.reduceSub, Array.replicate_succ, Array.replicate_zero, List.push_toArray, List.append_toArray, List.nil_append, List.cons_append]
  refine wpN_seq (wpN_of_wp ?_)
  go_wp2
  have hcl2 : ∀ ats ty, (Builtin.close_ ats ty #[.chan (some c)]).run Tryd.prog (w.alloc (.chan (m.room + 1) #[] false 0 0 false)) = .ok (.tuple #[]) ((w.alloc (.chan (m.room + 1) #[] false 0 0 false)).setChan c m.room (intRow (m.words.drop m.read)).toArray true s r false) :=
    fun ats ty => run_close_open (P := Tryd.prog) (w := w.alloc (.chan (m.room + 1) #[] false 0 0 false)) ats ty (by rw [Below.heap_alloc _ _ _ hcl]; exact hc)
  refine wpN_seq (wpN_of_wp ?_)
  go_wp2
  clear hcl2 hcp hmk
  have W1 : ((w.alloc (.chan (m.room + 1) #[] false 0 0 false)).setChan c m.room (intRow (m.words.drop m.read)).toArray true s r false).heap[c]? = some (.chan m.room (intRow (m.words.drop m.read)).toArray true s r false) :=
    heap_setChan _ _ _ _ _ _ _ _ (by simp; omega)
  have W2 : ((w.alloc (.chan (m.room + 1) #[] false 0 0 false)).setChan c m.room (intRow (m.words.drop m.read)).toArray true s r false).heap[w.heap.size]? = some (.chan (m.room + 1) #[] false 0 0 false) := by
    rw [heap_setChan_ne _ _ _ _ _ _ _ _ _ (by omega)]; exact heap_alloc_new _ _
  have W3 : Fr (fun y => y = c) w ((w.alloc (.chan (m.room + 1) #[] false 0 0 false)).setChan c m.room (intRow (m.words.drop m.read)).toArray true s r false) :=
    Fr.setChan (S := fun y => y = c) ((Fr.refl _ w).alloc _) (c := c) (Or.inr rfl) _ _ _ _ _ _
  have W4 : ((w.alloc (.chan (m.room + 1) #[] false 0 0 false)).setChan c m.room (intRow (m.words.drop m.read)).toArray true s r false).heap.size = w.heap.size + 1 := by rw [size_setChan]; simp
  generalize ((w.alloc (.chan (m.room + 1) #[] false 0 0 false)).setChan c m.room (intRow (m.words.drop m.read)).toArray true s r false) = w2 at *
  obtain ⟨un, hun⟩ : ∃ un, un = m.words.drop m.read := ⟨_, rfl⟩
  rw [← hun] at W1
  have hunl : un.length ≤ m.room := by rw [hun]; simpa using hcr
  have HUN := hide hun
  clear hun
  have b3 : w2.cell? ⟨b, 3, none⟩ = some (.chan (some c)) := by
    have := W3.block b hb hbc
    rw [← c3]; exact World.cell?_of_block (w := w) this
  have HW1 := hide W1
  have HW2 := hide W2
  have HW3 := hide W3
  have HW4 := hide W4
  clear W1 W2 W3 W4
  refine wpN_seq (wpN_seq (wpN_of_wp ?_))
  go_wp2
  refine wpN_block (wpN_loop (fun n a wr => ∃ (j : Nat) (u3 u19 u20 u21 u22 u23 : Value), j ≤ un.length ∧ n = un.length - j ∧ a = ⟨#[.pointer (some ⟨b, 0, none⟩), undef, .chan (some w.heap.size), u3, .pointer (some ⟨b, 0, none⟩), .pointer (some ⟨b, 0, none⟩), .pointer (some ⟨b, 3, none⟩), .chan (some c), .int .i64 m.room, .int .i64 (m.room + 1), .chan (some w.heap.size), .pointer (some ⟨b, 0, none⟩), .pointer (some ⟨b, 0, none⟩), .pointer (some ⟨b, 3, none⟩), .chan (some c), .pointer (some ⟨b, 0, none⟩), .pointer (some ⟨b, 0, none⟩), .pointer (some ⟨b, 3, none⟩), .chan (some c), u19, u20, u21, u22, u23, undef, undef, undef, undef], []⟩ ∧
      wr.heap[c]? = some (.chan m.room (intRow (un.drop j)).toArray true s (r + j) false) ∧ wr.heap[w.heap.size]? = some (.chan (m.room + 1) (intRow (un.take j)).toArray false j 0 false) ∧ Fr (fun y => y = c) w wr ∧ wr.heap.size = w.heap.size + 1) un.length ?_ ?_)
  · exact ⟨0, undef, undef, undef, undef, undef, undef, Nat.zero_le _, rfl, rfl, HW1.out, HW2.out, HW3.out, HW4.out⟩
  · rintro n a wr ⟨j, u3, u19, u20, u21, u22, u23, hj, rfl, rfl, G1, G2, G3, G4⟩
    by_cases hlt : j < un.length
    · have e0 : (intRow (un.drop j)).toArray.getD 0 undef = .int .i64 (un.getD j 0) := by simp [intRow, hlt]
      refine wpN_seq (wpN_region_first _ _ (fun b0 k cs hb => step_lone_recv_buf true (c := c) (z := .int .i64 0) (comm_of rfl rfl (w' := wr) (by simp [go_sem, execOp, rcase, Act.eval]) b0 k cs hb) G1 (by simp [intRow]; omega)) ?_)
      rw [e0]
      obtain ⟨x, hx⟩ : ∃ x, x = un.getD j 0 := ⟨_, rfl⟩
      rw [← hx]
      have K1 : (wr.setChan c m.room ((intRow (un.drop j)).toArray.extract 1 (intRow (un.drop j)).toArray.size) true s (r + j + 1) false).heap[c]? = some (.chan m.room (intRow (un.drop (j + 1))).toArray true s (r + (j + 1)) false) := by
        rw [heap_setChan _ _ _ _ _ _ _ _ (by omega)]
        congr 2
        simp only [intRow, List.extract_toArray, List.size_toArray, List.length_map, List.length_drop, List.map_drop]
        rw [List.extract_eq_take_drop, List.drop_drop, List.take_of_length_le (by simp; omega)]
      have K2 : (wr.setChan c m.room ((intRow (un.drop j)).toArray.extract 1 (intRow (un.drop j)).toArray.size) true s (r + j + 1) false).heap[w.heap.size]? = some (.chan (m.room + 1) (intRow (un.take j)).toArray false j 0 false) := by
        rw [heap_setChan_ne _ _ _ _ _ _ _ _ _ (by omega)]; exact G2
      have K3 : Fr (fun y => y = c) w (wr.setChan c m.room ((intRow (un.drop j)).toArray.extract 1 (intRow (un.drop j)).toArray.size) true s (r + j + 1) false) := Fr.setChan (S := fun y => y = c) G3 (c := c) (Or.inr rfl) _ _ _ _ _ _
      have K4 : (wr.setChan c m.room ((intRow (un.drop j)).toArray.extract 1 (intRow (un.drop j)).toArray.size) true s (r + j + 1) false).heap.size = w.heap.size + 1 := by rw [size_setChan]; exact G4
      generalize (wr.setChan c m.room ((intRow (un.drop j)).toArray.extract 1 (intRow (un.drop j)).toArray.size) true s (r + j + 1) false) = w3 at *
      have hgot : got true (.int .i64 x) true = .tuple #[.int .i64 x, .bool true] := rfl
      rw [hgot]
      have HX := hide hx
      clear hx e0 hgot G1 G2 G3 G4
      have HK1 := hide K1
      have HK2 := hide K2
      have HK3 := hide K3
      have HK4 := hide K4
      clear K1 K2 K3 K4
      go_wp2
      refine wpN_seq (wpN_of_wp ?_)
      go_wp2
      refine wpN_block (wpN_seq (wpN_of_wp ?_))
      go_wp2
      refine wpN_region (rest_value _ rfl rfl (.chan (some w.heap.size)) w3 (by simp [go_sem, execOp, Act.eval]) (rest_value _ rfl rfl (.int .i64 x) w3 (by simp [go_sem, execOp, Act.eval, Act.put]) (rest_step _ rfl undef (w3.setChan w.heap.size (m.room + 1) ((intRow (un.take j)).toArray.push (.int .i64 x)) false (j + 1) 0 false) (fun b0 k cs hb => step_lone_send_room (c := w.heap.size) (v := .int .i64 x) (z' := .tuple #[]) (comm_of rfl rfl (w' := w3) (by simp [go_sem, execOp, scase, Act.eval, Act.put]) b0 k cs hb) HK2.out (by simp [intRow]; omega)) (rest_nil ?_))))
      have J1 : (w3.setChan w.heap.size (m.room + 1) ((intRow (un.take j)).toArray.push (.int .i64 x)) false (j + 1) 0 false).heap[c]? = some (.chan m.room (intRow (un.drop (j + 1))).toArray true s (r + (j + 1)) false) := by
        rw [heap_setChan_ne _ _ _ _ _ _ _ _ _ (by omega)]; exact HK1.out
      have J2 : (w3.setChan w.heap.size (m.room + 1) ((intRow (un.take j)).toArray.push (.int .i64 x)) false (j + 1) 0 false).heap[w.heap.size]? = some (.chan (m.room + 1) (intRow (un.take (j + 1))).toArray false (j + 1) 0 false) := by
        rw [heap_setChan _ _ _ _ _ _ _ _ (by have := HK4.out; omega)]
        congr 2
        rw [List.take_succ_eq_append_getElem hlt, intRow_snoc, HX.out, getD_eq _ _ _ hlt]
        simp
      have J3 : Fr (fun y => y = c) w (w3.setChan w.heap.size (m.room + 1) ((intRow (un.take j)).toArray.push (.int .i64 x)) false (j + 1) 0 false) := Fr.setChan (S := fun y => y = c) HK3.out (c := w.heap.size) (Or.inl (Nat.le_refl _)) _ _ _ _ _ _
      have J4 : (w3.setChan w.heap.size (m.room + 1) ((intRow (un.take j)).toArray.push (.int .i64 x)) false (j + 1) 0 false).heap.size = w.heap.size + 1 := by rw [size_setChan]; exact HK4.out
      exact ⟨un.length - (j + 1), by omega, j + 1, _, _, _, _, _, _, by omega, rfl, rfl, J1, J2, J3, J4⟩
    · have hjj : j = un.length := by omega
      subst hjj
      have G1' : wr.heap[c]? = some (.chan m.room #[] true s (r + un.length) false) := by rw [G1, List.drop_of_length_le (Nat.le_refl _)]; rfl
      refine wpN_seq (wpN_region_first _ _ (fun b0 k cs hb => step_lone_recv_shut true (c := c) (z := .int .i64 0) (comm_of rfl rfl (w' := wr) (by simp [go_sem, execOp, rcase, Act.eval]) b0 k cs hb) G1') ?_)
      have hgot : got true (.int .i64 0) false = .tuple #[.int .i64 0, .bool false] := rfl
      rw [hgot]
      have hblk : wr.heap[b]? = some (.cells #[.bool false, vw, .int .i64 0, .chan (some c), .int .i64 0] 88 (0, 0)) := (G3.block b hb hbc).trans h.blk
      have k3 : wr.cell? ⟨b, 3, none⟩ = some (.chan (some c)) := row_cell hblk rfl
      have kf : wr.frozen? ⟨b, 3, none⟩ = false := row_frozen hblk 3
      have HT : Hid (StAt (wr.setCell ⟨b, 3, none⟩ (.chan (some w.heap.size))) b vw (some w.heap.size) false { m with room := m.room + 1 }) := by
        refine ⟨?_, ?_, h.le, h.small, fun c' hc' => ?_, fun _ _ => rfl⟩
        · have := blk_set hblk 3 (.chan (some w.heap.size))
          simpa using this
        · refine own_of_block h.own fun g hg => ?_
          obtain ⟨cur, hcur⟩ := own_block h.own hg
          rw [Below.heap_setCell _ _ _ _ (h.ne_own hg)]
          exact G3.block g (lt_of_blk hcur) (h.own_ne_chan rfl hg)
        · cases hc'
          refine ⟨⟨un.length, 0, ?_⟩, by dsimp only; omega, by dsimp only; omega⟩
          rw [Below.heap_setCell _ _ _ _ (by dsimp only; omega), G2, List.take_of_length_le (Nat.le_refl _), HUN.out]
      have HF : Hid (Fr (fun y => y = b ∨ y = c) w (wr.setCell ⟨b, 3, none⟩ (.chan (some w.heap.size)))) :=
        Fr.setCell (S := fun y => y = b ∨ y = c) (G3.mono fun k _ hk => Or.inr hk) (p := ⟨b, 3, none⟩) (Or.inr (Or.inl rfl)) _
      clear hgot G1 G1' G2 G3 G4 hblk h
      go_wp2
      refine wpN_seq (wpN_of_wp ?_)
      go_wp2
      refine wpN_of_wp ?_
      go_wp2
      go_end0
      exact ⟨rfl, HT.out, HF.out⟩

end Go.Proofs.YthfdgdfnflilfaaDoor
/- Package states: Append. -/
namespace Go.Proofs.YthfdgdfnflilfaaDoor
open Go.RowKit Go.Conc

/-- A row of bytes. -/
def byteRow (l : List Int) : List Value := l.map (Value.int .u8)
theorem byteRow_length (l : List Int) : (byteRow l).length = l.length := by simp [byteRow]
theorem byteRow_snoc (l : List Int) (x : Int) : byteRow (l ++ [x]) = byteRow l ++ [.int .u8 x] := by simp [byteRow]

/-- The byte of a number at a shift; its eight bytes, the highest first. -/
def byteAt (x : Int) (sh : Nat) : Int := x % 18446744073709551616 / 2 ^ sh % 256
def eightB (x : Int) : List Int := (List.range 8).map fun j => byteAt x (56 - 8 * j)
def bytesOf (l : List Int) : List Int := l.flatMap eightB

theorem eightB_length (x : Int) : (eightB x).length = 8 := by simp [eightB]
theorem bytesOf_length (l : List Int) : (bytesOf l).length = 8 * l.length := by
  induction l with
  | nil => rfl
  | cons x l ih => simp only [bytesOf, List.flatMap_cons, List.length_append, eightB_length, List.length_cons] at ih ⊢; omega
theorem bytesOf_append (a b : List Int) : bytesOf (a ++ b) = bytesOf a ++ bytesOf b := by simp [bytesOf]
theorem bytesOf_take_succ (l : List Int) (k : Nat) (h : k < l.length) : bytesOf (l.take (k + 1)) = bytesOf (l.take k) ++ eightB l[k] := by
  rw [List.take_succ_eq_append_getElem h, bytesOf_append]; simp [bytesOf]
theorem eightB_take_succ (x : Int) (j : Nat) (h : j < 8) : (eightB x).take (j + 1) = (eightB x).take j ++ [byteAt x (56 - 8 * j)] := by
  have hl : j < (eightB x).length := by rw [eightB_length]; exact h
  rw [List.take_succ_eq_append_getElem hl]
  simp [eightB]

theorem wrap_u64 (x : Int) : IntKind.u64.wrap x = x % 18446744073709551616 := by
  simp [IntKind.wrap, IntKind.bits, IntKind.signed]

/-- A state that is being written. -/
def SvAt (B : Nat) (w : World) (v : Value) (s : List Int) : Prop := w.ownsRow B 5 1 v s.length (byteRow s)

theorem Tryd.infoU8 : (Tryd.prog.info? 5).map (fun i => (i.zero, i.size, i.bytes)) = some (some (.int .u8 0), 1, 1) := by kernel_rfl

/-- What a call leaves of a state: the state's own row may have turned. -/
structure Wrote (B : Nat) (w : World) (v : Value) (s : List Int) (v' : Value) (w' : World) : Prop where
  at' : SvAt B w' v' s
  fr : Fr (fun y => v.ownBlock = some y) w w'
  own : ∀ g, v'.ownBlock = some g → v.ownBlock = some g ∨ w.heap.size ≤ g

theorem own_slice {w : World} {B n : Nat} {e : TypeId} {size : Nat} {v : Value} {xs : List Value} (h : w.ownsRow B e size v n xs) : ∃ a cap, v = .slice a n cap := by
  obtain ⟨h1, h2⟩ := h
  rcases h2 with ⟨h3, h4⟩ | ⟨g, cap, cur, hv, r⟩
  · exact ⟨none, 0, by rw [h3, h4]⟩
  · exact ⟨_, _, hv⟩

theorem own_of_blockB {w w' : World} {B : Nat} {e : TypeId} {size : Nat} {v : Value} {n : Nat} {xs : List Value} (h : w.ownsRow B e size v n xs) (hk : ∀ g, v.ownBlock = some g → w'.heap[g]? = w.heap[g]?) : w'.ownsRow B e size v n xs := by
  obtain ⟨h1, h2⟩ := h
  refine ⟨h1, ?_⟩
  rcases h2 with h2 | ⟨g, cap, cur, hv, hg, hh, r⟩
  · exact Or.inl h2
  · exact Or.inr ⟨g, cap, cur, hv, hg, by rw [hk g (by rw [hv]; rfl)]; exact hh, r⟩
theorem own_blockB {w : World} {B : Nat} {e : TypeId} {size : Nat} {v : Value} {n : Nat} {xs : List Value} (h : w.ownsRow B e size v n xs) {g : Nat} (hg : v.ownBlock = some g) : ∃ cur, w.heap[g]? = some (.cells cur e (0, 0)) := by
  obtain ⟨_, h2⟩ := h
  rcases h2 with ⟨h2, _⟩ | ⟨g', cap, cur, hv, _, hh, _⟩
  · rw [h2] at hg; cases hg
  · rw [hv] at hg
    have : g' = g := by simpa [Value.ownBlock] using hg
    subst this
    exact ⟨cur, hh⟩
theorem own_baseB {w : World} {B : Nat} {e : TypeId} {size : Nat} {v : Value} {n : Nat} {xs : List Value} (h : w.ownsRow B e size v n xs) {g : Nat} (hg : v.ownBlock = some g) : B ≤ g := by
  obtain ⟨_, h2⟩ := h
  rcases h2 with ⟨h2, _⟩ | ⟨g', cap, cur, hv, hb, hh, _⟩
  · rw [h2] at hg; cases hg
  · rw [hv] at hg
    have : g' = g := by simpa [Value.ownBlock] using hg
    subst this
    exact hb

theorem Wrote.trans {B : Nat} {a b c : World} {v v1 v2 : Value} {s s' : List Int} (h : Wrote B a v s v1 b) (k : Wrote B b v1 s' v2 c) : Wrote B a v s' v2 c :=
  ⟨k.at', h.fr.trans k.fr fun x hx hv => by
    rcases h.own x hv with h1 | h1
    · exact h1
    · omega, fun g hg => by
    rcases k.own g hg with h1 | h1
    · exact h.own g h1
    · exact Or.inr (Nat.le_trans h.fr.size h1)⟩

theorem Wrote.drewN {B : Nat} {a b : World} {v v1 : Value} {s : List Int} (h : Wrote B a v s v1 b) (q : Nat) : Wrote B a v s v1 (b.drewN q) := ⟨h.at', h.fr.drewN q, h.own⟩

set_option maxRecDepth 100000 in
set_option maxHeartbeats 2000000 in
theorem append_calls {B : Nat} {w : World} {v vn : Value} {s l : List Int} (hB : B ≤ w.heap.size) (hs : SvAt B w v s) (hn : IntsAt w vn l) (hsep : ∀ g, v.ownBlock = some g → vn.ownBlock ≠ some g) (hlen : s.length + 8 * l.length ≤ 1099511627776) :
    Calls Tryd.prog 52 #[v, vn] w fun e w' => ∃ v', e = .returned v' ∧ Wrote B w v (s ++ bytesOf l) v' w' := by
  obtain ⟨i0, hi, hz0, hz1, hz2⟩ := info_parts Tryd.infoU8
  obtain ⟨a, cap, rfl, hnn, hcap, hc⟩ := hn.openD
  have HC : Hid (∀ wr, Fr (fun y => v.ownBlock = some y) w wr → ∀ k, k < l.length → ∃ b off, a = some ⟨b, off, none⟩ ∧ wr.cell? ⟨b, off + k, none⟩ = some (.int .i64 (l.getD k 0))) := fun wr hf k hk => by
    obtain ⟨b, off, ha, hlt, hd⟩ := hc k hk
    refine ⟨b, off, ha, ?_⟩
    have e := hd w (Below.refl _ _)
    have hb : b < w.heap.size := lt_of_cell e
    rw [← e]
    refine World.cell?_of_block (w := w) (hf.block b hb fun hv => ?_)
    exact hsep b hv (by rw [ha]; rfl)
  have HS : Hid (Wrote B w v (s ++ bytesOf (l.take 0)) v w) := ⟨by simpa [bytesOf] using hs, Fr.refl _ _, fun g hg => Or.inl hg⟩
  clear hs hc hsep hn
  go_enter Tryd.func52, Tryd.ntmps52
  go_wp2
  go_loopw [0, 10] (fun st i wr => ∃ (k : Nat) (v' : Value), k ≤ l.length ∧ i = .int .i64 k ∧ v' = st ∧ Wrote B w v (s ++ bytesOf (l.take k)) v' wr) (fun _ i _ => l.length - (intOf i).toNat)
  case atStart => exact ⟨0, v, Nat.zero_le _, rfl, rfl, HS.out⟩
  case round =>
    clear HS
    obtain ⟨k, v1, hk, rfl, rfl, hwr⟩ := hrel
    have HW := hide hwr
    by_cases hlt : k < l.length
    · obtain ⟨b, off, rfl, d0⟩ := HC.out wr hwr.fr k hlt
      have hk0 : (0 : Int) ≤ (k : Int) := by omega
      have hk1 : (k : Int) < (l.length : Int) := by omega
      have HX : Hid (s ++ bytesOf (l.take (k + 1)) = (s ++ bytesOf (l.take k)) ++ eightB (l.getD k 0)) := by
        unfold Hid
        rw [getD_eq _ _ _ hlt, bytesOf_take_succ _ _ hlt, List.append_assoc]
      have hsl : (s ++ bytesOf (l.take k)).length + 8 ≤ 1099511627776 := by
        rw [List.length_append, bytesOf_length, List.length_take]; omega
      clear hwr HC
      generalize l.getD k 0 = x at *
      generalize s ++ bytesOf (l.take k) = pre at *
      go_wp2
      go_loopw [0, 7] (fun st i wq => ∃ (j : Nat) (v' : Value), j ≤ 8 ∧ i = .int .i64 (56 - 8 * (j : Int)) ∧ v' = st ∧ Wrote B w v (pre ++ (eightB x).take j) v' wq) (fun _ i _ => (intOf i + 8).toNat)
      case atStart => exact ⟨0, v1, Nat.zero_le _, rfl, rfl, by simpa using HW.out⟩
      case round =>
        clear HW d0
        obtain ⟨j, v2, hj, rfl, rfl, hwr⟩ := hrel
        have HW := hide hwr
        by_cases hj8 : j < 8
        · have hge : decide ((0 : Int) ≤ 56 - 8 * (j : Int)) = true := by simp; omega
          have hj0 : (0 : Int) ≤ 56 - 8 * (j : Int) := by omega
          have HO : Hid (wr.ownsRow B 5 1 v2 (pre ++ (eightB x).take j).length (byteRow (pre ++ (eightB x).take j))) := hwr.at'
          have hsz : B ≤ wr.heap.size := Nat.le_trans hB hwr.fr.size
          have hsl2 : (pre ++ (eightB x).take j).length ≤ 1099511627776 := by
            rw [List.length_append, List.length_take, eightB_length]; omega
          obtain ⟨a2, cap2, hv2⟩ := own_slice hwr.at'
          clear hwr
          generalize hsn : (pre ++ (eightB x).take j).length = n at *
          have HSN := hide hsn
          clear hsn
          have h63 : n + 1 ≤ maxLen := by unfold maxLen; omega
          have hbytes : (n + 1) * 1 ≤ 140737488355328 := by omega
          subst hv2
          go_wp2_with (at_builtin; refine wpList_append_lies _ rfl (.tmp 18) (.tmp 24) 53 rfl B 5 i0 (.int .u8 0) 1 1 Tryd.underlying53 hi hz0 hz1 hz2 rfl (by decide) (.slice a2 n cap2) n (byteRow (pre ++ (eightB x).take j)) rfl (HO.out.alloc _) ⟨wr.heap.size, 0, none⟩ 1 1 [.int .u8 (IntKind.u64.wrap x / 2 ^ (56 - 8 * j) % 256)] rfl rfl ?c1 ?c2 (by decide) h63 hbytes (by simp; omega) (wr.heap.size + 1) (by simp) ?_)
          case c1 => exact cell_one_new _ _ _
          case c2 => intro u hu; simp at hu; subst hu; rfl
          intro g gcap w1 hown hgrow hor hglt
          have HN : Hid (Wrote B w v (pre ++ (eightB x).take (j + 1)) (.slice (some ⟨g, 0, none⟩) (n + 1) gcap) w1) := by
            refine ⟨?_, (HW.out.fr.alloc _).grown hgrow fun y hy => ?_, fun y hy => ?_⟩
            · unfold SvAt
              rw [eightB_take_succ x j hj8, ← List.append_assoc, List.length_append, HSN.out, byteRow_snoc]
              have e : byteAt x (56 - 8 * j) = IntKind.u64.wrap x / 2 ^ (56 - 8 * j) % 256 := by
                unfold byteAt; rw [wrap_u64]
              rw [e]
              exact hown
            · rcases HW.out.own y hy with h1 | h1
              · exact Or.inr h1
              · exact Or.inl h1
            · have hyg : g = y := by simpa [Value.ownBlock] using hy
              subst hyg
              rcases hor with h1 | h1
              · exact HW.out.own g h1
              · exact Or.inr (by have := HW.out.fr.size; omega)
          clear hown hgrow hor HO HW
          go_wp2
          go_roundw
          case rel => exact ⟨j + 1, _, by omega, by go_num, rfl, HN.out⟩
          case measure => simp [intOf]; omega
        · have hj8' : j = 8 := by omega
          subst hj8'
          have HN : Hid (Wrote B w v (s ++ bytesOf (l.take (k + 1))) v2 wr) := by
            have e8 : (eightB x).take 8 = eightB x := List.take_of_length_le (by rw [eightB_length]; exact Nat.le_refl _)
            have := hwr
            rw [e8, ← HX.out] at this
            exact this
          clear hwr HW
          go_wp2
          go_roundw
          case rel => exact ⟨k + 1, _, by omega, by go_num, rfl, HN.out⟩
          case measure => simp [intOf]; omega
    · go_wp2
      go_ret
      have hkl : k = l.length := by omega
      exact ⟨_, rfl, by have := HW.out; rw [hkl, List.take_length] at this; exact this⟩

end Go.Proofs.YthfdgdfnflilfaaDoor
/- Package nets: which nets are nets. -/
namespace Go.Proofs.YthfdgdfnflilfaaDoor
open Go.RowKit

def validCodeB (code : List Ins) (streams : Int) : Bool := decide (1 ≤ code.length) && decide (code.length ≤ 20) && code.all fun i => opsValid i code.length streams

set_option maxHeartbeats 400000 in
theorem validCode_calls {code : List Ins} {v : Value} {w : World} (streams : Int) (h : CodeAt w v code) :
    Calls Tryd.prog 59 #[v, .int .i64 streams] w fun e w' => e = .returned (.bool (validCodeB code streams)) ∧ Below w.heap.size w w' := by
  obtain ⟨a, cap, rfl, hn, hcap, hc⟩ := h.open
  have HC := hide hc
  clear hc h
  by_cases h1 : code.length < 1
  · go_enter Tryd.func59, Tryd.ntmps59
    go_wp2
    go_ret
    exact ⟨ret_bool (by have : ¬ 1 ≤ code.length := by omega
                        simp only [validCodeB, this, decide_false, Bool.false_and]), Below.refl _ _⟩
  have h1' : decide ((code.length : Int) < 1) = false := by simp; omega
  by_cases h2 : 20 < code.length
  · go_enter Tryd.func59, Tryd.ntmps59
    go_wp2
    go_ret
    exact ⟨ret_bool (by have : ¬ code.length ≤ 20 := by omega
                        simp only [validCodeB, this, decide_false, Bool.false_and, Bool.and_false]), Below.refl _ _⟩
  have h2' : decide (20 < (code.length : Int)) = false := by simp; omega
  have HV : Hid (validCodeB code streams = code.all fun i => opsValid i code.length streams) := by
    have g1 : 1 ≤ code.length := by omega
    have g2 : code.length ≤ 20 := by omega
    unfold Hid; simp only [validCodeB, g1, g2, decide_true, Bool.true_and]
  go_enter Tryd.func59, Tryd.ntmps59
  go_wp2
  go_loopw [17] (fun i wr => ∃ k : Nat, k ≤ code.length ∧ i = .int .i64 k ∧ Below w.heap.size w wr ∧ ((code.take k).all fun i => opsValid i code.length streams) = true) (fun i _ => code.length - (intOf i).toNat)
  case atStart => exact ⟨0, Nat.zero_le _, rfl, Below.refl _ _, rfl⟩
  case round =>
    obtain ⟨k, hk, rfl, hbl, hno⟩ := hrel
    have HN := hide hno
    clear hno
    by_cases hlt : k < code.length
    · obtain ⟨b, off, rfl, d0, d1, d2, d3⟩ := unhide HC wr hbl k hlt
      clear HC
      have HS : Hid (((code.take (k + 1)).all fun i => opsValid i code.length streams) = (((code.take k).all fun i => opsValid i code.length streams) && opsValid code[k] code.length streams)) := all_take_succ _ _ _ hlt
      have HH : Hid (opsValid code[k] code.length streams = false → (code.all fun i => opsValid i code.length streams) = false) := all_of_getElem_false code (fun i => opsValid i code.length streams) k hlt
      generalize code[k] = ins at *
      obtain ⟨op, ia, ib, ic⟩ := ins
      dsimp only at d0 d1 d2 d3
      go_wp2_with fail
      refine (opsValid_calls op ia ib ic _ streams _).mono ?_
      rintro e w1 ⟨rfl, hb1⟩
      have hbl1 := (hbl.alloc hbl.size (.cells #[.int .i64 op, .int .i64 ia, .int .i64 ib, .int .i64 ic] 31)).trans (hb1.mono (by have := hbl.size; simp; omega))
      clear hb1
      cases hy : opsValid ⟨op, ia, ib, ic⟩ code.length streams
      · go_wp2
        go_ret
        exact ⟨ret_bool (by rw [HV.out, HH.out hy]), hbl1⟩
      · rw [hy] at HS
        go_wp2
        go_roundw
        case rel => exact ⟨k + 1, by omega, by go_num, hbl1, by rw [HS.out, HN.out]; rfl⟩
        case measure => simp [intOf]; omega
    · go_wp2
      go_ret
      exact ⟨ret_bool (by have := HN.out; rw [List.take_of_length_le (by omega)] at this; rw [HV.out, this]), hbl⟩

def validWorkersB (ws : List (List Ins)) (streams : Int) : Bool := decide (1 ≤ ws.length) && decide (ws.length ≤ 6) && ws.all fun c => validCodeB c streams

set_option maxHeartbeats 400000 in
theorem validWorkers_calls {ws : List (List Ins)} {v : Value} {w : World} (streams : Int) (h : WorkersAt w v ws) :
    Calls Tryd.prog 41 #[v, .int .i64 streams] w fun e w' => e = .returned (.bool (validWorkersB ws streams)) ∧ Below w.heap.size w w' := by
  obtain ⟨a, cap, rfl, hn, hcap, hc⟩ := h.open
  have HC := hide hc
  clear hc h
  by_cases h1 : ws.length < 1
  · go_enter Tryd.func41, Tryd.ntmps41
    go_wp2
    go_ret
    exact ⟨ret_bool (by have : ¬ 1 ≤ ws.length := by omega
                        simp only [validWorkersB, this, decide_false, Bool.false_and]), Below.refl _ _⟩
  have h1' : decide ((ws.length : Int) < 1) = false := by simp; omega
  by_cases h2 : 6 < ws.length
  · go_enter Tryd.func41, Tryd.ntmps41
    go_wp2
    go_ret
    exact ⟨ret_bool (by have : ¬ ws.length ≤ 6 := by omega
                        simp only [validWorkersB, this, decide_false, Bool.false_and, Bool.and_false]), Below.refl _ _⟩
  have h2' : decide (6 < (ws.length : Int)) = false := by simp; omega
  have HV : Hid (validWorkersB ws streams = ws.all fun c => validCodeB c streams) := by
    have g1 : 1 ≤ ws.length := by omega
    have g2 : ws.length ≤ 6 := by omega
    unfold Hid; simp only [validWorkersB, g1, g2, decide_true, Bool.true_and]
  go_enter Tryd.func41, Tryd.ntmps41
  go_wp2
  go_loopw [17] (fun i wr => ∃ k : Nat, k ≤ ws.length ∧ i = .int .i64 k ∧ Below w.heap.size w wr ∧ ((ws.take k).all fun c => validCodeB c streams) = true) (fun i _ => ws.length - (intOf i).toNat)
  case atStart => exact ⟨0, Nat.zero_le _, rfl, Below.refl _ _, rfl⟩
  case round =>
    obtain ⟨k, hk, rfl, hbl, hno⟩ := hrel
    have HN := hide hno
    clear hno
    by_cases hlt : k < ws.length
    · obtain ⟨b, off, u, rfl, d0, hcode⟩ := unhide HC wr hbl k hlt
      clear HC
      have HS : Hid (((ws.take (k + 1)).all fun c => validCodeB c streams) = (((ws.take k).all fun c => validCodeB c streams) && validCodeB ws[k] streams)) := all_take_succ _ _ _ hlt
      have HH : Hid (validCodeB ws[k] streams = false → (ws.all fun c => validCodeB c streams) = false) := all_of_getElem_false ws (fun c => validCodeB c streams) k hlt
      have HCd := hide hcode
      obtain ⟨ua, ucap, hu, -, -, -⟩ := hcode.open
      generalize ws[k] = cd at *
      generalize hq : cd.length = cl at *
      clear hq hcode
      subst hu
      go_wp2_with fail
      refine (validCode_calls streams (unhide HCd)).mono ?_
      rintro e w1 ⟨rfl, hb1⟩
      have hbl1 := hbl.trans (hb1.mono hbl.size)
      clear hb1
      cases hy : validCodeB cd streams
      · go_wp2
        go_ret
        exact ⟨ret_bool (by rw [HV.out, HH.out hy]), hbl1⟩
      · rw [hy] at HS
        go_wp2
        go_roundw
        case rel => exact ⟨k + 1, by omega, by go_num, hbl1, by rw [HS.out, HN.out]; rfl⟩
        case measure => simp [intOf]; omega
    · go_wp2
      go_ret
      exact ⟨ret_bool (by have := HN.out; rw [List.take_of_length_le (by omega)] at this; rw [HV.out, this]), hbl⟩

def validStreamsB (l : List Int) : Bool := decide (1 ≤ l.length) && decide (l.length ≤ 8) && l.all fun r => decide (1 ≤ r) && decide (r ≤ 6)

set_option maxHeartbeats 400000 in
theorem validStreams_calls {l : List Int} {v : Value} {w : World} (h : IntsAt w v l) :
    Calls Tryd.prog 39 #[v] w fun e w' => e = .returned (.bool (validStreamsB l)) ∧ w' = w := by
  obtain ⟨a, cap, rfl, hn, hcap, hc⟩ := h.open
  have HC := hide hc
  clear hc h
  by_cases h1 : l.length < 1
  · go_enter Tryd.func39, Tryd.ntmps39
    go_wp2
    go_ret
    exact ⟨ret_bool (by have : ¬ 1 ≤ l.length := by omega
                        simp only [validStreamsB, this, decide_false, Bool.false_and]), rfl⟩
  have h1' : decide ((l.length : Int) < 1) = false := by simp; omega
  by_cases h2 : 8 < l.length
  · go_enter Tryd.func39, Tryd.ntmps39
    go_wp2
    go_ret
    exact ⟨ret_bool (by have : ¬ l.length ≤ 8 := by omega
                        simp only [validStreamsB, this, decide_false, Bool.false_and, Bool.and_false]), rfl⟩
  have h2' : decide (8 < (l.length : Int)) = false := by simp; omega
  have HV : Hid (validStreamsB l = l.all fun r => decide (1 ≤ r) && decide (r ≤ 6)) := by
    have g1 : 1 ≤ l.length := by omega
    have g2 : l.length ≤ 8 := by omega
    unfold Hid; simp only [validStreamsB, g1, g2, decide_true, Bool.true_and]
  go_enter Tryd.func39, Tryd.ntmps39
  go_wp2
  go_loop [15] (fun i => ∃ k : Nat, k ≤ l.length ∧ i = .int .i64 k ∧ ((l.take k).all fun r => decide (1 ≤ r) && decide (r ≤ 6)) = true) (fun i => l.length - (intOf i).toNat)
  case atStart => exact ⟨0, Nat.zero_le _, rfl, rfl⟩
  case round =>
    obtain ⟨k, hk, rfl, hno⟩ := hrel
    have HN := hide hno
    clear hno
    by_cases hlt : k < l.length
    · obtain ⟨b, off, rfl, d0⟩ := unhide HC w (Below.refl _ _) k hlt
      clear HC
      have HS : Hid (((l.take (k + 1)).all fun r => decide (1 ≤ r) && decide (r ≤ 6)) = (((l.take k).all fun r => decide (1 ≤ r) && decide (r ≤ 6)) && (decide (1 ≤ l[k]) && decide (l[k] ≤ 6)))) := all_take_succ _ _ _ hlt
      have HH : Hid ((decide (1 ≤ l[k]) && decide (l[k] ≤ 6)) = false → (l.all fun r => decide (1 ≤ r) && decide (r ≤ 6)) = false) := all_of_getElem_false l (fun r => decide (1 ≤ r) && decide (r ≤ 6)) k hlt
      generalize l[k] = r at *
      by_cases g1 : r < 1
      · have F := HV.out.trans (HH.out (by have : ¬ 1 ≤ r := by omega
                                           simp [this]))
        have F' := hide F
        clear F
        go_wp2
        go_ret
        exact ⟨ret_bool (by rw [F'.out]), rfl⟩
      have g1' : decide (r < 1) = false := by simpa using g1
      by_cases g2 : 6 < r
      · have F := HV.out.trans (HH.out (by have : ¬ r ≤ 6 := by omega
                                           simp [this]))
        have F' := hide F
        clear F
        go_wp2
        go_ret
        exact ⟨ret_bool (by rw [F'.out]), rfl⟩
      have g2' : decide (6 < r) = false := by simpa using g2
      have F : Hid ((decide (1 ≤ r) && decide (r ≤ 6)) = true) := by
        have g3 : 1 ≤ r := by omega
        have g4 : r ≤ 6 := by omega
        unfold Hid; simp [g3, g4]
      go_wp2
      go_round
      case rel => exact ⟨k + 1, by omega, by go_num, by rw [HS.out, HN.out, F.out]; rfl⟩
      case measure => simp [intOf]; omega
    · go_wp2
      go_ret
      exact ⟨ret_bool (by have := HN.out; rw [List.take_of_length_le (by omega)] at this; rw [HV.out, this]), rfl⟩

end Go.Proofs.YthfdgdfnflilfaaDoor
/- Package nets: sources, ends, the whole. -/
namespace Go.Proofs.YthfdgdfnflilfaaDoor
open Go.RowKit

/-- No earlier source is on the same stream; the streams are there; not too many words. -/
def validSourcesB (ss : List Src) (streams : Int) : Bool := (List.range ss.length).all fun i => inB (ss.getD i ⟨0, []⟩).stream streams && decide ((ss.getD i ⟨0, []⟩).words.length ≤ 50) && !hasSourceB (ss.take i) (ss.getD i ⟨0, []⟩).stream

theorem range_all_succ (p : Nat → Bool) (k : Nat) : (List.range (k + 1)).all p = ((List.range k).all p && p k) := by
  rw [List.range_succ, List.all_append]; simp only [List.all_cons, List.all_nil, Bool.and_true]
theorem range_all_false (p : Nat → Bool) (n k : Nat) (h : k < n) (hp : p k = false) : (List.range n).all p = false := by
  rw [Bool.eq_false_iff]; intro hh; have := List.all_eq_true.1 hh k (List.mem_range.2 h); rw [hp] at this; cases this

set_option maxHeartbeats 1000000 in
theorem validSources_calls {ss : List Src} {v : Value} {w : World} (streams : Int) (h : SourcesAt w v ss) :
    Calls Tryd.prog 40 #[v, .int .i64 streams] w fun e w' => e = .returned (.bool (validSourcesB ss streams)) ∧ Below w.heap.size w w' := by
  obtain ⟨a, cap, rfl, hn, hcap, hc⟩ := h.open
  have HC := hide hc
  have HS0 : Hid (∀ wr, Below w.heap.size w wr → ∀ k, k ≤ ss.length → SourcesAt wr (.slice a k cap) (ss.take k)) := fun wr hb k hk => (h.take k hk).below hb
  clear hc h
  go_enter Tryd.func40, Tryd.ntmps40
  go_wp2
  go_loopw [9] (fun i wr => ∃ k : Nat, k ≤ ss.length ∧ i = .int .i64 k ∧ Below w.heap.size w wr ∧ ((List.range k).all fun i => inB (ss.getD i ⟨0, []⟩).stream streams && decide ((ss.getD i ⟨0, []⟩).words.length ≤ 50) && !hasSourceB (ss.take i) (ss.getD i ⟨0, []⟩).stream) = true) (fun i _ => ss.length - (intOf i).toNat)
  case atStart => exact ⟨0, Nat.zero_le _, rfl, Below.refl _ _, rfl⟩
  case round =>
    obtain ⟨k, hk, rfl, hbl, hno⟩ := hrel
    have HN := hide hno
    clear hno
    by_cases hlt : k < ss.length
    · obtain ⟨b, off, u, rfl, d0, d1, hu⟩ := unhide HC wr hbl k hlt
      clear HC
      have HS := hide (range_all_succ (fun i => inB (ss.getD i ⟨0, []⟩).stream streams && decide ((ss.getD i ⟨0, []⟩).words.length ≤ 50) && !hasSourceB (ss.take i) (ss.getD i ⟨0, []⟩).stream) k)
      have HH := hide (range_all_false (fun i => inB (ss.getD i ⟨0, []⟩).stream streams && decide ((ss.getD i ⟨0, []⟩).words.length ≤ 50) && !hasSourceB (ss.take i) (ss.getD i ⟨0, []⟩).stream) ss.length k hlt)
      obtain ⟨ua, ucap, hu, -, -, -⟩ := hu.open
      have HSr := unhide HS0 wr hbl k hk
      have hsl : ss.getD k ⟨0, []⟩ = ss[k] := getD_eq _ _ _ hlt
      rw [hsl] at HS HH
      clear hsl HS0
      generalize ss[k] = src at *
      obtain ⟨st, wds⟩ := src
      dsimp only at *
      generalize wds.length = sl at *
      subst hu
      by_cases g1 : st < 0
      · have F := hide (HH.out (by have : inB st streams = false := by simp [inB]; omega
                                   simp [this]))
        go_wp2
        go_ret
        exact ⟨ret_bool (by rw [validSourcesB, F.out]), hbl.alloc hbl.size _⟩
      have g1' : decide (st < 0) = false := by simpa using g1
      by_cases g2 : streams ≤ st
      · have F := hide (HH.out (by have : inB st streams = false := by simp [inB]; omega
                                   simp [this]))
        go_wp2
        go_ret
        exact ⟨ret_bool (by rw [validSourcesB, F.out]), hbl.alloc hbl.size _⟩
      have g2' : decide (streams ≤ st) = false := by simpa using g2
      have g3 : inB st streams = true := by simp [inB]; omega
      by_cases g4 : 50 < sl
      · have F := hide (HH.out (by have : ¬ sl ≤ 50 := by omega
                                   simp [this]))
        have g4' : decide (50 < (sl : Int)) = true := by simp; omega
        clear g3
        go_wp2
        go_quiet (fail)
        go_wp2
        go_ret
        exact ⟨ret_bool (by rw [validSourcesB, F.out]), below_drewN (hbl.alloc hbl.size _) _⟩
      have g4' : decide (50 < (sl : Int)) = false := by simp; omega
      have hcap' : (k : Int) ≤ (cap : Int) := by omega
      have hk0 : (0 : Int) ≤ (k : Int) := by omega
      have HK : Hid (∀ wx, Below wr.heap.size wr wx → Calls Tryd.prog 58 #[.slice (some ⟨b, off, none⟩) k cap, .int .i64 st] wx fun e w' => e = .returned (.bool (hasSourceB (ss.take k) st)) ∧ Below w.heap.size w w') :=
        fun wx hx => (hasSource_calls st (HSr.below hx)).mono fun e w' h => ⟨h.1, (hbl.trans (hx.mono hbl.size)).trans (h.2.mono (Nat.le_trans hbl.size hx.size))⟩
      clear HSr
      cases hy : hasSourceB (ss.take k) st
      · rw [hy] at HK HS
        have F := hide (g3)
        clear g3
        go_wp2
        go_region_with (go_at_call 58; refine (unhide HK _ ?_).mono ?_; (repeat (first | exact Below.refl _ _ | apply Below.drew | apply below_drewN | refine Below.alloc ?_ (by simp) _)); rintro e w1 ⟨rfl, hb1⟩)
        all_goals
          go_wp2
          go_roundw
          case rel => exact ⟨k + 1, by omega, by go_num, by assumption, by rw [HS.out, HN.out, F.out]; simp; omega⟩
          case measure => simp [intOf]; omega
      · rw [hy] at HK HH
        have F := hide (HH.out (by simp))
        clear g3
        go_wp2
        go_region_with (go_at_call 58; refine (unhide HK _ ?_).mono ?_; (repeat (first | exact Below.refl _ _ | apply Below.drew | apply below_drewN | refine Below.alloc ?_ (by simp) _)); rintro e w1 ⟨rfl, hb1⟩)
        all_goals
          go_wp2
          go_ret
          exact ⟨ret_bool (by rw [validSourcesB, F.out]), by assumption⟩
    · go_wp2
      go_ret
      exact ⟨ret_bool (by have hkk : k = ss.length := by omega
                          subst hkk
                          rw [validSourcesB, HN.out]), hbl⟩

end Go.Proofs.YthfdgdfnflilfaaDoor

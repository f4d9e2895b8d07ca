/- Part 3: Streams4, Streams5, Save1, OwnRow, Book1, Fresh. -/
import Derived.Deep.Upon
import Derived.Test.YthfdgdfnflilfaaGreatDoorPart2
/- Package streams: Put. -/
namespace Go.Proofs.YthfdgdfnflilfaaGreatDoor
open Go.RowKit Go.Conc

theorem intRow_snoc (l : List Int) (x : Int) : intRow (l ++ [x]) = intRow l ++ [.int .i64 x] := by simp [intRow]

/-- What comes of putting a word in. -/
def Puts (w : World) (b : Nat) (vw : Value) (ch : Option Nat) (m : Sm) (x : Int) (e : Ending) (w' : World) : Prop :=
  (e = .returned (.bool true) ∧ (ch ≠ none → m.words.length - m.read < m.room) ∧ ∃ vw', (∀ g, vw'.ownBlock = some g → vw.ownBlock = some g ∨ w.heap.size ≤ g) ∧ StAt w' b vw' ch false { m with words := m.words ++ [x] } ∧ Fr (fun y => y = b ∨ vw.ownBlock = some y ∨ ch = some y) w w') ∨
  (e = .returned (.bool false) ∧ ch ≠ none ∧ m.room ≤ m.words.length - m.read ∧ w' = w)

/-- A word more, no channel. -/
theorem StAt.put_none {w w1 : World} {b g cap : Nat} {vw : Value} {m : Sm} {x : Int} (h : StAt w b vw none false m) (hsm : m.words.length < 4398046511104) (o : Obj)
    (hown : w1.ownsRow 0 3 1 (.slice (some ⟨g, 0, none⟩) (m.words.length + 1) cap) (m.words.length + 1) (intRow m.words ++ [.int .i64 x])) (hg : (w.alloc o).grownBy w1 vw.ownBlock) :
    StAt (w1.setCell ⟨b, 1, none⟩ (.slice (some ⟨g, 0, none⟩) (m.words.length + 1) cap)) b (.slice (some ⟨g, 0, none⟩) (m.words.length + 1) cap) none false { m with words := m.words ++ [x] } ∧
      w1.heap[b]? = some (.cells #[.bool false, vw, .int .i64 0, .chan none, .int .i64 (m.room : Int)] 111 (0, 0)) ∧ g ≠ b := by
  have hb := lt_of_blk h.blk
  have hblk : w1.heap[b]? = some (.cells #[.bool false, vw, .int .i64 0, .chan none, .int .i64 (m.room : Int)] 111 (0, 0)) := by
    rw [hg.block b (by simp; omega) (fun e => h.ne_own e.symm rfl), Below.heap_alloc _ _ _ hb]
    exact h.blk
  obtain ⟨cur, hcur⟩ := own_block hown (g := g) rfl
  have hgb : g ≠ b := ne_of_types hcur hblk (by decide)
  refine ⟨⟨?_, ?_, ?_, ?_, fun c hc => (by cases hc), fun c hc => (by cases hc)⟩, hblk, hgb⟩
  · have := blk_set hblk 1 (.slice (some ⟨g, 0, none⟩) (m.words.length + 1) cap)
    simpa using this
  · have e : (m.words ++ [x]).length = m.words.length + 1 := by simp
    dsimp only
    rw [e, intRow_snoc]
    exact own_of_block hown fun g' hg' => by
      have : g = g' := by simpa [Value.ownBlock] using hg'
      subst this
      exact Below.heap_setCell _ _ _ _ hgb
  · have := h.le; simp; omega
  · simp; omega

set_option maxHeartbeats 1000000 in
theorem put_none {w : World} {b : Nat} {vw : Value} {m : Sm} (x : Int) (h : StAt w b vw none false m) (hsm : m.words.length < 4398046511104) :
    Calls Tryz.prog 79 #[.pointer (some ⟨b, 0, none⟩), .int .i64 x] w fun e w' => Puts w b vw none m x e w' := by
  obtain ⟨c0, c1, c2, c3, cf⟩ := h.cells
  obtain ⟨i0, hi, hz0, hz1, hz2⟩ := info_parts Tryz.info3
  obtain ⟨a, cap, hvw, hcap, hw⟩ := own_form h.own
  have heql := fun (wx : World) (a : Option Nat) => run_eql_chan_nil (P := Tryz.prog) wx 109 a Tryz.underlying109
  have HO := hide h.own
  have H := hide h
  rw [hvw] at c1 HO H
  have HB : Hid (b < w.heap.size) := lt_of_blk h.blk
  have hbytes : (m.words.length + 1) * 8 ≤ 140737488355328 := by omega
  have h63 : m.words.length + 1 ≤ maxLen := by unfold maxLen; omega
  clear cf c0 c2 hw h
  generalize hn : m.words.length = n at *
  have HN := hide hn
  clear hn
  go_enter Tryz.func79, Tryz.ntmps79
  go_wp2_with (at_builtin; refine wpList_append_lies _ rfl (.tmp 14) (.tmp 16) 22 rfl 0 3 i0 (.int .i64 0) 1 8 Tryz.underlying22 hi hz0 hz1 hz2 rfl (by decide) (.slice a n cap) n (intRow m.words) rfl (HO.out.alloc _) ⟨w.heap.size, 0, none⟩ 1 1 [.int .i64 x] rfl rfl ?c1 ?c2 (by decide) h63 hbytes (Nat.zero_le _) (w.heap.size + 1) (by simp) ?_)
  case c1 => exact cell_one_new _ _ _
  case c2 => intro u hu; simp at hu; subst hu; rfl
  intro g gcap w1 hown hgrow hor hglt
  have hn := HN.out
  subst hn
  have R := H.out.put_none (x := x) hsm _ hown hgrow
  obtain ⟨R1, R2, R3⟩ := R
  have k1 : w1.cell? ⟨b, 1, none⟩ = some (.slice a m.words.length cap) := row_cell R2 rfl
  have k2 : w1.frozen? ⟨b, 1, none⟩ = false := row_frozen R2 1
  have HR := hide R1
  have HF : Hid (Fr (fun y => y = b ∨ (Value.slice a m.words.length cap).ownBlock = some y ∨ (none : Option Nat) = some y) w (w1.setCell ⟨b, 1, none⟩ (.slice (some ⟨g, 0, none⟩) (m.words.length + 1) gcap))) :=
    Fr.setCell (S := fun y => y = b ∨ (Value.slice a m.words.length cap).ownBlock = some y ∨ (none : Option Nat) = some y) (((Fr.refl _ w).alloc _).grown hgrow (fun k hk => Or.inr (Or.inr (Or.inl hk)))) (p := ⟨b, 1, none⟩) (Or.inr (Or.inl rfl)) _
  have HOR : Hid ((Value.slice a m.words.length cap).ownBlock = some g ∨ w.heap.size ≤ g) := by
    rcases hor with h1 | h1
    · exact Or.inl h1
    · exact Or.inr (by omega)
  have HV := hide hvw
  clear R1 R2 R3 hown hgrow hor hglt H HO c1 c3 hvw
  generalize m.words.length + 1 = n1 at *
  go_wp2
  go_ret
  refine Or.inl ⟨rfl, fun hh => absurd rfl hh, .slice (some ⟨g, 0, none⟩) n1 gcap, fun g' hg' => ?_, HR.out, ?_⟩
  · have e : g = g' := by simpa [Value.ownBlock] using hg'
    subst e
    rw [HV.out]
    exact HOR.out
  · rw [HV.out]; exact HF.out

/-- A word more, in the channel too. -/
theorem StAt.put_some {w w1 : World} {b c g cap : Nat} {vw : Value} {m : Sm} {x : Int} (h : StAt w b vw (some c) false m) (hsm : m.words.length < 4398046511104) (hroom : m.words.length - m.read < m.room) (s r : Nat) (o : Obj)
    (hown : w1.ownsRow 0 3 1 (.slice (some ⟨g, 0, none⟩) (m.words.length + 1) cap) (m.words.length + 1) (intRow m.words ++ [.int .i64 x]))
    (hg : ((w.setChan c m.room ((intRow (m.words.drop m.read)).toArray.push (.int .i64 x)) false s r false).alloc o).grownBy w1 vw.ownBlock) :
    StAt (w1.setCell ⟨b, 1, none⟩ (.slice (some ⟨g, 0, none⟩) (m.words.length + 1) cap)) b (.slice (some ⟨g, 0, none⟩) (m.words.length + 1) cap) (some c) false { m with words := m.words ++ [x] } ∧
      w1.heap[b]? = some (.cells #[.bool false, vw, .int .i64 0, .chan (some c), .int .i64 0] 111 (0, 0)) ∧ g ≠ b := by
  have hb := lt_of_blk h.blk
  obtain ⟨⟨s0, r0, hc⟩, hcap, hrm⟩ := h.chan c rfl
  have hcl := lt_of_blk hc
  have hbc := h.ne_chan rfl
  have hblk : w1.heap[b]? = some (.cells #[.bool false, vw, .int .i64 0, .chan (some c), .int .i64 0] 111 (0, 0)) := by
    rw [hg.block b (by simp [size_setChan]; omega) (fun e => h.ne_own e.symm rfl), Below.heap_alloc _ _ _ (by rw [size_setChan]; exact hb), heap_setChan_ne _ _ _ _ _ _ _ _ _ hbc.symm]
    exact h.blk
  have hch : w1.heap[c]? = some (.chan m.room ((intRow (m.words.drop m.read)).toArray.push (.int .i64 x)) false s r false) := by
    rw [hg.block c (by simp [size_setChan]; omega) (fun e => h.own_ne_chan rfl e.symm rfl), Below.heap_alloc _ _ _ (by rw [size_setChan]; exact hcl), heap_setChan _ _ _ _ _ _ _ _ hcl]
  obtain ⟨cur, hcur⟩ := own_block hown (g := g) rfl
  have hgb : g ≠ b := ne_of_types hcur hblk (by decide)
  have hle := h.le
  refine ⟨⟨?_, ?_, ?_, ?_, fun c' hc' => ?_, fun c hc => rfl⟩, hblk, hgb⟩
  · have := blk_set hblk 1 (.slice (some ⟨g, 0, none⟩) (m.words.length + 1) cap)
    simpa using this
  · have e : (m.words ++ [x]).length = m.words.length + 1 := by simp
    dsimp only
    rw [e, intRow_snoc]
    exact own_of_block hown fun g' hg' => by
      have : g = g' := by simpa [Value.ownBlock] using hg'
      subst this
      exact Below.heap_setCell _ _ _ _ hgb
  · simp; omega
  · simp; omega
  · cases hc'
    refine ⟨⟨s, r, ?_⟩, by dsimp only; simp; omega, hrm⟩
    rw [Below.heap_setCell _ _ _ _ hbc.symm, hch]
    congr 2
    dsimp only
    rw [List.drop_append_of_le_length hle, intRow_snoc]
    simp

set_option maxRecDepth 100000 in
set_option maxHeartbeats 1000000 in
theorem put_some {w : World} {b c : Nat} {vw : Value} {m : Sm} (x : Int) (h : StAt w b vw (some c) false m) (hsm : m.words.length < 4398046511104) :
    Calls Tryz.prog 79 #[.pointer (some ⟨b, 0, none⟩), .int .i64 x] w fun e w' => Puts w b vw (some c) m x e w' := by
  obtain ⟨c0, c1, c2, c3, cf⟩ := h.cells
  obtain ⟨i0, hi, hz0, hz1, hz2⟩ := info_parts Tryz.info3
  obtain ⟨a, cap, hvw, hcap, hw⟩ := own_form h.own
  obtain ⟨⟨s, r, hc⟩, hcr, hroom⟩ := h.chan c rfl
  have heql := fun (wx : World) (a : Option Nat) => run_eql_chan_nil (P := Tryz.prog) wx 109 a Tryz.underlying109
  clear cf c0 c2 hw
  refine calls_of_wpN Tryz.func79 rfl ?_
  simp only [Tryz.ntmps79, List.size_toArray, List.length_cons, List.length_nil, Nat.reduceAdd, Nat.reduceSub, Array.replicate_succ, Array.replicate_zero, List.push_toArray, List.append_toArray, List.nil_append, List.cons_append]
  refine wpN_seq (wpN_of_wp ?_)
  go_wp2
  refine wpN_seq (wpN_of_wp ?_)
  go_wp2
  refine wpN_seq (wpN_of_wp ?_)
  go_wp2
  by_cases hlt : m.words.length - m.read < m.room
  · refine wpN_seq (wpN_region_first _ _ (fun b0 k cs hb => step_lone_select_send_room (c := c) (v := .int .i64 x) (z' := .int .i64 0) (comm_of rfl rfl (w' := w) (by simp [go_sem, execOp, scase, Act.eval]) b0 k cs hb) hc (by rw [unread_size]; exact hlt)) ?_)
    have hb := lt_of_blk h.blk
    have hbc := h.ne_chan rfl
    have hcl := lt_of_blk hc
    have HP : Hid (∀ (g gcap : Nat) (w1 : World) (o : Obj), w1.ownsRow 0 3 1 (.slice (some ⟨g, 0, none⟩) (m.words.length + 1) gcap) (m.words.length + 1) (intRow m.words ++ [.int .i64 x]) → ((w.setChan c m.room ((intRow (m.words.drop m.read)).toArray.push (.int .i64 x)) false (s + 1) r false).alloc o).grownBy w1 vw.ownBlock → _) := fun g gcap w1 o h1 h2 => h.put_some hsm hlt (s + 1) r o h1 h2
    have hf0 : Fr (fun y => y = b ∨ vw.ownBlock = some y ∨ (some c : Option Nat) = some y) w (w.setChan c m.room ((intRow (m.words.drop m.read)).toArray.push (.int .i64 x)) false (s + 1) r false) := (Fr.refl _ w).setChan (Or.inr (Or.inr (Or.inr rfl))) _ _ _ _ _ _
    have hblk1 : (w.setChan c m.room ((intRow (m.words.drop m.read)).toArray.push (.int .i64 x)) false (s + 1) r false).heap[b]? = some (.cells #[.bool false, vw, .int .i64 0, .chan (some c), .int .i64 0] 111 (0, 0)) := by
      rw [heap_setChan_ne _ _ _ _ _ _ _ _ _ hbc.symm]; exact h.blk
    have hown1 : (w.setChan c m.room ((intRow (m.words.drop m.read)).toArray.push (.int .i64 x)) false (s + 1) r false).ownsRow 0 3 1 vw m.words.length (intRow m.words) :=
      own_of_block h.own fun g hg => heap_setChan_ne _ _ _ _ _ _ _ _ _ (h.own_ne_chan rfl hg).symm
    have hsz : (w.setChan c m.room ((intRow (m.words.drop m.read)).toArray.push (.int .i64 x)) false (s + 1) r false).heap.size = w.heap.size := size_setChan _ _ _ _ _ _ _ _
    generalize (w.setChan c m.room ((intRow (m.words.drop m.read)).toArray.push (.int .i64 x)) false (s + 1) r false) = w0 at *
    have k1 : w0.cell? ⟨b, 1, none⟩ = some vw := row_cell hblk1 rfl
    have HO := hide hown1
    have HF0 := hide hf0
    have HSZ := hide hsz
    have HLT := hide hlt
    have HV := hide hvw
    have HB := hide hb
    have HB1 := hide hblk1
    rw [hvw] at k1 HO
    have hbytes : (m.words.length + 1) * 8 ≤ 140737488355328 := by omega
    have h63 : m.words.length + 1 ≤ maxLen := by unfold maxLen; omega
    clear h hc hf0 hsz hlt hblk1 hown1 hvw c1 c3 hcl hbc
    generalize hn : m.words.length = n at *
    have HN := hide hn
    clear hn
    go_wp2
    refine wpN_of_wp ?_
    go_wp2_with (at_builtin; refine wpList_append_lies _ rfl (.tmp 32) (.tmp 34) 22 rfl 0 3 i0 (.int .i64 0) 1 8 Tryz.underlying22 hi hz0 hz1 hz2 rfl (by decide) (.slice a n cap) n (intRow m.words) rfl (HO.out.alloc _) ⟨w0.heap.size, 0, none⟩ 1 1 [.int .i64 x] rfl rfl ?c1 ?c2 (by decide) h63 hbytes (Nat.zero_le _) (w0.heap.size + 1) (by simp) ?_)
    case c1 => exact cell_one_new _ _ _
    case c2 => intro u hu; simp at hu; subst hu; rfl
    intro g gcap w1 hown hgrow hor hglt
    rw [← HV.out] at hgrow hor
    obtain ⟨R1, R2, R3⟩ := HP.out g gcap w1 _ hown hgrow
    have k1' : w1.cell? ⟨b, 1, none⟩ = some (.slice a n cap) := by rw [row_cell R2 rfl, HV.out]
    have k2 : w1.frozen? ⟨b, 1, none⟩ = false := row_frozen R2 1
    have HR := hide R1
    have HF : Hid (Fr (fun y => y = b ∨ vw.ownBlock = some y ∨ (some c : Option Nat) = some y) w (w1.setCell ⟨b, 1, none⟩ (.slice (some ⟨g, 0, none⟩) (n + 1) gcap))) :=
      Fr.setCell (S := fun y => y = b ∨ vw.ownBlock = some y ∨ (some c : Option Nat) = some y) ((HF0.out.alloc _).grown hgrow (fun k hk => Or.inr (Or.inr (Or.inl hk)))) (p := ⟨b, 1, none⟩) (Or.inr (Or.inl rfl)) _
    have HOR : Hid (vw.ownBlock = some g ∨ w.heap.size ≤ g) := by
      rcases hor with h1 | h1
      · exact Or.inl h1
      · exact Or.inr (by have := HSZ.out; omega)
    clear R1 R2 R3 hown hgrow hor hglt HO k1
    generalize n + 1 = n1 at *
    go_wp2
    go_ret
    refine Or.inl ⟨rfl, fun _ => ?_, .slice (some ⟨g, 0, none⟩) n1 gcap, fun g' hg' => ?_, HR.out, HF.out⟩
    · rw [HN.out]; exact HLT.out
    · have e : g = g' := by simpa [Value.ownBlock] using hg'
      subst e
      exact HOR.out
  · refine wpN_seq (wpN_region_first _ _ (fun b0 k cs hb => step_lone_select_send_full (c := c) (v := .int .i64 x) (z' := .int .i64 0) (comm_of rfl rfl (w' := w) (by simp [go_sem, execOp, scase, Act.eval]) b0 k cs hb) hc (by rw [unread_size]; omega)) ?_)
    have HLT : Hid (m.room ≤ m.words.length - m.read) := by unfold Hid; omega
    clear h hc hlt
    go_wp2
    refine wpN_of_wp ?_
    go_wp2
    go_ret
    exact Or.inr ⟨rfl, by simp, HLT.out, rfl⟩

end Go.Proofs.YthfdgdfnflilfaaGreatDoor
/- Package streams: Grow. -/
namespace Go.Proofs.YthfdgdfnflilfaaGreatDoor
open Go.RowKit Go.Conc

theorem Tryz.infoInt : ∃ i, Tryz.prog.info? 3 = some i ∧ i.bytes = 8 := by
  obtain ⟨i0, hi, hz0, hz1, hz2⟩ := info_parts Tryz.info3
  exact ⟨i0, hi, hz2⟩

set_option maxRecDepth 100000 in
set_option maxHeartbeats 1000000 in
theorem sgrow_calls {w : World} {b c : Nat} {vw : Value} {m : Sm} (h : StAt w b vw (some c) false m) (hr : m.room < 1000) :
    Calls Tryz.prog 70 #[.pointer (some ⟨b, 0, none⟩)] w fun e w' => e = .returned (.tuple #[]) ∧
      StAt w' b vw (some w.heap.size) false { m with room := m.room + 1 } ∧ Fr (fun y => y = b ∨ y = c) w w' := by
  obtain ⟨c0, c1, c2, c3, cf⟩ := h.cells
  obtain ⟨⟨s, r, hc⟩, hcr, hroom⟩ := h.chan c rfl
  obtain ⟨i0, hi, hi8⟩ := Tryz.infoInt
  have hcp := fun ty => run_cap_chan (P := Tryz.prog) 109 ty Tryz.underlying109 hc
  have hmk := fun (wx : World) => run_makeChan (P := Tryz.prog) (w := wx) (t := 109) Tryz.underlying109 hi .i64 (m.room + 1) (by omega) (by rw [hi8]; omega)
  have ec : ((m.room + 1 : Nat) : Int) = (m.room : Int) + 1 := by omega
  simp only [ec] at hmk
  clear ec
  have hbc := h.ne_chan rfl
  have hcl := lt_of_blk hc
  have hb := lt_of_blk h.blk
  clear c0 c1 c2
  refine calls_of_wpN Tryz.func70 rfl ?_
  simp only [Tryz.ntmps70, List.size_toArray, List.length_cons, List.length_nil, Nat.reduceAdd, Nat.reduceSub, Array.replicate_succ, Array.replicate_zero, List.push_toArray, List.append_toArray, List.nil_append, List.cons_append]
  refine wpN_seq (wpN_of_wp ?_)
  go_wp2
  have hcl2 : ∀ ats ty, (Builtin.close_ ats ty #[.chan (some c)]).run Tryz.prog (w.alloc (.chan (m.room + 1) #[] false 0 0 false)) = .ok (.tuple #[]) ((w.alloc (.chan (m.room + 1) #[] false 0 0 false)).setChan c m.room (intRow (m.words.drop m.read)).toArray true s r false) :=
    fun ats ty => run_close_open (P := Tryz.prog) (w := w.alloc (.chan (m.room + 1) #[] false 0 0 false)) ats ty (by rw [Below.heap_alloc _ _ _ hcl]; exact hc)
  refine wpN_seq (wpN_of_wp ?_)
  go_wp2
  clear hcl2 hcp hmk
  have W1 : ((w.alloc (.chan (m.room + 1) #[] false 0 0 false)).setChan c m.room (intRow (m.words.drop m.read)).toArray true s r false).heap[c]? = some (.chan m.room (intRow (m.words.drop m.read)).toArray true s r false) :=
    heap_setChan _ _ _ _ _ _ _ _ (by simp; omega)
  have W2 : ((w.alloc (.chan (m.room + 1) #[] false 0 0 false)).setChan c m.room (intRow (m.words.drop m.read)).toArray true s r false).heap[w.heap.size]? = some (.chan (m.room + 1) #[] false 0 0 false) := by
    rw [heap_setChan_ne _ _ _ _ _ _ _ _ _ (by omega)]; exact heap_alloc_new _ _
  have W3 : Fr (fun y => y = c) w ((w.alloc (.chan (m.room + 1) #[] false 0 0 false)).setChan c m.room (intRow (m.words.drop m.read)).toArray true s r false) :=
    Fr.setChan (S := fun y => y = c) ((Fr.refl _ w).alloc _) (c := c) (Or.inr rfl) _ _ _ _ _ _
  have W4 : ((w.alloc (.chan (m.room + 1) #[] false 0 0 false)).setChan c m.room (intRow (m.words.drop m.read)).toArray true s r false).heap.size = w.heap.size + 1 := by rw [size_setChan]; simp
  generalize ((w.alloc (.chan (m.room + 1) #[] false 0 0 false)).setChan c m.room (intRow (m.words.drop m.read)).toArray true s r false) = w2 at *
  obtain ⟨un, hun⟩ : ∃ un, un = m.words.drop m.read := ⟨_, rfl⟩
  rw [← hun] at W1
  have hunl : un.length ≤ m.room := by rw [hun]; simpa using hcr
  have HUN := hide hun
  clear hun
  have b3 : w2.cell? ⟨b, 3, none⟩ = some (.chan (some c)) := by
    have := W3.block b hb hbc
    rw [← c3]; exact World.cell?_of_block (w := w) this
  have HW1 := hide W1
  have HW2 := hide W2
  have HW3 := hide W3
  have HW4 := hide W4
  clear W1 W2 W3 W4
  refine wpN_seq (wpN_seq (wpN_of_wp ?_))
  go_wp2
  refine wpN_block (wpN_loop (fun n a wr => ∃ (j : Nat) (u3 u19 u20 u21 u22 u23 : Value), j ≤ un.length ∧ n = un.length - j ∧ a = ⟨#[.pointer (some ⟨b, 0, none⟩), undef, .chan (some w.heap.size), u3, .pointer (some ⟨b, 0, none⟩), .pointer (some ⟨b, 0, none⟩), .pointer (some ⟨b, 3, none⟩), .chan (some c), .int .i64 m.room, .int .i64 (m.room + 1), .chan (some w.heap.size), .pointer (some ⟨b, 0, none⟩), .pointer (some ⟨b, 0, none⟩), .pointer (some ⟨b, 3, none⟩), .chan (some c), .pointer (some ⟨b, 0, none⟩), .pointer (some ⟨b, 0, none⟩), .pointer (some ⟨b, 3, none⟩), .chan (some c), u19, u20, u21, u22, u23, undef, undef, undef, undef], []⟩ ∧
      wr.heap[c]? = some (.chan m.room (intRow (un.drop j)).toArray true s (r + j) false) ∧ wr.heap[w.heap.size]? = some (.chan (m.room + 1) (intRow (un.take j)).toArray false j 0 false) ∧ Fr (fun y => y = c) w wr ∧ wr.heap.size = w.heap.size + 1) un.length ?_ ?_)
  · exact ⟨0, undef, undef, undef, undef, undef, undef, Nat.zero_le _, rfl, rfl, HW1.out, HW2.out, HW3.out, HW4.out⟩
  · rintro n a wr ⟨j, u3, u19, u20, u21, u22, u23, hj, rfl, rfl, G1, G2, G3, G4⟩
    by_cases hlt : j < un.length
    · have e0 : (intRow (un.drop j)).toArray.getD 0 undef = .int .i64 (un.getD j 0) := by simp [intRow, hlt]
      refine wpN_seq (wpN_region_first _ _ (fun b0 k cs hb => step_lone_recv_buf true (c := c) (z := .int .i64 0) (comm_of rfl rfl (w' := wr) (by simp [go_sem, execOp, rcase, Act.eval]) b0 k cs hb) G1 (by simp [intRow]; omega)) ?_)
      rw [e0]
      obtain ⟨x, hx⟩ : ∃ x, x = un.getD j 0 := ⟨_, rfl⟩
      rw [← hx]
      have K1 : (wr.setChan c m.room ((intRow (un.drop j)).toArray.extract 1 (intRow (un.drop j)).toArray.size) true s (r + j + 1) false).heap[c]? = some (.chan m.room (intRow (un.drop (j + 1))).toArray true s (r + (j + 1)) false) := by
        rw [heap_setChan _ _ _ _ _ _ _ _ (by omega)]
        congr 2
        simp only [intRow, List.extract_toArray, List.size_toArray, List.length_map, List.length_drop, List.map_drop]
        rw [List.extract_eq_take_drop, List.drop_drop, List.take_of_length_le (by simp; omega)]
      have K2 : (wr.setChan c m.room ((intRow (un.drop j)).toArray.extract 1 (intRow (un.drop j)).toArray.size) true s (r + j + 1) false).heap[w.heap.size]? = some (.chan (m.room + 1) (intRow (un.take j)).toArray false j 0 false) := by
        rw [heap_setChan_ne _ _ _ _ _ _ _ _ _ (by omega)]; exact G2
      have K3 : Fr (fun y => y = c) w (wr.setChan c m.room ((intRow (un.drop j)).toArray.extract 1 (intRow (un.drop j)).toArray.size) true s (r + j + 1) false) := Fr.setChan (S := fun y => y = c) G3 (c := c) (Or.inr rfl) _ _ _ _ _ _
      have K4 : (wr.setChan c m.room ((intRow (un.drop j)).toArray.extract 1 (intRow (un.drop j)).toArray.size) true s (r + j + 1) false).heap.size = w.heap.size + 1 := by rw [size_setChan]; exact G4
      generalize (wr.setChan c m.room ((intRow (un.drop j)).toArray.extract 1 (intRow (un.drop j)).toArray.size) true s (r + j + 1) false) = w3 at *
      have hgot : got true (.int .i64 x) true = .tuple #[.int .i64 x, .bool true] := rfl
      rw [hgot]
      have HX := hide hx
      clear hx e0 hgot G1 G2 G3 G4
      have HK1 := hide K1
      have HK2 := hide K2
      have HK3 := hide K3
      have HK4 := hide K4
      clear K1 K2 K3 K4
      go_wp2
      refine wpN_seq (wpN_of_wp ?_)
      go_wp2
      refine wpN_block (wpN_seq (wpN_of_wp ?_))
      go_wp2
      refine wpN_region (rest_value _ rfl rfl (.chan (some w.heap.size)) w3 (by simp [go_sem, execOp, Act.eval]) (rest_value _ rfl rfl (.int .i64 x) w3 (by simp [go_sem, execOp, Act.eval, Act.put]) (rest_step _ rfl undef (w3.setChan w.heap.size (m.room + 1) ((intRow (un.take j)).toArray.push (.int .i64 x)) false (j + 1) 0 false) (fun b0 k cs hb => step_lone_send_room (c := w.heap.size) (v := .int .i64 x) (z' := .tuple #[]) (comm_of rfl rfl (w' := w3) (by simp [go_sem, execOp, scase, Act.eval, Act.put]) b0 k cs hb) HK2.out (by simp [intRow]; omega)) (rest_nil ?_))))
      have J1 : (w3.setChan w.heap.size (m.room + 1) ((intRow (un.take j)).toArray.push (.int .i64 x)) false (j + 1) 0 false).heap[c]? = some (.chan m.room (intRow (un.drop (j + 1))).toArray true s (r + (j + 1)) false) := by
        rw [heap_setChan_ne _ _ _ _ _ _ _ _ _ (by omega)]; exact HK1.out
      have J2 : (w3.setChan w.heap.size (m.room + 1) ((intRow (un.take j)).toArray.push (.int .i64 x)) false (j + 1) 0 false).heap[w.heap.size]? = some (.chan (m.room + 1) (intRow (un.take (j + 1))).toArray false (j + 1) 0 false) := by
        rw [heap_setChan _ _ _ _ _ _ _ _ (by have := HK4.out; omega)]
        congr 2
        rw [List.take_succ_eq_append_getElem hlt, intRow_snoc, HX.out, getD_eq _ _ _ hlt]
        simp
      have J3 : Fr (fun y => y = c) w (w3.setChan w.heap.size (m.room + 1) ((intRow (un.take j)).toArray.push (.int .i64 x)) false (j + 1) 0 false) := Fr.setChan (S := fun y => y = c) HK3.out (c := w.heap.size) (Or.inl (Nat.le_refl _)) _ _ _ _ _ _
      have J4 : (w3.setChan w.heap.size (m.room + 1) ((intRow (un.take j)).toArray.push (.int .i64 x)) false (j + 1) 0 false).heap.size = w.heap.size + 1 := by rw [size_setChan]; exact HK4.out
      exact ⟨un.length - (j + 1), by omega, j + 1, _, _, _, _, _, _, by omega, rfl, rfl, J1, J2, J3, J4⟩
    · have hjj : j = un.length := by omega
      subst hjj
      have G1' : wr.heap[c]? = some (.chan m.room #[] true s (r + un.length) false) := by rw [G1, List.drop_of_length_le (Nat.le_refl _)]; rfl
      refine wpN_seq (wpN_region_first _ _ (fun b0 k cs hb => step_lone_recv_shut true (c := c) (z := .int .i64 0) (comm_of rfl rfl (w' := wr) (by simp [go_sem, execOp, rcase, Act.eval]) b0 k cs hb) G1') ?_)
      have hgot : got true (.int .i64 0) false = .tuple #[.int .i64 0, .bool false] := rfl
      rw [hgot]
      have hblk : wr.heap[b]? = some (.cells #[.bool false, vw, .int .i64 0, .chan (some c), .int .i64 0] 111 (0, 0)) := (G3.block b hb hbc).trans h.blk
      have k3 : wr.cell? ⟨b, 3, none⟩ = some (.chan (some c)) := row_cell hblk rfl
      have kf : wr.frozen? ⟨b, 3, none⟩ = false := row_frozen hblk 3
      have HT : Hid (StAt (wr.setCell ⟨b, 3, none⟩ (.chan (some w.heap.size))) b vw (some w.heap.size) false { m with room := m.room + 1 }) := by
        refine ⟨?_, ?_, h.le, h.small, fun c' hc' => ?_, fun _ _ => rfl⟩
        · have := blk_set hblk 3 (.chan (some w.heap.size))
          simpa using this
        · refine own_of_block h.own fun g hg => ?_
          obtain ⟨cur, hcur⟩ := own_block h.own hg
          rw [Below.heap_setCell _ _ _ _ (h.ne_own hg)]
          exact G3.block g (lt_of_blk hcur) (h.own_ne_chan rfl hg)
        · cases hc'
          refine ⟨⟨un.length, 0, ?_⟩, by dsimp only; omega, by dsimp only; omega⟩
          rw [Below.heap_setCell _ _ _ _ (by dsimp only; omega), G2, List.take_of_length_le (Nat.le_refl _), HUN.out]
      have HF : Hid (Fr (fun y => y = b ∨ y = c) w (wr.setCell ⟨b, 3, none⟩ (.chan (some w.heap.size)))) :=
        Fr.setCell (S := fun y => y = b ∨ y = c) (G3.mono fun k _ hk => Or.inr hk) (p := ⟨b, 3, none⟩) (Or.inr (Or.inl rfl)) _
      clear hgot G1 G1' G2 G3 G4 hblk h
      go_wp2
      refine wpN_seq (wpN_of_wp ?_)
      go_wp2
      refine wpN_of_wp ?_
      go_wp2
      go_end0
      exact ⟨rfl, HT.out, HF.out⟩

end Go.Proofs.YthfdgdfnflilfaaGreatDoor
/- Package states: Append. -/
namespace Go.Proofs.YthfdgdfnflilfaaGreatDoor
open Go.RowKit Go.Conc

/-- A row of bytes. -/
def byteRow (l : List Int) : List Value := l.map (Value.int .u8)
theorem byteRow_length (l : List Int) : (byteRow l).length = l.length := by simp [byteRow]
theorem byteRow_snoc (l : List Int) (x : Int) : byteRow (l ++ [x]) = byteRow l ++ [.int .u8 x] := by simp [byteRow]

/-- The byte of a number at a shift; its eight bytes, the highest first. -/
def byteAt (x : Int) (sh : Nat) : Int := x % 18446744073709551616 / 2 ^ sh % 256
def eightB (x : Int) : List Int := (List.range 8).map fun j => byteAt x (56 - 8 * j)
def bytesOf (l : List Int) : List Int := l.flatMap eightB

theorem eightB_length (x : Int) : (eightB x).length = 8 := by simp [eightB]
theorem bytesOf_length (l : List Int) : (bytesOf l).length = 8 * l.length := by
  induction l with
  | nil => rfl
  | cons x l ih => simp only [bytesOf, List.flatMap_cons, List.length_append, eightB_length, List.length_cons] at ih ⊢; omega
theorem bytesOf_append (a b : List Int) : bytesOf (a ++ b) = bytesOf a ++ bytesOf b := by simp [bytesOf]
theorem bytesOf_take_succ (l : List Int) (k : Nat) (h : k < l.length) : bytesOf (l.take (k + 1)) = bytesOf (l.take k) ++ eightB l[k] := by
  rw [List.take_succ_eq_append_getElem h, bytesOf_append]; simp [bytesOf]
theorem eightB_take_succ (x : Int) (j : Nat) (h : j < 8) : (eightB x).take (j + 1) = (eightB x).take j ++ [byteAt x (56 - 8 * j)] := by
  have hl : j < (eightB x).length := by rw [eightB_length]; exact h
  rw [List.take_succ_eq_append_getElem hl]
  simp [eightB]

theorem wrap_u64 (x : Int) : IntKind.u64.wrap x = x % 18446744073709551616 := by
  simp [IntKind.wrap, IntKind.bits, IntKind.signed]

/-- A state that is being written. -/
def SvAt (B : Nat) (w : World) (v : Value) (s : List Int) : Prop := w.ownsRow B 5 1 v s.length (byteRow s)

theorem Tryz.infoU8 : (Tryz.prog.info? 5).map (fun i => (i.zero, i.size, i.bytes)) = some (some (.int .u8 0), 1, 1) := by kernel_rfl

/-- What a call leaves of a state: the state's own row may have turned. -/
structure Wrote (B : Nat) (w : World) (v : Value) (s : List Int) (v' : Value) (w' : World) : Prop where
  at' : SvAt B w' v' s
  fr : Fr (fun y => v.ownBlock = some y) w w'
  own : ∀ g, v'.ownBlock = some g → v.ownBlock = some g ∨ w.heap.size ≤ g

theorem own_slice {w : World} {B n : Nat} {e : TypeId} {size : Nat} {v : Value} {xs : List Value} (h : w.ownsRow B e size v n xs) : ∃ a cap, v = .slice a n cap := by
  obtain ⟨h1, h2⟩ := h
  rcases h2 with ⟨h3, h4⟩ | ⟨g, cap, cur, hv, r⟩
  · exact ⟨none, 0, by rw [h3, h4]⟩
  · exact ⟨_, _, hv⟩

theorem own_of_blockB {w w' : World} {B : Nat} {e : TypeId} {size : Nat} {v : Value} {n : Nat} {xs : List Value} (h : w.ownsRow B e size v n xs) (hk : ∀ g, v.ownBlock = some g → w'.heap[g]? = w.heap[g]?) : w'.ownsRow B e size v n xs := by
  obtain ⟨h1, h2⟩ := h
  refine ⟨h1, ?_⟩
  rcases h2 with h2 | ⟨g, cap, cur, hv, hg, hh, r⟩
  · exact Or.inl h2
  · exact Or.inr ⟨g, cap, cur, hv, hg, by rw [hk g (by rw [hv]; rfl)]; exact hh, r⟩
theorem own_blockB {w : World} {B : Nat} {e : TypeId} {size : Nat} {v : Value} {n : Nat} {xs : List Value} (h : w.ownsRow B e size v n xs) {g : Nat} (hg : v.ownBlock = some g) : ∃ cur, w.heap[g]? = some (.cells cur e (0, 0)) := by
  obtain ⟨_, h2⟩ := h
  rcases h2 with ⟨h2, _⟩ | ⟨g', cap, cur, hv, _, hh, _⟩
  · rw [h2] at hg; cases hg
  · rw [hv] at hg
    have : g' = g := by simpa [Value.ownBlock] using hg
    subst this
    exact ⟨cur, hh⟩
theorem own_baseB {w : World} {B : Nat} {e : TypeId} {size : Nat} {v : Value} {n : Nat} {xs : List Value} (h : w.ownsRow B e size v n xs) {g : Nat} (hg : v.ownBlock = some g) : B ≤ g := by
  obtain ⟨_, h2⟩ := h
  rcases h2 with ⟨h2, _⟩ | ⟨g', cap, cur, hv, hb, hh, _⟩
  · rw [h2] at hg; cases hg
  · rw [hv] at hg
    have : g' = g := by simpa [Value.ownBlock] using hg
    subst this
    exact hb

theorem Wrote.trans {B : Nat} {a b c : World} {v v1 v2 : Value} {s s' : List Int} (h : Wrote B a v s v1 b) (k : Wrote B b v1 s' v2 c) : Wrote B a v s' v2 c :=
  ⟨k.at', h.fr.trans k.fr fun x hx hv => by
    rcases h.own x hv with h1 | h1
    · exact h1
    · omega, fun g hg => by
    rcases k.own g hg with h1 | h1
    · exact h.own g h1
    · exact Or.inr (Nat.le_trans h.fr.size h1)⟩

theorem Wrote.drewN {B : Nat} {a b : World} {v v1 : Value} {s : List Int} (h : Wrote B a v s v1 b) (q : Nat) : Wrote B a v s v1 (b.drewN q) := ⟨h.at', h.fr.drewN q, h.own⟩

set_option maxRecDepth 100000 in
set_option maxHeartbeats 2000000 in
theorem append_calls {B : Nat} {w : World} {v vn : Value} {s l : List Int} (hB : B ≤ w.heap.size) (hs : SvAt B w v s) (hn : IntsAt w vn l) (hsep : ∀ g, v.ownBlock = some g → vn.ownBlock ≠ some g) (hlen : s.length + 8 * l.length ≤ 1099511627776) :
    Calls Tryz.prog 88 #[v, vn] w fun e w' => ∃ v', e = .returned v' ∧ Wrote B w v (s ++ bytesOf l) v' w' := by
  obtain ⟨i0, hi, hz0, hz1, hz2⟩ := info_parts Tryz.infoU8
  obtain ⟨a, cap, rfl, hnn, hcap, hc⟩ := hn.openD
  have HC : Hid (∀ wr, Fr (fun y => v.ownBlock = some y) w wr → ∀ k, k < l.length → ∃ b off, a = some ⟨b, off, none⟩ ∧ wr.cell? ⟨b, off + k, none⟩ = some (.int .i64 (l.getD k 0))) := fun wr hf k hk => by
    obtain ⟨b, off, ha, hlt, hd⟩ := hc k hk
    refine ⟨b, off, ha, ?_⟩
    have e := hd w (Below.refl _ _)
    have hb : b < w.heap.size := lt_of_cell e
    rw [← e]
    refine World.cell?_of_block (w := w) (hf.block b hb fun hv => ?_)
    exact hsep b hv (by rw [ha]; rfl)
  have HS : Hid (Wrote B w v (s ++ bytesOf (l.take 0)) v w) := ⟨by simpa [bytesOf] using hs, Fr.refl _ _, fun g hg => Or.inl hg⟩
  clear hs hc hsep hn
  go_enter Tryz.func88, Tryz.ntmps88
  go_wp2
  go_loopw [0, 10] (fun st i wr => ∃ (k : Nat) (v' : Value), k ≤ l.length ∧ i = .int .i64 k ∧ v' = st ∧ Wrote B w v (s ++ bytesOf (l.take k)) v' wr) (fun _ i _ => l.length - (intOf i).toNat)
  case atStart => exact ⟨0, v, Nat.zero_le _, rfl, rfl, HS.out⟩
  case round =>
    clear HS
    obtain ⟨k, v1, hk, rfl, rfl, hwr⟩ := hrel
    have HW := hide hwr
    by_cases hlt : k < l.length
    · obtain ⟨b, off, rfl, d0⟩ := HC.out wr hwr.fr k hlt
      have hk0 : (0 : Int) ≤ (k : Int) := by omega
      have hk1 : (k : Int) < (l.length : Int) := by omega
      have HX : Hid (s ++ bytesOf (l.take (k + 1)) = (s ++ bytesOf (l.take k)) ++ eightB (l.getD k 0)) := by
        unfold Hid
        rw [getD_eq _ _ _ hlt, bytesOf_take_succ _ _ hlt, List.append_assoc]
      have hsl : (s ++ bytesOf (l.take k)).length + 8 ≤ 1099511627776 := by
        rw [List.length_append, bytesOf_length, List.length_take]; omega
      clear hwr HC
      generalize l.getD k 0 = x at *
      generalize s ++ bytesOf (l.take k) = pre at *
      go_wp2
      go_loopw [0, 7] (fun st i wq => ∃ (j : Nat) (v' : Value), j ≤ 8 ∧ i = .int .i64 (56 - 8 * (j : Int)) ∧ v' = st ∧ Wrote B w v (pre ++ (eightB x).take j) v' wq) (fun _ i _ => (intOf i + 8).toNat)
      case atStart => exact ⟨0, v1, Nat.zero_le _, rfl, rfl, by simpa using HW.out⟩
      case round =>
        clear HW d0
        obtain ⟨j, v2, hj, rfl, rfl, hwr⟩ := hrel
        have HW := hide hwr
        by_cases hj8 : j < 8
        · have hge : decide ((0 : Int) ≤ 56 - 8 * (j : Int)) = true := by simp; omega
          have hj0 : (0 : Int) ≤ 56 - 8 * (j : Int) := by omega
          have HO : Hid (wr.ownsRow B 5 1 v2 (pre ++ (eightB x).take j).length (byteRow (pre ++ (eightB x).take j))) := hwr.at'
          have hsz : B ≤ wr.heap.size := Nat.le_trans hB hwr.fr.size
          have hsl2 : (pre ++ (eightB x).take j).length ≤ 1099511627776 := by
            rw [List.length_append, List.length_take, eightB_length]; omega
          obtain ⟨a2, cap2, hv2⟩ := own_slice hwr.at'
          clear hwr
          generalize hsn : (pre ++ (eightB x).take j).length = n at *
          have HSN := hide hsn
          clear hsn
          have h63 : n + 1 ≤ maxLen := by unfold maxLen; omega
          have hbytes : (n + 1) * 1 ≤ 140737488355328 := by omega
          subst hv2
          go_wp2_with (at_builtin; refine wpList_append_lies _ rfl (.tmp 18) (.tmp 24) 100 rfl B 5 i0 (.int .u8 0) 1 1 Tryz.underlying100 hi hz0 hz1 hz2 rfl (by decide) (.slice a2 n cap2) n (byteRow (pre ++ (eightB x).take j)) rfl (HO.out.alloc _) ⟨wr.heap.size, 0, none⟩ 1 1 [.int .u8 (IntKind.u64.wrap x / 2 ^ (56 - 8 * j) % 256)] rfl rfl ?c1 ?c2 (by decide) h63 hbytes (by simp; omega) (wr.heap.size + 1) (by simp) ?_)
          case c1 => exact cell_one_new _ _ _
          case c2 => intro u hu; simp at hu; subst hu; rfl
          intro g gcap w1 hown hgrow hor hglt
          have HN : Hid (Wrote B w v (pre ++ (eightB x).take (j + 1)) (.slice (some ⟨g, 0, none⟩) (n + 1) gcap) w1) := by
            refine ⟨?_, (HW.out.fr.alloc _).grown hgrow fun y hy => ?_, fun y hy => ?_⟩
            · unfold SvAt
              rw [eightB_take_succ x j hj8, ← List.append_assoc, List.length_append, HSN.out, byteRow_snoc]
              have e : byteAt x (56 - 8 * j) = IntKind.u64.wrap x / 2 ^ (56 - 8 * j) % 256 := by
                unfold byteAt; rw [wrap_u64]
              rw [e]
              exact hown
            · rcases HW.out.own y hy with h1 | h1
              · exact Or.inr h1
              · exact Or.inl h1
            · have hyg : g = y := by simpa [Value.ownBlock] using hy
              subst hyg
              rcases hor with h1 | h1
              · exact HW.out.own g h1
              · exact Or.inr (by have := HW.out.fr.size; omega)
          clear hown hgrow hor HO HW
          go_wp2
          go_roundw
          case rel => exact ⟨j + 1, _, by omega, by go_num, rfl, HN.out⟩
          case measure => simp [intOf]; omega
        · have hj8' : j = 8 := by omega
          subst hj8'
          have HN : Hid (Wrote B w v (s ++ bytesOf (l.take (k + 1))) v2 wr) := by
            have e8 : (eightB x).take 8 = eightB x := List.take_of_length_le (by rw [eightB_length]; exact Nat.le_refl _)
            have := hwr
            rw [e8, ← HX.out] at this
            exact this
          clear hwr HW
          go_wp2
          go_roundw
          case rel => exact ⟨k + 1, _, by omega, by go_num, rfl, HN.out⟩
          case measure => simp [intOf]; omega
    · go_wp2
      go_ret
      have hkl : k = l.length := by omega
      exact ⟨_, rfl, by have := HW.out; rw [hkl, List.take_length] at this; exact this⟩

end Go.Proofs.YthfdgdfnflilfaaGreatDoor
/- What lies in a row that is owned. -/
namespace Go.Proofs.YthfdgdfnflilfaaGreatDoor
open Go.RowKit Go.Conc

theorem heapNew {w : World} {o : Obj} {k : Nat} (h : k = w.heap.size) : (w.alloc o).heap[k]? = some o := by subst h; exact heap_alloc_new _ _
theorem heapOld {w : World} {o o' : Obj} {k : Nat} (h : k < w.heap.size) (hh : w.heap[k]? = some o') : (w.alloc o).heap[k]? = some o' := (Below.heap_alloc _ _ _ h).trans hh

theorem own_row_get {w : World} {base n : Nat} {t : TypeId} {v : Value} {vals : List Value} (h : w.ownsRow base t 1 v n vals) : ∃ a cap, v = .slice a n cap ∧ n ≤ cap ∧ ∀ i (hi : i < vals.length), ∃ g, a = some ⟨g, 0, none⟩ ∧ w.cell? ⟨g, i, none⟩ = some vals[i] := by
  obtain ⟨h1, h2⟩ := h
  rcases h2 with ⟨rfl, rfl⟩ | ⟨g, cap, cur, rfl, hg, hh, hn, hm, hs, ht⟩
  · exact ⟨none, 0, rfl, Nat.le_refl _, fun i hi => by omega⟩
  · refine ⟨_, cap, rfl, hn, fun i hi => ⟨g, rfl, ?_⟩⟩
    have e : vals[i]? = some vals[i] := List.getElem?_eq_getElem hi
    generalize vals[i] = x at e ⊢
    rw [← ht, Nat.mul_one, List.getElem?_take_of_lt (by omega)] at e
    simpa [World.cell?, hh] using e

end Go.Proofs.YthfdgdfnflilfaaGreatDoor
/- The law's book in memory: rows of lists, each list as the caller wrote it; blocks are told apart by colours. -/
namespace Go.Proofs.YthfdgdfnflilfaaGreatDoor
open Go.RowKit Go.Conc

theorem Sl.frame {w w' : World} {v : Value} {n sz : Nat} {f : Nat → Nat → Value} (h : Sl w v n sz f) (hk : ∀ g, v.ownBlock = some g → w'.heap[g]? = w.heap[g]?) : Sl w' v n sz f := by
  obtain ⟨a, cap, rfl, hn, hcap, h⟩ := h
  refine ⟨a, cap, rfl, hn, hcap, ?_⟩
  rcases h with h | ⟨b, off, rfl, hc⟩
  · exact Or.inl h
  · exact Or.inr ⟨b, off, rfl, fun i hi j hj => by rw [World.cell?_of_block (w := w) (hk b rfl)]; exact hc i hi j hj⟩

/-- A row of the book: field r of the world's struct at block p; f tells what the caller wrote. The row's block has colour r, its lists' blocks colour 8. -/
structure BkRow (base : Nat) (col : Nat → Nat) (w : World) (p r : Nat) (t : TypeId) (sz md : Nat) (f : Nat → Nat → Nat → Value) (c : Nat) : Prop where
  ex : ∃ (v : Value) (vals : List Value), w.cell? ⟨p, r, none⟩ = some v ∧ w.ownsRow base t 1 v vals.length vals ∧ (∀ g, v.ownBlock = some g → col g = r) ∧ vals.length ≤ c ∧ vals.length % md = 0 ∧
    (∀ i (h : i < vals.length), ∃ m, Sl w vals[i] m sz (f i)) ∧ (∀ u ∈ vals, ∀ g, u.ownBlock = some g → g < w.heap.size ∧ col g = 8)

theorem BkRow.frame {base : Nat} {col col' : Nat → Nat} {w w' : World} {p r : Nat} {t : TypeId} {sz md : Nat} {f : Nat → Nat → Nat → Value} {c c' : Nat} (h : BkRow base col w p r t sz md f c) (hcell : w'.cell? ⟨p, r, none⟩ = w.cell? ⟨p, r, none⟩)
    (hblk : ∀ b, b < w.heap.size → col b = r ∨ col b = 8 → w'.heap[b]? = w.heap[b]?) (hcol : ∀ b, b < w.heap.size → col b = r ∨ col b = 8 → col' b = col b) (hsz : w.heap.size ≤ w'.heap.size) (hc : c ≤ c') : BkRow base col' w' p r t sz md f c' := by
  obtain ⟨v, vals, h1, h2, h3, h4, h5, h6, h7⟩ := h.ex
  have hlt : ∀ g, v.ownBlock = some g → g < w.heap.size := fun g hg => (h2.lt g hg).2
  refine ⟨v, vals, hcell.trans h1, own_of_blockB h2 fun g hg => hblk g (hlt g hg) (Or.inl (h3 g hg)), fun g hg => (hcol g (hlt g hg) (Or.inl (h3 g hg))).trans (h3 g hg), Nat.le_trans h4 hc, h5, fun i hi => ?_, fun u hu g hg => ?_⟩
  · obtain ⟨m, hm⟩ := h6 i hi
    exact ⟨m, hm.frame fun g hg => hblk g (h7 _ (List.getElem_mem hi) g hg).1 (Or.inr (h7 _ (List.getElem_mem hi) g hg).2)⟩
  · obtain ⟨q1, q2⟩ := h7 u hu g hg
    exact ⟨Nat.lt_of_lt_of_le q1 hsz, (hcol g q1 (Or.inr q2)).trans q2⟩

theorem BkRow.lists {base : Nat} {col : Nat → Nat} {w : World} {p r : Nat} {t : TypeId} {sz md : Nat} {f : Nat → Nat → Nat → Value} {c : Nat} (h : BkRow base col w p r t sz md f c) (hc : c ≤ 140737488355328) :
    ∃ v, w.cell? ⟨p, r, none⟩ = some v ∧ Lists w v sz f := by
  obtain ⟨v, vals, h1, h2, h3, h4, h5, h6, h7⟩ := h.ex
  obtain ⟨a, cap, rfl, hcap, hg⟩ := own_row_get h2
  refine ⟨_, h1, vals.length, fun i => vals.getD i (.bool false), ⟨a, cap, rfl, by omega, hcap, ?_⟩, fun i hi => ?_⟩
  · rcases Nat.eq_zero_or_pos vals.length with h0 | h0
    · exact Or.inl h0
    · obtain ⟨g, rfl, -⟩ := hg 0 h0
      refine Or.inr ⟨g, 0, rfl, fun i hi j hj => ?_⟩
      obtain ⟨g', e, hcell⟩ := hg i hi
      cases e
      have : j = 0 := by omega
      subst this
      simpa [List.getD, hi] using hcell
  · obtain ⟨m, hm⟩ := h6 i hi
    refine ⟨m, ?_⟩
    simpa [List.getD, hi] using hm

/-- What the caller wrote all over the lists of each row. -/
def wrB (i k : Nat) (_ : Nat) : Value := .int .u8 (digitI (i / 4 * 4 : Nat) k)
def wrN (i _ _ : Nat) : Value := .int .i64 (-1 - (i / 4 * 4 : Nat))
def wrT (_ _ _ : Nat) : Value := .int .u8 251
def wrI (_ _ _ : Nat) : Value := .int .i64 (-7)
def wrC (_ _ j : Nat) : Value := if j = 0 then .int .i64 (-8) else .int .i64 0
def wrL (_ _ _ : Nat) : Value := .slice none 0 0
def wrF (_ _ j : Nat) : Value := if j = 0 then .int .i64 (-9) else .slice none 0 0

def rowT : Nat → TypeId
  | 1 => 100
  | 2 => 22
  | 3 => 100
  | 4 => 22
  | 5 => 45
  | 6 => 24
  | _ => 23
def rowSz : Nat → Nat
  | 5 => 4
  | 7 => 2
  | _ => 1
def rowF : Nat → Nat → Nat → Nat → Value
  | 1 => wrB
  | 2 => wrN
  | 3 => wrT
  | 4 => wrI
  | 5 => wrC
  | 6 => wrL
  | _ => wrF
/-- Of what number a row's lists come. -/
def rowMd : Nat → Nat
  | 1 => 4
  | 2 => 4
  | _ => 1

/-- The book. -/
structure BkM (md : Nat → Nat) (base : Nat) (col : Nat → Nat) (w : World) (p : Nat) (v0 : Value) (c : Nat) : Prop where
  blk : ∃ cs : List Value, w.heap[p]? = some (.cells cs.toArray 35 (0, 0)) ∧ cs.length = 8
  colp : col p = 0
  ge : base ≤ p
  c0 : w.cell? ⟨p, 0, none⟩ = some v0
  rows : ∀ r, 1 ≤ r → r ≤ 7 → BkRow base col w p r (rowT r) (rowSz r) (md r) (rowF r) c
  low : ∀ b, b < base → 90 ≤ col b

abbrev Bk := BkM rowMd

theorem BkM.kept {md : Nat → Nat} {base : Nat} {col : Nat → Nat} {w : World} {p : Nat} {v0 : Value} {c : Nat} (h : BkM md base col w p v0 c) (hc : c ≤ 140737488355328) :
    Calls Tryz.prog 17 #[.pointer (some ⟨p, 0, none⟩)] w fun e w' => e = .returned (.bool true) ∧ ∃ q, w' = w.drewN q := by
  obtain ⟨v1, a1, b1⟩ := (h.rows 1 (by decide) (by decide)).lists hc
  obtain ⟨v2, a2, b2⟩ := (h.rows 2 (by decide) (by decide)).lists hc
  obtain ⟨v3, a3, b3⟩ := (h.rows 3 (by decide) (by decide)).lists hc
  obtain ⟨v4, a4, b4⟩ := (h.rows 4 (by decide) (by decide)).lists hc
  obtain ⟨v5, a5, b5⟩ := (h.rows 5 (by decide) (by decide)).lists hc
  obtain ⟨v6, a6, b6⟩ := (h.rows 6 (by decide) (by decide)).lists hc
  obtain ⟨v7, a7, b7⟩ := (h.rows 7 (by decide) (by decide)).lists hc
  exact kept_calls ⟨h.c0, a1, a2, a3, b1, b2, b3, ⟨a4, a5, a6, a7, b4, b5, b6, b7⟩⟩

/-- Whatever leaves the book's blocks alone leaves the book. -/
theorem BkM.frame {md : Nat → Nat} {base : Nat} {col col' : Nat → Nat} {w w' : World} {p : Nat} {v0 : Value} {c c' : Nat} (h : BkM md base col w p v0 c) (hblk : ∀ b, b < w.heap.size → col b ≤ 8 → w'.heap[b]? = w.heap[b]?) (hcol : ∀ b, b < w.heap.size → col b ≤ 8 → col' b = col b) (hlow : ∀ b, b < base → 90 ≤ col' b) (hsz : w.heap.size ≤ w'.heap.size) (hc : c ≤ c') : BkM md base col' w' p v0 c' := by
  obtain ⟨cs, hp, hl⟩ := h.blk
  have hpl := lt_of_blk hp
  have ep := hblk p hpl (by rw [h.colp]; omega)
  have ec : ∀ r, w'.cell? ⟨p, r, none⟩ = w.cell? ⟨p, r, none⟩ := fun r => World.cell?_of_block (w := w) ep
  exact ⟨⟨cs, ep.trans hp, hl⟩, (hcol p hpl (by rw [h.colp]; omega)).trans h.colp, h.ge, (ec 0).trans h.c0, fun r h1 h7 => (h.rows r h1 h7).frame (ec _) (fun b hb hx => hblk b hb (by omega)) (fun b hb hx => hcol b hb (by omega)) hsz hc, hlow⟩

theorem BkM.below {md : Nat → Nat} {base : Nat} {col : Nat → Nat} {w w' : World} {p : Nat} {v0 : Value} {c : Nat} (h : BkM md base col w p v0 c) (hb : Below w.heap.size w w') : BkM md base col w' p v0 c :=
  h.frame (fun b hb' _ => hb.block b hb') (fun _ _ _ => rfl) h.low hb.size (Nat.le_refl _)

/-- A row behind an append: the new value, the entry. -/
theorem BkRow.push {base : Nat} {col col' : Nat → Nat} {w w' : World} {p r : Nat} {t : TypeId} {sz : Nat} {f : Nat → Nat → Nat → Value} {c : Nat} {v' u : Value} {vals : List Value} {m : Nat} (hown : w'.ownsRow base t 1 v' (vals.length + 1) (vals ++ [u])) (hcell : w'.cell? ⟨p, r, none⟩ = some v')
    (hv' : ∀ g, v'.ownBlock = some g → col' g = r) (hle : vals.length ≤ c) (h6 : ∀ i (h : i < vals.length), ∃ m, Sl w vals[i] m sz (f i)) (h7 : ∀ x ∈ vals, ∀ g, x.ownBlock = some g → g < w.heap.size ∧ col g = 8)
    (hblk : ∀ b, b < w.heap.size → col b = 8 → w'.heap[b]? = w.heap[b]?) (hcol : ∀ b, b < w.heap.size → col b = 8 → col' b = col b) (hsz : w.heap.size ≤ w'.heap.size) (hu : Sl w' u m sz (f vals.length)) (hug : ∀ g, u.ownBlock = some g → g < w'.heap.size ∧ col' g = 8) {md : Nat} (hmd : (vals.length + 1) % md = 0) : BkRow base col' w' p r t sz md f (c + 1) := by
  refine ⟨v', vals ++ [u], hcell, by rw [List.length_append]; exact hown, hv', by simp; omega, by simpa using hmd, fun i hi => ?_, fun x hx g hg => ?_⟩
  · rcases Nat.lt_or_ge i vals.length with h1 | h1
    · obtain ⟨m', hm⟩ := h6 i h1
      refine ⟨m', ?_⟩
      rw [List.getElem_append_left h1]
      exact hm.frame fun g hg => hblk g (h7 _ (List.getElem_mem h1) g hg).1 (h7 _ (List.getElem_mem h1) g hg).2
    · have : i = vals.length := by simp at hi; omega
      subst this
      refine ⟨m, ?_⟩
      simpa using hu
  · rcases List.mem_append.1 hx with h1 | h1
    · obtain ⟨q1, q2⟩ := h7 x h1 g hg
      exact ⟨Nat.lt_of_lt_of_le q1 hsz, (hcol g q1 q2).trans q2⟩
    · have : x = u := by simpa using h1
      subst this
      exact hug g hg

/-- The book behind an append to row r. -/
theorem BkM.push {md md' : Nat → Nat} {base : Nat} {col col' : Nat → Nat} {w w1 : World} {p : Nat} {v0 : Value} {c m : Nat} {v u : Value} {vals : List Value} {g gcap : Nat} (r : Nat) (hr1 : 1 ≤ r) (hr7 : r ≤ 7) (hb : BkM md base col w p v0 c) (hle : vals.length ≤ c)
    (h6 : ∀ i (h : i < vals.length), ∃ m, Sl w vals[i] m (rowSz r) (rowF r i)) (h7 : ∀ x ∈ vals, ∀ g, x.ownBlock = some g → g < w.heap.size ∧ col g = 8)
    (hown : w1.ownsRow base (rowT r) 1 (.slice (some ⟨g, 0, none⟩) (vals.length + 1) gcap) (vals.length + 1) (vals ++ [u])) (hblk : ∀ b, b < w.heap.size → v.ownBlock ≠ some b → col b ≤ 8 → w1.heap[b]? = w.heap[b]?) (hsz : w.heap.size ≤ w1.heap.size)
    (hv4 : ∀ b, v.ownBlock = some b → col b = r) (hcol : ∀ b, b < w.heap.size → col b ≤ 8 → col' b = col b) (hlow : ∀ b, b < base → 90 ≤ col' b) (hg : col' g = r) (hgp : g ≠ p)
    (hu : Sl w1 u m (rowSz r) (rowF r vals.length)) (hug : ∀ b, u.ownBlock = some b → b < w1.heap.size ∧ col' b = 8 ∧ b ≠ p) (hmd : (vals.length + 1) % md' r = 0) (hmo : ∀ s, s ≠ r → md' s = md s) :
    BkM md' base col' (w1.setCell ⟨p, r, none⟩ (.slice (some ⟨g, 0, none⟩) (vals.length + 1) gcap)) p v0 (c + 1) := by
  obtain ⟨cs, hp, hl⟩ := hb.blk
  have hpl := lt_of_blk hp
  have hpv : v.ownBlock ≠ some p := fun e => by have := hv4 p e; rw [hb.colp] at this; omega
  have hp1 : w1.heap[p]? = some (.cells cs.toArray 35 (0, 0)) := (hblk p hpl hpv (by rw [hb.colp]; omega)).trans hp
  have hset : ∀ k, k ≠ p → (w1.setCell ⟨p, r, none⟩ (.slice (some ⟨g, 0, none⟩) (vals.length + 1) gcap)).heap[k]? = w1.heap[k]? := fun k hk => heap_setCell_other _ _ _ _ hk
  have hp2 := blk_set hp1 r (.slice (some ⟨g, 0, none⟩) (vals.length + 1) gcap)
  have hcp : ∀ s, s ≠ r → (w1.setCell ⟨p, r, none⟩ (.slice (some ⟨g, 0, none⟩) (vals.length + 1) gcap)).cell? ⟨p, s, none⟩ = w.cell? ⟨p, s, none⟩ := fun s hs => by
    have e1 : w1.cell? ⟨p, s, none⟩ = w.cell? ⟨p, s, none⟩ := World.cell?_of_block (w := w) (hp1.trans hp.symm)
    rw [← e1]
    simp only [World.cell?, hp1, hp2]
    simp [List.getElem?_set_ne (Ne.symm hs)]
  have hb' : ∀ b, b < w.heap.size → col b ≠ 0 → col b ≠ r → col b ≤ 8 → (w1.setCell ⟨p, r, none⟩ (.slice (some ⟨g, 0, none⟩) (vals.length + 1) gcap)).heap[b]? = w.heap[b]? := fun b hb1 h0 h4 h8 => by
    rw [hset b (fun e => h0 (by rw [e]; exact hb.colp)), hblk b hb1 (fun e => h4 (hv4 b e)) h8]
  have hs2 : w.heap.size ≤ (w1.setCell ⟨p, r, none⟩ (.slice (some ⟨g, 0, none⟩) (vals.length + 1) gcap)).heap.size := by simpa using hsz
  have c4 : (w1.setCell ⟨p, r, none⟩ (.slice (some ⟨g, 0, none⟩) (vals.length + 1) gcap)).cell? ⟨p, r, none⟩ = some (.slice (some ⟨g, 0, none⟩) (vals.length + 1) gcap) := by
    refine row_cell hp2 ?_
    rw [List.getElem?_set_self (by omega)]
  refine ⟨⟨_, hp2, by simp [hl]⟩, (hcol p hpl (by rw [hb.colp]; omega)).trans hb.colp, hb.ge, (hcp 0 (by omega)).trans hb.c0, fun s hs1 hs7 => ?_, hlow⟩
  by_cases e : s = r
  · subst e
    refine BkRow.push (own_of_blockB hown fun k hk => hset k ?_) c4 ?_ hle h6 h7 (fun b hb1 h8 => hb' b hb1 (by omega) (by omega) (by omega)) (fun b hb1 h8 => hcol b hb1 (by omega)) hs2 (hu.frame fun k hk => hset k (hug k hk).2.2) (fun k hk => ⟨by simpa using (hug k hk).1, (hug k hk).2.1⟩) hmd
    · have : g = k := by simpa [Value.ownBlock] using hk
      rw [← this]; exact hgp
    · intro k hk
      have : g = k := by simpa [Value.ownBlock] using hk
      rw [← this]; exact hg
  · rw [hmo s e]
    exact (hb.rows s hs1 hs7).frame (hcp s e) (fun b hb1 hx => hb' b hb1 (by omega) (by omega) (by omega)) (fun b hb1 hx => hcol b hb1 (by omega)) hs2 (by omega)

end Go.Proofs.YthfdgdfnflilfaaGreatDoor
/- append([]T(nil), xs...): a new row. -/
namespace Go.Proofs.YthfdgdfnflilfaaGreatDoor
open Go.RowKit Go.Conc

section
variable {P : Program} {w : World}

theorem run_append_fresh (t ty e : TypeId) (i : TypeInfo) (z : Value) (size bytes : Nat) (ht : P.underlying t = some (.slice e)) (hi : P.info? e = some i) (hz : i.zero = some z)
    (hsize : i.size = size) (hby : i.bytes = bytes) (hzs : z.cells.size = size) (hsz : 0 < size)
    (a : Option Addr) (m c : Nat) (news : List Value) (hl : news.length = m * size) (hnews : 0 < m → ∃ ad : Addr, a = some ad ∧ ∀ j u, news[j]? = some u → w.cell? (ad.add j) = some u) (h1 : ∀ u ∈ news, u.oneCell' = true)
    (h63 : m ≤ maxLen) (hbytes : m * bytes ≤ 140737488355328) :
    ∃ a' c' w', (Builtin.append_ #[t, t] ty #[.slice none 0 0, .slice a m c]).run P w = .ok (.slice a' m c') w' ∧
      w'.ownsRow w.heap.size e size (.slice a' m c') m news ∧ Below w.heap.size w w' := by
  rcases Nat.eq_zero_or_pos m with h0 | h0
  · subst h0
    have hn : news = [] := List.eq_nil_of_length_eq_zero (by simpa using hl)
    subst hn
    refine ⟨none, 0, w, ?_, ⟨by simp, Or.inl ⟨rfl, rfl⟩⟩, Below.refl _ _⟩
    refine run_append_nothing w t t ty e i ht hi none 0 0 (Nat.le_refl _) _ ?_
    cases a with
    | none => exact Src.ofNil w ht c
    | some ad => exact Src.ofSlice w ht ad 0 c [] (by simp) (by simp) (by simp)
  · obtain ⟨ad, rfl, hc⟩ := hnews h0
    obtain ⟨g, cap, w', hr, ho, hg, hgH, hlt⟩ := run_append_lies (P := P) w t ty w.heap.size e i z size bytes ht hi hz hsize hby hzs hsz (.slice none 0 0) 0 [] ⟨by simp, Or.inl ⟨rfl, rfl⟩⟩ ad m c news hl hc h1 h0 (by omega) (by simpa using hbytes) (Nat.le_refl _) w.heap.size rfl
    rw [Nat.zero_add] at hr ho
    refine ⟨_, _, w', hr, by simpa using ho, ?_⟩
    exact ⟨hg.os, hg.tape, hg.output, hg.size, fun k hk => hg.block k hk (by simp [Value.ownBlock])⟩

theorem wpList_append_fresh {ops : Array Oper} {rest : List Oper} {o : Oper} {b : Act} {Q : Exit → Act → World → Prop} (hgd : o.guard = none) (s x : Operand) (t : TypeId)
    (ho : o.op = .call { callee := .builtin .append, args := #[s, x], argTypes := #[t, t] })
    (e : TypeId) (i : TypeInfo) (z : Value) (size bytes : Nat) (ht : P.underlying t = some (.slice e)) (hi : P.info? e = some i) (hz : i.zero = some z)
    (hsize : i.size = size) (hby : i.bytes = bytes) (hzs : z.cells.size = size) (hsz : 0 < size)
    (a : Option Addr) (m c : Nat) (news : List Value) (hs : b.eval s = .slice none 0 0) (hx : b.eval x = .slice a m c) (hl : news.length = m * size) (hnews : 0 < m → ∃ ad : Addr, a = some ad ∧ ∀ j u, news[j]? = some u → w.cell? (ad.add j) = some u) (h1 : ∀ u ∈ news, u.oneCell' = true)
    (h63 : m ≤ maxLen) (hbytes : m * bytes ≤ 140737488355328)
    (h : ∀ a' c' w', w'.ownsRow w.heap.size e size (.slice a' m c') m news → Below w.heap.size w w' → wpList P ops Q rest (b.put o.dst (.slice a' m c')) w') : wpList P ops Q (o :: rest) b w := by
  refine wpList_plain hgd fun _ hK => ?_
  obtain ⟨a', c', w', hr, h2, h3⟩ := run_append_fresh (P := P) (w := w) t o.type e i z size bytes ht hi hz hsize hby hzs hsz a m c news hl hnews h1 h63 hbytes
  unfold Oper.wp execOp
  simp only [ho, resolve, invoke, builtin, Sem.run_bind, Sem.run_pure, Result.andThen_ok, List.map_toArray, List.map_cons, List.map_nil, hs, hx, hr]
  exact hK _ _ (h a' c' w' h2 h3)

end

end Go.Proofs.YthfdgdfnflilfaaGreatDoor

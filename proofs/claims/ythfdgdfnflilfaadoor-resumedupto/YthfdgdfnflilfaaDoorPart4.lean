/- Part 4: Nets4, Workers1, Save2, Load1, Load2, Load3, Load4. -/
import Derived.Lib.EndianBits
import Derived.Laws.Bits64b
import Derived.Deep.RegionHeld3
import Derived.Test.YthfdgdfnflilfaaDoorPart3
/- Package nets: ends, HasReader, the whole. -/
namespace Go.Proofs.YthfdgdfnflilfaaDoor
open Go.RowKit

theorem box3 {w wr : World} {x y z : Value} {T : TypeId} (h : Below (w.heap.size + 1) (w.alloc (.cells #[x, y, z] T)) wr) :
    wr.cell? ⟨w.heap.size, 0, none⟩ = some x ∧ wr.cell? ⟨w.heap.size, 1, none⟩ = some y ∧ wr.cell? ⟨w.heap.size, 2, none⟩ = some z := by
  refine ⟨?_, ?_, ?_⟩
  all_goals
    refine (h.cell (p := ⟨w.heap.size, _, none⟩) (by simp)).trans ?_
    simp [go_sem]

theorem below_box {w wr : World} {o : Obj} (h : Below (w.heap.size + 1) (w.alloc o) wr) : Below w.heap.size w wr :=
  ((Below.refl _ _).alloc (Nat.le_refl _) o).trans (h.mono (by omega))

def validEndsB (n : Net) : Bool := (List.range n.streams.length).all fun s => decide (usersN n.workers 2 s + (if hasSourceB n.sources s then 1 else 0) ≤ 1) && decide (usersN n.workers 1 s ≤ 1)

set_option maxHeartbeats 1000000 in
theorem validEnds_calls {n : Net} {v : Value} {w : World} (h : NetAt w v n) :
    Calls Tryd.prog 42 #[v] w fun e w' => e = .returned (.bool (validEndsB n)) ∧ Below w.heap.size w w' := by
  obtain ⟨vs, vr, vw, rfl, h1, h2, h3⟩ := h
  obtain ⟨sa, sc, rfl, hsn, -, -⟩ := h1.open
  obtain ⟨ar, cr, rfl⟩ := h2.form
  obtain ⟨aw, cw, rfl, hwn, -, -⟩ := h3.open
  have HR : Hid (∀ (st : Int) wx, Below w.heap.size w wx → Calls Tryd.prog 58 #[.slice ar n.sources.length cr, .int .i64 st] wx fun e w' => e = .returned (.bool (hasSourceB n.sources st)) ∧ Below wx.heap.size wx w') :=
    fun st wx hx => hasSource_calls st (h2.below hx)
  have HW : Hid (∀ (op st : Int) wx, Below w.heap.size w wx → Calls Tryd.prog 60 #[.slice aw n.workers.length cw, .int .i64 op, .int .i64 st] wx fun e w' => e = .returned (.int .i64 (usersN n.workers op st)) ∧ Below wx.heap.size wx w') :=
    fun op st wx hx => users_calls op st (h3.below hx)
  clear h1 h2 h3
  have hle : ∀ op st, usersN n.workers op st ≤ 140737488355328 := fun op st => Nat.le_trans List.countP_le_length (by omega)
  have HL := hide hle
  clear hle
  have HV := hide (show validEndsB n = (List.range n.streams.length).all fun s => decide (usersN n.workers 2 s + (if hasSourceB n.sources s then 1 else 0) ≤ 1) && decide (usersN n.workers 1 s ≤ 1) from rfl)
  generalize n.sources.length = rl at *
  generalize n.workers.length = wl at *
  generalize n.streams.length = sl at *
  go_enter Tryd.func42, Tryd.ntmps42
  go_wp2
  go_loopw [8] (fun i wr => ∃ k : Nat, k ≤ sl ∧ i = .int .i64 k ∧ Below (w.heap.size + 1) (w.alloc (.cells #[.slice sa sl sc, .slice ar rl cr, .slice aw wl cw] 29)) wr ∧ ((List.range k).all fun s => decide (usersN n.workers 2 s + (if hasSourceB n.sources s then 1 else 0) ≤ 1) && decide (usersN n.workers 1 s ≤ 1)) = true) (fun i _ => sl - (intOf i).toNat)
  case atStart => exact ⟨0, Nat.zero_le _, rfl, Below.refl _ _, rfl⟩
  case round =>
    obtain ⟨k, hk, rfl, hbl, hno⟩ := hrel
    have HN := hide hno
    clear hno
    by_cases hlt : k < sl
    · obtain ⟨c0, c1, c2⟩ := box3 hbl
      have HS := hide (range_all_succ (fun s => decide (usersN n.workers 2 s + (if hasSourceB n.sources s then 1 else 0) ≤ 1) && decide (usersN n.workers 1 s ≤ 1)) k)
      have HH := hide (range_all_false (fun s => decide (usersN n.workers 2 s + (if hasSourceB n.sources s then 1 else 0) ≤ 1) && decide (usersN n.workers 1 s ≤ 1)) sl k hlt)
      have hsz : w.heap.size + 1 ≤ wr.heap.size := by have := hbl.size; simpa using this
      go_wp2_with fail
      refine (unhide HW 2 k wr (below_box hbl)).mono ?_
      rintro e w1 ⟨rfl, hb1⟩
      have hbl1 := hbl.trans (hb1.mono hsz)
      obtain ⟨c0, c1, c2⟩ := box3 hbl1
      have hsz1 : w.heap.size + 1 ≤ w1.heap.size := by have := hbl1.size; simpa using this
      clear hb1
      have l2 := unhide HL 2 k
      generalize e2 : usersN n.workers 2 k = u2 at *
      go_wp2_with fail
      refine (unhide HR k w1 (below_box hbl1)).mono ?_
      rintro e w2 ⟨rfl, hb2⟩
      have hbl2 := hbl1.trans (hb2.mono hsz1)
      obtain ⟨c0, c1, c2⟩ := box3 hbl2
      have hsz2 : w.heap.size + 1 ≤ w2.heap.size := by have := hbl2.size; simpa using this
      clear hb2
      cases hy : hasSourceB n.sources k
      all_goals
        rw [hy] at HH HS
        simp only [Bool.false_eq_true, if_true, if_false] at HH HS
      · by_cases g1 : 1 < u2
        · have F := hide (HH.out (by simp; omega))
          clear e2
          go_wp2
          go_ret
          exact ⟨ret_bool (by rw [HV.out, F.out]), below_box hbl2⟩
        have g1' : decide (1 < (u2 : Int)) = false := by simp; omega
        have E2 := hide e2
        clear e2
        go_wp2_with fail
        refine (unhide HW 1 k w2 (below_box hbl2)).mono ?_
        rintro e w3 ⟨rfl, hb3⟩
        have hbl3 := hbl2.trans (hb3.mono hsz2)
        clear hb3
        have l1 := unhide HL 1 k
        generalize e1 : usersN n.workers 1 k = u1 at *
        have E1 := hide e1
        clear e1
        by_cases g2 : 1 < u1
        · have F := hide (HH.out (by have : ¬ u1 ≤ 1 := by omega
                                     simp [this]))
          go_wp2
          go_ret
          exact ⟨ret_bool (by rw [HV.out, F.out]), below_box hbl3⟩
        go_wp2
        go_roundw
        case rel => exact ⟨k + 1, by omega, by go_num, hbl3, by rw [HS.out, HN.out]; simp; omega⟩
        case measure => simp [intOf]; omega
      · by_cases g1 : 1 < u2 + 1
        · have F := hide (HH.out (by have : ¬ u2 + 1 ≤ 1 := by omega
                                     simp [this]))
          clear e2
          go_wp2
          go_ret
          exact ⟨ret_bool (by rw [HV.out, F.out]), below_box hbl2⟩
        have g1' : decide (1 < (u2 : Int) + 1) = false := by simp; omega
        have E2 := hide e2
        clear e2
        go_wp2_with fail
        refine (unhide HW 1 k w2 (below_box hbl2)).mono ?_
        rintro e w3 ⟨rfl, hb3⟩
        have hbl3 := hbl2.trans (hb3.mono hsz2)
        clear hb3
        have l1 := unhide HL 1 k
        generalize e1 : usersN n.workers 1 k = u1 at *
        have E1 := hide e1
        clear e1
        by_cases g2 : 1 < u1
        · have F := hide (HH.out (by have : ¬ u1 ≤ 1 := by omega
                                     simp [this]))
          go_wp2
          go_ret
          exact ⟨ret_bool (by rw [HV.out, F.out]), below_box hbl3⟩
        go_wp2
        go_roundw
        case rel => exact ⟨k + 1, by omega, by go_num, hbl3, by rw [HS.out, HN.out]; simp; omega⟩
        case measure => simp [intOf]; omega
    · go_wp2
      go_ret
      exact ⟨ret_bool (by have hkk : k = sl := by omega
                          subst hkk
                          rw [HV.out, HN.out]), below_box hbl⟩

set_option maxHeartbeats 400000 in
theorem hasReader_calls {n : Net} {v : Value} {w : World} (st : Int) (h : NetAt w v n) :
    Calls Tryd.prog 43 #[v, .int .i64 st] w fun e w' => e = .returned (.bool (decide (0 < usersN n.workers 1 st))) ∧ Below w.heap.size w w' := by
  obtain ⟨vs, vr, vw, rfl, h1, h2, h3⟩ := h
  obtain ⟨sa, sc, rfl⟩ := h1.form
  obtain ⟨ar, cr, rfl⟩ := h2.form
  obtain ⟨aw, cw, rfl⟩ := h3.form
  have HW : Hid (∀ wx, Below w.heap.size w wx → Calls Tryd.prog 60 #[.slice aw n.workers.length cw, .int .i64 1, .int .i64 st] wx fun e w' => e = .returned (.int .i64 (usersN n.workers 1 st)) ∧ Below wx.heap.size wx w') :=
    fun wx hx => users_calls 1 st (h3.below hx)
  clear h1 h2 h3
  go_enter Tryd.func43, Tryd.ntmps43
  go_wp2_with fail
  refine (unhide HW _ ((Below.refl _ _).alloc (Nat.le_refl _) _)).mono ?_
  rintro e w1 ⟨rfl, hb1⟩
  have hbl1 := ((Below.refl w.heap.size w).alloc (Nat.le_refl _) (.cells #[.slice sa n.streams.length sc, .slice ar n.sources.length cr, .slice aw n.workers.length cw] 29)).trans (hb1.mono (by simp))
  clear hb1
  generalize hu : usersN n.workers 1 st = u1 at *
  have HU := hide hu
  clear hu
  go_wp2
  go_ret
  exact ⟨ret_bool (by rw [HU.out]), hbl1⟩

def validB (n : Net) : Bool := validStreamsB n.streams && validSourcesB n.sources n.streams.length && validWorkersB n.workers n.streams.length && validEndsB n

set_option maxHeartbeats 1000000 in
theorem valid_calls {n : Net} {v : Value} {w : World} (h : NetAt w v n) :
    Calls Tryd.prog 22 #[v] w fun e w' => e = .returned (.bool (validB n)) ∧ Below w.heap.size w w' := by
  have HE : Hid (∀ wx, Below w.heap.size w wx → Calls Tryd.prog 42 #[v] wx fun e w' => e = .returned (.bool (validEndsB n)) ∧ Below wx.heap.size wx w') :=
    fun wx hx => validEnds_calls (h.below hx)
  obtain ⟨vs, vr, vw, rfl, h1, h2, h3⟩ := h
  obtain ⟨sa, sc, rfl⟩ := h1.form
  obtain ⟨ar, cr, rfl⟩ := h2.form
  obtain ⟨aw, cw, rfl⟩ := h3.form
  have HS : Hid (∀ wx, Below w.heap.size w wx → Calls Tryd.prog 39 #[.slice sa n.streams.length sc] wx fun e w' => e = .returned (.bool (validStreamsB n.streams)) ∧ w' = wx) :=
    fun wx hx => validStreams_calls (h1.below hx)
  have HR : Hid (∀ wx, Below w.heap.size w wx → Calls Tryd.prog 40 #[.slice ar n.sources.length cr, .int .i64 n.streams.length] wx fun e w' => e = .returned (.bool (validSourcesB n.sources n.streams.length)) ∧ Below wx.heap.size wx w') :=
    fun wx hx => validSources_calls _ (h2.below hx)
  have HW : Hid (∀ wx, Below w.heap.size w wx → Calls Tryd.prog 41 #[.slice aw n.workers.length cw, .int .i64 n.streams.length] wx fun e w' => e = .returned (.bool (validWorkersB n.workers n.streams.length)) ∧ Below wx.heap.size wx w') :=
    fun wx hx => validWorkers_calls _ (h3.below hx)
  clear h1 h2 h3
  have HV : Hid (validB n = (validStreamsB n.streams && validSourcesB n.sources n.streams.length && validWorkersB n.workers n.streams.length && validEndsB n)) := rfl
  generalize validStreamsB n.streams = y1 at *
  generalize validSourcesB n.sources n.streams.length = y2 at *
  generalize validWorkersB n.workers n.streams.length = y3 at *
  generalize validEndsB n = y4 at *
  generalize n.sources.length = rl at *
  generalize n.workers.length = wl at *
  generalize n.streams.length = sl at *
  go_enter Tryd.func22, Tryd.ntmps22
  have hbl0 : Below (w.heap.size + 1) (w.alloc (.cells #[.slice sa sl sc, .slice ar rl cr, .slice aw wl cw] 29)) (w.alloc (.cells #[.slice sa sl sc, .slice ar rl cr, .slice aw wl cw] 29)) := Below.refl _ _
  go_wp2_with fail
  refine (unhide HS _ (below_box hbl0)).mono ?_
  rintro e w1 ⟨rfl, rfl⟩
  cases y1
  · go_wp2
    go_ret
    exact ⟨ret_bool (by rw [HV.out]; rfl), below_box hbl0⟩
  go_wp2_with fail
  refine (unhide HR _ (below_box hbl0)).mono ?_
  rintro e w2 ⟨rfl, hb2⟩
  have hbl2 := hbl0.trans (hb2.mono (by simp))
  have hsz2 : w.heap.size + 1 ≤ w2.heap.size := by have := hbl2.size; simpa using this
  obtain ⟨c0, c1, c2⟩ := box3 hbl2
  clear hb2
  cases y2
  · go_wp2
    go_ret
    exact ⟨ret_bool (by rw [HV.out]; rfl), below_box hbl2⟩
  go_wp2_with fail
  refine (unhide HW _ (below_box hbl2)).mono ?_
  rintro e w3 ⟨rfl, hb3⟩
  have hbl3 := hbl2.trans (hb3.mono hsz2)
  have hsz3 : w.heap.size + 1 ≤ w3.heap.size := by have := hbl3.size; simpa using this
  obtain ⟨c0, c1, c2⟩ := box3 hbl3
  clear hb3
  cases y3
  · go_wp2
    go_ret
    exact ⟨ret_bool (by rw [HV.out]; rfl), below_box hbl3⟩
  go_wp2_with fail
  refine (unhide HE _ (below_box hbl3)).mono ?_
  rintro e w4 ⟨rfl, hb4⟩
  have hbl4 := hbl3.trans (hb4.mono hsz3)
  clear hb4
  go_wp2
  go_ret
  exact ⟨ret_bool (by rw [HV.out]; rfl), below_box hbl4⟩

end Go.Proofs.YthfdgdfnflilfaaDoor
/- Package workers: what a worker is in memory; reckoned. -/
namespace Go.Proofs.YthfdgdfnflilfaaDoor
open Go.RowKit Go.Conc

set_option maxHeartbeats 1000000 in
theorem reckoned_calls (op b c : Int) (w : World) (ho : op = 4 ∨ op = 5 ∨ op = 6 ∨ op = 7) :
    Calls Tryd.prog 51 #[.int .i64 op, .int .i64 b, .int .i64 c] w fun e w' => e = .returned (.int .i64 (alu op b c)) ∧ w' = w := by
  rcases ho with rfl | rfl | rfl | rfl
  · go_enter Tryd.func51, Tryd.ntmps51
    go_wp2
    go_ret
    exact ⟨ret_int (by simp [alu]), rfl⟩
  · go_enter Tryd.func51, Tryd.ntmps51
    go_wp2
    go_ret
    exact ⟨ret_int (by simp [alu]), rfl⟩
  · go_enter Tryd.func51, Tryd.ntmps51
    go_wp2
    go_ret
    exact ⟨ret_int (by simp [alu]), rfl⟩
  · by_cases h : b < c
    · go_enter Tryd.func51, Tryd.ntmps51
      go_wp2
      go_ret
      exact ⟨ret_int (by simp [alu, h]), rfl⟩
    · have h' : decide (b < c) = false := by simpa using h
      go_enter Tryd.func51, Tryd.ntmps51
      go_wp2
      go_ret
      exact ⟨ret_int (by have : ¬ b < c := by omega
                         simp [alu, this]), rfl⟩

/-- The cells of a program. -/
def codeRow (l : List Ins) : List Value := l.flatMap fun i => [.int .i64 i.op, .int .i64 i.a, .int .i64 i.b, .int .i64 i.c]

/-- A worker in memory: its struct at block b, its own copy of its program vc. -/
structure WkAt (w : World) (b : Nat) (vc : Value) (code : List Ins) (x : Wk) : Prop where
  blk : w.heap[b]? = some (.cells #[vc, .int .i64 x.place, .int .i64 (x.r 0), .int .i64 (x.r 1), .int .i64 (x.r 2), .int .i64 (x.r 3), .int .i64 x.steps] 90 (0, 0))
  own : w.ownsRow 0 31 4 vc code.length (codeRow code)
  le : x.place ≤ code.length
  small : code.length ≤ 20

theorem codeRow_length (l : List Ins) : (codeRow l).length = l.length * 4 := by
  induction l with
  | nil => rfl
  | cons i l ih => simp only [codeRow, List.flatMap_cons, List.length_append, List.length_cons, List.length_nil] at ih ⊢; omega

theorem codeRow_get : ∀ (l : List Ins) (k : Nat) (hk : k < l.length) (j : Nat), j < 4 → (codeRow l)[k * 4 + j]? = some (l[k].cell j)
  | i :: l, 0, _, j, hj => by
    rcases (show j = 0 ∨ j = 1 ∨ j = 2 ∨ j = 3 by omega) with rfl | rfl | rfl | rfl <;> rfl
  | i :: l, k + 1, hk, j, hj => by
    have ih := codeRow_get l k (by simpa using hk) j hj
    have e : codeRow (i :: l) = [.int .i64 i.op, .int .i64 i.a, .int .i64 i.b, .int .i64 i.c] ++ codeRow l := rfl
    rw [e, List.getElem?_append_right (by simp; omega)]
    simp only [List.length_cons, List.length_nil, List.getElem_cons_succ]
    rw [show (k + 1) * 4 + j - (0 + 1 + 1 + 1 + 1) = k * 4 + j by omega]
    exact ih

theorem code_form {w : World} {vc : Value} {l : List Ins} (h : w.ownsRow 0 31 4 vc l.length (codeRow l)) : ∃ a cap, vc = .slice a l.length cap ∧ l.length ≤ cap ∧ (∀ i (hi : i < l.length), ∃ g, a = some ⟨g, 0, none⟩ ∧
    w.cell? ⟨g, i * 4, none⟩ = some (.int .i64 l[i].op) ∧ w.cell? ⟨g, i * 4 + 1, none⟩ = some (.int .i64 l[i].a) ∧ w.cell? ⟨g, i * 4 + 2, none⟩ = some (.int .i64 l[i].b) ∧ w.cell? ⟨g, i * 4 + 3, none⟩ = some (.int .i64 l[i].c)) := by
  obtain ⟨h1, h2⟩ := h
  rcases h2 with ⟨h3, h4⟩ | ⟨g, cap, cur, hv, hg, hh, hn, hm, hs, ht⟩
  · exact ⟨none, 0, by rw [h3, h4], by omega, fun i hi => by omega⟩
  · refine ⟨some ⟨g, 0, none⟩, cap, hv, hn, fun i hi => ⟨g, rfl, ?_⟩⟩
    have cell : ∀ j, j < 4 → w.cell? ⟨g, i * 4 + j, none⟩ = some (l[i].cell j) := by
      intro j hj
      have e := codeRow_get l i hi j hj
      rw [← ht, List.getElem?_take_of_lt (by omega)] at e
      simp [World.cell?, hh]
      simpa using e
    exact ⟨cell 0 (by decide), cell 1 (by decide), cell 2 (by decide), cell 3 (by decide)⟩

theorem WkAt.cells {w : World} {b : Nat} {vc : Value} {code : List Ins} {x : Wk} (h : WkAt w b vc code x) :
    w.cell? ⟨b, 0, none⟩ = some vc ∧ w.cell? ⟨b, 1, none⟩ = some (.int .i64 x.place) ∧ w.cell? ⟨b, 2, none⟩ = some (.int .i64 (x.r 0)) ∧ w.cell? ⟨b, 3, none⟩ = some (.int .i64 (x.r 1)) ∧ w.cell? ⟨b, 4, none⟩ = some (.int .i64 (x.r 2)) ∧ w.cell? ⟨b, 5, none⟩ = some (.int .i64 (x.r 3)) ∧ w.cell? ⟨b, 6, none⟩ = some (.int .i64 x.steps) ∧
      (∀ i, w.frozen? ⟨b, i, none⟩ = false) :=
  ⟨row_cell h.blk rfl, row_cell h.blk rfl, row_cell h.blk rfl, row_cell h.blk rfl, row_cell h.blk rfl, row_cell h.blk rfl, row_cell h.blk rfl, fun i => row_frozen h.blk i⟩

theorem WkAt.stays {w w' : World} {b : Nat} {vc : Value} {code : List Ins} {x : Wk} (h : WkAt w b vc code x) (hk : ∀ y, y = b ∨ vc.ownBlock = some y → w'.heap[y]? = w.heap[y]?) : WkAt w' b vc code x :=
  ⟨by rw [hk b (Or.inl rfl)]; exact h.blk, own_of_block h.own fun g hg => hk g (Or.inr hg), h.le, h.small⟩

theorem WkAt.ne_own {w : World} {b : Nat} {vc : Value} {code : List Ins} {x : Wk} (h : WkAt w b vc code x) {g : Nat} (hg : vc.ownBlock = some g) : g ≠ b := by
  obtain ⟨cur, hc⟩ := own_block h.own hg
  exact ne_of_types hc h.blk (by decide)

/-- The streams that a worker goes along: a slice of pointers. -/
structure Along (w : World) (v : Value) (st : Nat → Nat) (n : Nat) : Prop where
  form : ∃ g cap, v = .slice (some ⟨g, 0, none⟩) n cap ∧ ∃ cs : List Value, w.heap[g]? = some (.cells cs.toArray 67 (0, 0)) ∧ ∀ i, i < n → cs[i]? = some (.pointer (some ⟨st i, 0, none⟩))
  small : n ≤ 8

end Go.Proofs.YthfdgdfnflilfaaDoor
/- Workers and streams behind a state. -/
namespace Go.Proofs.YthfdgdfnflilfaaDoor
open Go.RowKit Go.Conc

/-- The numbers of a worker, of a stream. -/
def wkNums (x : Wk) : List Int := [(x.place : Int), x.r 0, x.r 1, x.r 2, x.r 3, x.steps]
def stNums (sourced : Bool) (m : Sm) : List Int := if sourced then [(m.read : Int)] else [(m.room : Int), (m.read : Int), (m.words.length : Int)] ++ m.words

theorem SvAt.below {B : Nat} {w w' : World} {v : Value} {s : List Int} (h : SvAt B w v s) (hb : Below w.heap.size w w') : SvAt B w' v s := own_of_blockB h fun g hg => by
  obtain ⟨cur, hc⟩ := own_blockB h hg
  exact hb.block g (lt_of_blk hc)

theorem SvAt.lt {B : Nat} {w : World} {v : Value} {s : List Int} (h : SvAt B w v s) {g : Nat} (hg : v.ownBlock = some g) : g < w.heap.size ∧ B ≤ g := by
  obtain ⟨cur, hc⟩ := own_blockB h hg
  exact ⟨lt_of_blk hc, own_baseB h hg⟩

theorem SvAt.ne {B : Nat} {w : World} {v : Value} {s : List Int} (h : SvAt B w v s) {b : Nat} {c : Array Value} {t : TypeId} {f : Nat × Nat} (hb : w.heap[b]? = some (.cells c t f)) (ht : t ≠ 5) : v.ownBlock ≠ some b := fun e => by
  obtain ⟨cur, hc⟩ := own_blockB h e
  exact ne_of_types hb hc ht rfl
theorem SvAt.ne_chan {B : Nat} {w : World} {v : Value} {s : List Int} (h : SvAt B w v s) {b cap : Nat} {buf : Array Value} {cl tm : Bool} {x y : Nat} (hb : w.heap[b]? = some (.chan cap buf cl x y tm)) : v.ownBlock ≠ some b := fun e => by
  obtain ⟨cur, hc⟩ := own_blockB h e
  exact ne_of_chan hc hb rfl

theorem Wrote.of_alloc {B : Nat} {w w' : World} {o : Obj} {v v' : Value} {s : List Int} (h : Wrote B (w.alloc o) v s v' w') : Wrote B w v s v' w' :=
  ⟨h.at', (Fr.of_below ((Below.refl _ _).alloc (Nat.le_refl _) o)).trans h.fr fun _ _ e => e, fun g hg => by
    rcases h.own g hg with h1 | h1
    · exact Or.inl h1
    · exact Or.inr (by simp at h1; omega)⟩

theorem Wrote.of_draw {B : Nat} {w w' : World} {q : Nat} {v v' : Value} {s : List Int} (h : Wrote B (w.drewN q) v s v' w') : Wrote B w v s v' w' :=
  ⟨h.at', ⟨h.fr.os, h.fr.tape, h.fr.output, h.fr.size, h.fr.block⟩, h.own⟩

/-- A row of numbers that was made just now. -/
theorem ints_new {w : World} {l : List Int} (hl : l.length ≤ 1000) : IntsAt (w.alloc (.cells (intRow l).toArray 3)) (.slice (some ⟨w.heap.size, 0, none⟩) l.length l.length) l := by
  refine ⟨_, _, rfl, by omega, Nat.le_refl _, Or.inr ⟨w.heap.size, 0, rfl, fun i hi j hj => ?_⟩⟩
  have hj0 : j = 0 := by omega
  subst hj0
  have := row_cell (i := i) (v := .int .i64 (l.getD i 0)) (heap_alloc_new w (.cells (intRow l).toArray 3)) (by rw [intRow_get _ _ hi, getD_eq _ _ _ hi])
  simpa using this

/-- Append of numbers in a row of their own. -/
theorem append_new {B : Nat} {w : World} {v : Value} {s : List Int} (l : List Int) (hl : l.length ≤ 1000) (hB : B ≤ w.heap.size) (hs : SvAt B w v s) (hlen : s.length ≤ 549755813888) :
    Calls Tryd.prog 52 #[v, .slice (some ⟨w.heap.size, 0, none⟩) l.length l.length] (w.alloc (.cells (intRow l).toArray 3)) fun e w' => ∃ v', e = .returned v' ∧ Wrote B w v (s ++ bytesOf l) v' w' := by
  have hb : Below w.heap.size w (w.alloc (.cells (intRow l).toArray 3)) := (Below.refl _ _).alloc (Nat.le_refl _) _
  refine (append_calls (by simp; omega) (hs.below hb) (ints_new hl) (fun g hg e => ?_) (by omega)).mono fun e w' ⟨v', h1, h2⟩ => ⟨v', h1, h2.of_alloc⟩
  have := (hs.lt hg).1
  have : w.heap.size = g := by simpa [Value.ownBlock] using e
  omega

set_option maxRecDepth 100000 in
set_option maxHeartbeats 2000000 in
theorem wsave_calls {w : World} {b : Nat} {vc : Value} {code : List Ins} {x : Wk} (hw : WkAt w b vc code x) {B : Nat} {v : Value} {s : List Int} (hB : B ≤ w.heap.size) (hs : SvAt B w v s) (hlen : s.length ≤ 274877906944) :
    Calls Tryd.prog 31 #[.pointer (some ⟨b, 0, none⟩), v] w fun e w' => ∃ v', e = .returned v' ∧ Wrote B w v (s ++ bytesOf (wkNums x)) v' w' := by
  obtain ⟨-, c1, -⟩ := hw.cells
  have HA1 : Hid (Calls Tryd.prog 52 #[v, .slice (some ⟨w.heap.size, 0, none⟩) 1 1] (w.alloc (.cells #[.int .i64 x.place] 3)) fun e w' => ∃ v', e = .returned v' ∧ Wrote B w v (s ++ bytesOf [(x.place : Int)]) v' w') := append_new [(x.place : Int)] (by simp) hB hs (by omega)
  have HA2 : Hid (∀ v1 w1, Wrote B w v (s ++ bytesOf [(x.place : Int)]) v1 w1 → Calls Tryd.prog 52 #[v1, .slice (some ⟨b, 2, none⟩) 4 4] w1 fun e w' => ∃ v', e = .returned v' ∧ Wrote B w v (s ++ bytesOf [(x.place : Int)] ++ bytesOf [x.r 0, x.r 1, x.r 2, x.r 3]) v' w') := fun v1 w1 h1 => by
    have hw1 : WkAt w1 b vc code x := hw.stays fun y hy => by
      have hyb : ∃ c t f, w.heap[y]? = some (.cells c t f) ∧ t ≠ 5 := by
        rcases hy with rfl | hy
        · exact ⟨_, _, _, hw.blk, by decide⟩
        · obtain ⟨cur, hc⟩ := own_block hw.own hy; exact ⟨_, _, _, hc, by decide⟩
      obtain ⟨c, t, f, hc, ht⟩ := hyb
      exact h1.fr.block y (lt_of_blk hc) (hs.ne hc ht)
    obtain ⟨-, -, d2, d3, d4, d5, -⟩ := hw1.cells
    have hi : IntsAt w1 (.slice (some ⟨b, 2, none⟩) 4 4) [x.r 0, x.r 1, x.r 2, x.r 3] := by
      refine ⟨_, _, rfl, by simp, by simp, Or.inr ⟨b, 2, rfl, fun i hi j hj => ?_⟩⟩
      have hi' : i < 4 := hi
      have hc : (i = 0 ∨ i = 1 ∨ i = 2 ∨ i = 3) ∧ j = 0 := by omega
      obtain ⟨rfl | rfl | rfl | rfl, rfl⟩ := hc
      · exact d2
      · exact d3
      · exact d4
      · exact d5
    refine (append_calls (Nat.le_trans hB h1.fr.size) h1.at' hi (fun g hg e => ?_) (by simp [bytesOf_length]; omega)).mono fun e w' ⟨v', q1, q2⟩ => ⟨v', q1, h1.trans q2⟩
    have : b = g := by simpa [Value.ownBlock] using e
    subst this
    exact h1.at'.ne hw1.blk (by decide) hg
  have HA3 : Hid (∀ v1 w1, Wrote B w v (s ++ bytesOf [(x.place : Int)] ++ bytesOf [x.r 0, x.r 1, x.r 2, x.r 3]) v1 w1 → w1.cell? ⟨b, 6, none⟩ = some (.int .i64 x.steps) ∧ Calls Tryd.prog 52 #[v1, .slice (some ⟨w1.heap.size, 0, none⟩) 1 1] (w1.alloc (.cells #[.int .i64 x.steps] 3)) fun e w' => ∃ v', e = .returned v' ∧ Wrote B w v (s ++ bytesOf (wkNums x)) v' w') := fun v1 w1 h1 => by
    have e6 : w1.cell? ⟨b, 6, none⟩ = some (.int .i64 x.steps) := by
      rw [← hw.cells.2.2.2.2.2.2.1]
      exact World.cell?_of_block (w := w) (h1.fr.block b (lt_of_blk hw.blk) (hs.ne hw.blk (by decide)))
    refine ⟨e6, (append_new [x.steps] (by simp) (Nat.le_trans hB h1.fr.size) h1.at' (by simp [bytesOf_length]; omega)).mono fun e w' ⟨v', q1, q2⟩ => ⟨v', q1, ?_⟩⟩
    have e : s ++ bytesOf [(x.place : Int)] ++ bytesOf [x.r 0, x.r 1, x.r 2, x.r 3] ++ bytesOf [x.steps] = s ++ bytesOf (wkNums x) := by simp [bytesOf, wkNums]
    rw [e] at q2
    exact h1.trans q2
  clear hs hw
  go_enter Tryd.func31, Tryd.ntmps31
  go_wp2_with fail
  refine (unhide HA1).mono ?_
  rintro e w1 ⟨v1, rfl, h1⟩
  have H1 := hide (HA2.out v1 w1 h1)
  clear h1 HA1 HA2
  go_wp2_with fail
  refine (unhide H1).mono ?_
  rintro e w2 ⟨v2, rfl, h2⟩
  obtain ⟨c6, h3⟩ := HA3.out v2 w2 h2
  have H3 := hide h3
  clear h2 HA3 H1 h3
  go_wp2_with fail
  refine (unhide H3).mono ?_
  rintro e w3 ⟨v3, rfl, h4⟩
  have H4 := hide h4
  clear h4 H3
  go_wp2
  go_ret
  exact ⟨v3, rfl, H4.out⟩

end Go.Proofs.YthfdgdfnflilfaaDoor
/- Package states: a reader; Number. -/
namespace Go.Proofs.YthfdgdfnflilfaaDoor
open Go.RowKit Go.Conc

/-- Bytes that lie somewhere. -/
def BytesAt (w : World) (v : Value) (l : List Int) : Prop := Sl w v l.length 1 fun i _ => .int .u8 (l.getD i 0)

/-- A reader, and the numbers that are left; what it reads lies below B. -/
structure RdAt (B : Nat) (w : World) (rb : Nat) (l : List Int) : Prop where
  blk : ∃ v, w.heap[rb]? = some (.cells #[v] 97 (0, 0)) ∧ BytesAt w v (bytesOf l) ∧ ∀ g, v.ownBlock = some g → g < B
  ge : B ≤ rb
  small : l.length ≤ 4398046511104

theorem RdAt.keep {B : Nat} {w w' : World} {rb : Nat} {l : List Int} (h : RdAt B w rb l) (hb : Below B w w') (hr : w'.heap[rb]? = w.heap[rb]?) : RdAt B w' rb l := by
  obtain ⟨v, h1, ⟨a, cap, hv, hn, hcap, hc⟩, h3⟩ := h.blk
  refine ⟨⟨v, hr.trans h1, ⟨a, cap, hv, hn, hcap, ?_⟩, h3⟩, h.ge, h.small⟩
  rcases hc with hc | ⟨b, off, ha, hc⟩
  · exact Or.inl hc
  · refine Or.inr ⟨b, off, ha, fun i hi j hj => ?_⟩
    rw [← hc i hi j hj]
    exact hb.cell (p := ⟨b, _, none⟩) (h3 b (by rw [hv, ha]; rfl))

def Fits64 (x : Int) : Prop := -9223372036854775808 ≤ x ∧ x ≤ 9223372036854775807

theorem getD_append_left {α : Type} (a b : List α) (i : Nat) (d : α) (h : i < a.length) : (a ++ b).getD i d = a.getD i d := by simp only [List.getD, List.getElem?_append_left h]
theorem getD_append_right {α : Type} (a b : List α) (i : Nat) (d : α) : (a ++ b).getD (a.length + i) d = b.getD i d := by simp only [List.getD]; rw [List.getElem?_append_right (by omega), Nat.add_sub_cancel_left]
theorem bytesOf_cons (x : Int) (l : List Int) : bytesOf (x :: l) = eightB x ++ bytesOf l := by simp [bytesOf]
theorem eightB_getD (x : Int) (j : Nat) (h : j < 8) : (eightB x).getD j 0 = byteAt x (56 - 8 * j) := by simp [eightB, List.getD, h]

/-- What of a number has been read. -/
def accN (u : Int) (j : Nat) : Int := u / 2 ^ (64 - 8 * j)

theorem accN_step (u : Int) (j : Nat) (h : j < 8) : accN u (j + 1) = accN u j * 256 + u / 2 ^ (56 - 8 * j) % 256 := by
  have : j = 0 ∨ j = 1 ∨ j = 2 ∨ j = 3 ∨ j = 4 ∨ j = 5 ∨ j = 6 ∨ j = 7 := by omega
  rcases this with rfl | rfl | rfl | rfl | rfl | rfl | rfl | rfl <;> (simp [accN]; omega)

theorem accN_bd (u : Int) (j : Nat) (h0 : 0 ≤ u) (h1 : u < 18446744073709551616) (hj : j < 8) : 0 ≤ accN u j ∧ accN u j < 72057594037927936 := by
  have : j = 0 ∨ j = 1 ∨ j = 2 ∨ j = 3 ∨ j = 4 ∨ j = 5 ∨ j = 6 ∨ j = 7 := by omega
  rcases this with rfl | rfl | rfl | rfl | rfl | rfl | rfl | rfl <;> (simp [accN]; omega)

theorem or_low (a b : Int) (ha : 0 ≤ a) (ha1 : a < 72057594037927936) (hb : 0 ≤ b) (hb1 : b < 256) : bits .or .u64 (a * 256) b = a * 256 + b := by
  obtain ⟨x, rfl⟩ : ∃ x : Nat, a = x := ⟨a.toNat, by omega⟩
  obtain ⟨y, rfl⟩ : ∃ y : Nat, b = y := ⟨b.toNat, by omega⟩
  have e : bits .or .u64 ((x : Int) * 256) (y : Int) = bits .or .u64 (y : Int) ((x : Int) * 256) := by
    have := bits_or_u64_nat (x * 256) y (by omega) (by omega)
    have h2 := bits_or_u64_nat y (x * 256) (by omega) (by omega)
    rw [Nat.or_comm] at h2
    simp only [Int.natCast_mul, Int.cast_ofNat_Int] at this h2
    rw [this, h2]
  rw [e, u64_or8 (x := (x : Int) * 256) (y := (y : Int)) (by omega) (by omega) (by omega) (by omega) (by omega)]
  omega

theorem byteAt_bd (x : Int) (sh : Nat) : 0 ≤ byteAt x sh ∧ byteAt x sh < 256 := by unfold byteAt; omega

set_option maxRecDepth 100000 in
set_option maxHeartbeats 2000000 in
theorem number_calls {B : Nat} {w : World} {rb : Nat} {x : Int} {l : List Int} (h : RdAt B w rb (x :: l)) (hx : Fits64 x) :
    Calls Tryd.prog 65 #[.pointer (some ⟨rb, 0, none⟩)] w fun e w' => e = .returned (.int .i64 x) ∧ RdAt B w' rb l ∧ Fr (fun y => y = rb) w w' := by
  obtain ⟨v, hblk, hby, hown⟩ := h.blk
  obtain ⟨a, cap, rfl, hn, hcap, hc⟩ := hby
  have hlen : (bytesOf (x :: l)).length = 8 * l.length + 8 := by rw [bytesOf_length]; simp; omega
  rw [hlen] at hn hcap hc
  have hsm := h.small
  simp only [List.length_cons] at hsm
  rcases hc with hc | ⟨g, off, rfl, hc⟩
  · omega
  have hgB := hown g rfl
  have hge := h.ge
  have z0 := blk_cell hblk 0 _ rfl
  obtain ⟨z1, z2⟩ := z0
  have hcell : ∀ (wx : World), Below B w wx → ∀ j, j < 8 → wx.cell? ⟨g, off + j, none⟩ = some (.int .u8 (byteAt x (56 - 8 * j))) := fun wx hb j hj => by
    have := hc j (by omega) 0 (by decide)
    dsimp only at this
    rw [bytesOf_cons, getD_append_left _ _ _ _ (by rw [eightB_length]; exact hj), eightB_getD x j hj] at this
    rw [← this]
    simpa using hb.cell (p := ⟨g, off + j, none⟩) hgB
  have HC := hide hcell
  have HF : Hid (RdAt B (w.setCell ⟨rb, 0, none⟩ (.slice (some ⟨g, off + 8, none⟩) (8 * l.length) (cap - 8))) rb l ∧ Fr (fun y => y = rb) w (w.setCell ⟨rb, 0, none⟩ (.slice (some ⟨g, off + 8, none⟩) (8 * l.length) (cap - 8)))) := by
    refine ⟨⟨⟨.slice (some ⟨g, off + 8, none⟩) (8 * l.length) (cap - 8), ?_, ⟨_, _, by rw [bytesOf_length], by rw [bytesOf_length]; omega, by rw [bytesOf_length]; omega, Or.inr ⟨g, off + 8, rfl, fun i hi j hj => ?_⟩⟩, fun y hy => hown y hy⟩, hge, by omega⟩, (Fr.refl (fun y => y = rb) w).setCell (p := ⟨rb, 0, none⟩) (Or.inr rfl) _⟩
    · have := blk_set (w := w) hblk 0 (.slice (some ⟨g, off + 8, none⟩) (8 * l.length) (cap - 8))
      simpa using this
    · rw [bytesOf_length] at hi
      have hj0 : j = 0 := by omega
      subst hj0
      have := hc (8 + i) (by omega) 0 (by decide)
      dsimp only at this
      rw [bytesOf_cons, show 8 + i = (eightB x).length + i by rw [eightB_length], getD_append_right, eightB_length] at this
      have e : w.cell? ⟨g, off + 8 + i * 1 + 0, none⟩ = w.cell? ⟨g, off + (8 + i) * 1 + 0, none⟩ := by
        have : off + 8 + i * 1 + 0 = off + (8 + i) * 1 + 0 := by omega
        rw [this]
      rw [← this, ← e]
      exact World.cell?_of_block (w := w) (Below.heap_setCell _ _ _ _ (by dsimp only; omega))
  have HF2 : Hid (cap ≤ 8 → RdAt B (w.setCell ⟨rb, 0, none⟩ (.slice (some ⟨g, off, none⟩) (8 * l.length) 0)) rb l ∧ Fr (fun y => y = rb) w (w.setCell ⟨rb, 0, none⟩ (.slice (some ⟨g, off, none⟩) (8 * l.length) 0))) := fun h8 => by
    refine ⟨⟨⟨.slice (some ⟨g, off, none⟩) (8 * l.length) 0, ?_, ⟨_, _, by rw [bytesOf_length], by rw [bytesOf_length]; omega, by rw [bytesOf_length]; omega, Or.inl (by rw [bytesOf_length]; omega)⟩, fun y hy => hown y hy⟩, hge, by omega⟩, (Fr.refl (fun y => y = rb) w).setCell (p := ⟨rb, 0, none⟩) (Or.inr rfl) _⟩
    have := blk_set (w := w) hblk 0 (.slice (some ⟨g, off, none⟩) (8 * l.length) 0)
    simpa using this
  have hu0 : (0 : Int) ≤ x % 18446744073709551616 := by omega
  have hu1 : x % 18446744073709551616 < 18446744073709551616 := by omega
  have HB : Hid (∀ j, byteAt x (56 - 8 * j) = x % 18446744073709551616 / 2 ^ (56 - 8 * j) % 256) := fun j => rfl
  have HE : Hid (IntKind.i64.wrap (accN (x % 18446744073709551616) 8) = x) := by
    unfold Hid accN
    rw [IntKind.wrap_i64]
    simp
    obtain ⟨q1, q2⟩ := hx
    omega
  have H0 : Hid (accN (x % 18446744073709551616) 0 = 0) := by
    unfold Hid accN
    simp
    omega
  clear hc hcell hblk hown h hx
  generalize x % 18446744073709551616 = u at *
  go_enter Tryd.func65, Tryd.ntmps65
  go_wp2
  go_loopw [3, 19] (fun nu i wr => ∃ j : Nat, j ≤ 8 ∧ i = .int .i64 j ∧ nu = .int .u64 (accN u j) ∧ wr = w) (fun _ i _ => 8 - (intOf i).toNat)
  case atStart => exact ⟨0, by omega, rfl, by rw [H0.out], rfl⟩
  case round =>
    obtain ⟨j, hj, rfl, rfl, hwr⟩ := hrel
    subst hwr
    by_cases hlt : j < 8
    · have d0 := HC.out wr (Below.refl _ _) j hlt
      have hst := accN_step u j hlt
      rw [← HB.out j] at hst
      have hbd := accN_bd u j hu0 hu1 hlt
      obtain ⟨hb0, hb1⟩ := byteAt_bd x (56 - 8 * j)
      obtain ⟨ha0, ha1⟩ := hbd
      have hor := or_low (accN u j) (byteAt x (56 - 8 * j)) ha0 ha1 hb0 hb1
      have HST := hide hst
      clear HC hst HB
      generalize byteAt x (56 - 8 * j) = bt at *
      generalize accN u j = ac at *
      go_wp2
      go_roundw
      case rel => exact ⟨j + 1, by omega, by go_num, by rw [HST.out], by first | rfl | trivial⟩
      case measure => simp [intOf]; omega
    · have hj8 : j = 8 := by omega
      subst hj8
      have he := HE.out
      go_wp2
      all_goals go_ret
      all_goals first
        | exact ⟨rfl, HF.out⟩
        | exact ⟨rfl, HF2.out (by omega)⟩

end Go.Proofs.YthfdgdfnflilfaaDoor
/- Package states: Within, Count, Numbers, end. -/
namespace Go.Proofs.YthfdgdfnflilfaaDoor
open Go.RowKit Go.Conc

set_option maxHeartbeats 1000000 in
theorem within_calls {B : Nat} {w : World} {rb : Nat} {x : Int} {l : List Int} (h : RdAt B w rb (x :: l)) (hx : Fits64 x) (least most : Int) (h1 : least ≤ x) (h2 : x ≤ most) :
    Calls Tryd.prog 64 #[.pointer (some ⟨rb, 0, none⟩), .int .i64 least, .int .i64 most] w fun e w' => e = .returned (.int .i64 x) ∧ RdAt B w' rb l ∧ Fr (fun y => y = rb) w w' := by
  have HN := hide (number_calls h hx)
  have q1 : decide (x < least) = false := by simp; omega
  have q2 : decide (most < x) = false := by simp; omega
  clear h hx
  go_enter Tryd.func64, Tryd.ntmps64
  go_wp2_with fail
  refine (unhide HN).mono ?_
  rintro e w1 ⟨rfl, hr, hf⟩
  have HR := hide hr
  have HF := hide hf
  clear hr hf HN
  go_wp2
  go_ret
  exact ⟨rfl, HR.out, HF.out⟩

set_option maxHeartbeats 1000000 in
theorem count_calls {B : Nat} {w : World} {rb : Nat} {x : Int} {l : List Int} (h : RdAt B w rb (x :: l)) (hx : Fits64 x) (h1 : 0 ≤ x) (h2 : x ≤ l.length) :
    Calls Tryd.prog 72 #[.pointer (some ⟨rb, 0, none⟩)] w fun e w' => e = .returned (.int .i64 x) ∧ RdAt B w' rb l ∧ Fr (fun y => y = rb) w w' := by
  have HN := hide (number_calls h hx)
  have hsm := h.small
  simp only [List.length_cons] at hsm
  have q1 : decide (x < 0) = false := by simp; omega
  clear h hx
  go_enter Tryd.func72, Tryd.ntmps72
  go_wp2_with fail
  refine (unhide HN).mono ?_
  rintro e w1 ⟨rfl, hr, hf⟩
  have HR := hide hr
  have HF := hide hf
  obtain ⟨v, hblk, ⟨a, cap, rfl, hn, hcap, -⟩, -⟩ := hr.blk
  rw [bytesOf_length] at hblk hn
  have z0 := (blk_cell hblk 0 _ rfl).1
  have q2 : decide ((l.length : Int) < x) = false := by simp; omega
  have e8 : (8 * (l.length : Int)) / 8 = l.length := by omega
  clear hr hf HN hblk
  go_wp2
  go_ret
  exact ⟨rfl, HR.out, HF.out⟩

set_option maxHeartbeats 1000000 in
theorem end_calls {B : Nat} {w : World} {rb : Nat} (h : RdAt B w rb []) :
    Calls Tryd.prog 54 #[.pointer (some ⟨rb, 0, none⟩)] w fun e w' => e = .returned (.tuple #[]) ∧ w' = w := by
  obtain ⟨v, hblk, ⟨a, cap, rfl, hn, hcap, -⟩, -⟩ := h.blk
  rw [bytesOf_length] at hblk
  have z0 := (blk_cell hblk 0 _ rfl).1
  simp only [List.length_nil, Nat.mul_zero] at z0
  clear hblk h
  go_enter Tryd.func54, Tryd.ntmps54
  go_wp2
  go_end0
  exact ⟨rfl, rfl⟩

set_option maxRecDepth 100000 in
set_option maxHeartbeats 2000000 in
theorem numbers_calls {B : Nat} {w : World} {rb : Nat} {ms l : List Int} (h : RdAt B w rb (ms ++ l)) (hx : ∀ x ∈ ms, Fits64 x) (hB : B ≤ w.heap.size) (hm : ms.length ≤ 4294967296) :
    Calls Tryd.prog 71 #[.pointer (some ⟨rb, 0, none⟩), .int .i64 ms.length] w fun e w' => ∃ v, e = .returned v ∧ w'.ownsRow w.heap.size 3 1 v ms.length (intRow ms) ∧ RdAt B w' rb l ∧ Fr (fun y => y = rb) w w' := by
  obtain ⟨i0, hi, hz0, hz1, hz2⟩ := info_parts Tryd.info3
  have hrb : rb < w.heap.size := by obtain ⟨v, hblk, -⟩ := h.blk; exact lt_of_blk hblk
  have HN : Hid (∀ wx k (hk : k < ms.length), RdAt B wx rb (ms.drop k ++ l) → Calls Tryd.prog 65 #[.pointer (some ⟨rb, 0, none⟩)] wx fun e w' => e = .returned (.int .i64 ms[k]) ∧ RdAt B w' rb (ms.drop (k + 1) ++ l) ∧ Fr (fun y => y = rb) wx w') := fun wx k hk hr => by
    rw [List.drop_eq_getElem_cons hk] at hr
    exact number_calls hr (hx _ (List.getElem_mem hk))
  have H0 : Hid (RdAt B w rb (ms.drop 0 ++ l)) := by unfold Hid; simpa using h
  clear h hx
  go_enter Tryd.func71, Tryd.ntmps71
  go_wp2
  go_loopw [5, 7] (fun st i wr => ∃ (k : Nat) (v' : Value), k ≤ ms.length ∧ i = .int .i64 k ∧ v' = st ∧ wr.ownsRow w.heap.size 3 1 v' k (intRow (ms.take k)) ∧ RdAt B wr rb (ms.drop k ++ l) ∧ Fr (fun y => y = rb) w wr) (fun _ i _ => ms.length - (intOf i).toNat)
  case atStart => exact ⟨0, _, Nat.zero_le _, rfl, rfl, ⟨rfl, Or.inl ⟨rfl, rfl⟩⟩, H0.out, Fr.refl _ _⟩
  case round =>
    clear H0
    obtain ⟨k, v1, hk, rfl, rfl, hown, hr, hf⟩ := hrel
    by_cases hlt : k < ms.length
    · have HN1 := hide (HN.out wr k hlt hr)
      have HO := hide hown
      have HF := hide hf
      have hsz := hf.size
      obtain ⟨a2, cap2, rfl⟩ := own_slice hown
      have HT : Hid (intRow (ms.take (k + 1)) = intRow (ms.take k) ++ [.int .i64 ms[k]]) := by
        unfold Hid
        rw [List.take_succ_eq_append_getElem hlt]; exact intRow_snoc _ _
      clear HN hr hown hf
      generalize ms[k] = x at *
      go_wp2_with fail
      refine (unhide HN1).mono ?_
      rintro e w1 ⟨rfl, hr1, hf1⟩
      have HO1 : Hid (w1.ownsRow w.heap.size 3 1 (.slice a2 k cap2) k (intRow (ms.take k))) := own_of_blockB HO.out fun g hg => by
        obtain ⟨cur, hc⟩ := own_blockB HO.out hg
        have := own_baseB HO.out hg
        exact hf1.block g (lt_of_blk hc) (by omega)
      have HR1 := hide hr1
      have HF1 : Hid (Fr (fun y => y = rb) w w1) := HF.out.trans hf1 fun _ _ e => e
      have hsz1 : w.heap.size ≤ w1.heap.size := Nat.le_trans hsz hf1.size
      have hrb1 : rb < w1.heap.size := by omega
      clear hr1 hf1 HN1 HO HF
      have h63 : k + 1 ≤ maxLen := by unfold maxLen; omega
      have hbytes : (k + 1) * 8 ≤ 140737488355328 := by omega
      go_wp2_with (at_builtin; refine wpList_append_lies _ rfl (.tmp 9) (.tmp 12) 22 rfl w.heap.size 3 i0 (.int .i64 0) 1 8 Tryd.underlying22 hi hz0 hz1 hz2 rfl (by decide) (.slice a2 k cap2) k (intRow (ms.take k)) rfl (HO1.out.alloc _) ⟨w1.heap.size, 0, none⟩ 1 1 [.int .i64 x] rfl rfl ?c1 ?c2 (by decide) h63 hbytes (by simp; omega) (w1.heap.size + 1) (by simp) ?_)
      case c1 => exact cell_one_new _ _ _
      case c2 => intro u hu; simp at hu; subst hu; rfl
      intro g gcap w2 hown hgrow hor hglt
      have hne : ∀ y, (Value.slice a2 k cap2).ownBlock = some y → w.heap.size ≤ y := fun y hy => own_baseB HO1.out hy
      have HF2 : Hid (Fr (fun y => y = rb) w w2) := (HF1.out.alloc _).grown hgrow fun y hy => Or.inl (hne y hy)
      have HR2 : Hid (RdAt B w2 rb (ms.drop (k + 1) ++ l)) := by
        have hq : w2.heap[rb]? = w1.heap[rb]? := by
          rw [hgrow.block rb (by simp; omega) (fun e => by have := hne rb e.symm; omega), Below.heap_alloc _ _ _ hrb1]
        refine HR1.out.keep ⟨hgrow.os, hgrow.tape, hgrow.output, ?_, fun y hy => ?_⟩ hq
        · have := hgrow.size; simp at this; omega
        · rw [hgrow.block y (by simp; omega) (fun e => by have := hne y e.symm; omega), Below.heap_alloc _ _ _ (by omega)]
      have HO2 : Hid (w2.ownsRow w.heap.size 3 1 (.slice (some ⟨g, 0, none⟩) (k + 1) gcap) (k + 1) (intRow (ms.take (k + 1)))) := by rw [HT.out]; exact hown
      clear hown hgrow hor hne HO1 HR1 HF1
      go_wp2
      go_roundw
      case rel => exact ⟨k + 1, _, by omega, by go_num, rfl, HO2.out, HR2.out, HF2.out⟩
      case measure => simp [intOf]; omega
    · have hkl : k = ms.length := by omega
      subst hkl
      rw [List.take_length] at hown
      rw [List.drop_length, List.nil_append] at hr
      have HO := hide hown
      have HR := hide hr
      have HF := hide hf
      clear hown hr hf HN
      go_wp2
      go_ret
      exact ⟨v1, rfl, HO.out, HR.out, HF.out⟩

end Go.Proofs.YthfdgdfnflilfaaDoor
/- Package workers: Load. -/
namespace Go.Proofs.YthfdgdfnflilfaaDoor
open Go.RowKit Go.Conc

theorem RdAt.fr {B : Nat} {w w' : World} {rb b : Nat} {l : List Int} (h : RdAt B w rb l) (hf : Fr (fun y => y = b) w w') (hb : B ≤ b) (hB : B ≤ w.heap.size) (hne : b ≠ rb) : RdAt B w' rb l := by
  have hrb : rb < w.heap.size := by obtain ⟨v, hblk, -⟩ := h.blk; exact lt_of_blk hblk
  exact h.keep ⟨hf.os, hf.tape, hf.output, hf.size, fun k hk => hf.block k (by omega) (by omega)⟩ (hf.block rb hrb fun e => hne e.symm)

theorem RdAt.set {B : Nat} {w : World} {rb b i : Nat} {l : List Int} (h : RdAt B w rb l) (hb : B ≤ b) (hB : B ≤ w.heap.size) (hne : b ≠ rb) (v : Value) : RdAt B (w.setCell ⟨b, i, none⟩ v) rb l :=
  h.fr (b := b) ((Fr.refl (fun y => y = b) w).setCell (p := ⟨b, i, none⟩) (Or.inr rfl) v) hb hB hne

/-- A worker of whose registers the first j were read. -/
def partW (x y : Wk) (j : Nat) : Wk := ⟨y.place, fun i => if i < j then y.r i else x.r i, x.steps⟩

theorem WkAt.setReg {w : World} {b : Nat} {vc : Value} {code : List Ins} {x y : Wk} {j : Nat} (h : WkAt w b vc code (partW x y j)) (hj : j < 4) : WkAt (w.setCell ⟨b, 2 + j, none⟩ (.int .i64 (y.r j))) b vc code (partW x y (j + 1)) := by
  refine ⟨?_, own_of_block h.own fun g hg => Below.heap_setCell _ _ _ _ (h.ne_own hg), h.le, h.small⟩
  have := blk_set h.blk (2 + j) (.int .i64 (y.r j))
  rw [this]
  have hc : j = 0 ∨ j = 1 ∨ j = 2 ∨ j = 3 := by omega
  rcases hc with rfl | rfl | rfl | rfl <;> rfl

theorem WkAt.setPlace {w : World} {b : Nat} {vc : Value} {code : List Ins} {x y : Wk} (h : WkAt w b vc code x) (hy : y.place ≤ code.length) : WkAt (w.setCell ⟨b, 1, none⟩ (.int .i64 y.place)) b vc code (partW x y 0) := by
  refine ⟨?_, own_of_block h.own fun g hg => Below.heap_setCell _ _ _ _ (h.ne_own hg), hy, h.small⟩
  rw [blk_set h.blk 1 (.int .i64 y.place)]
  rfl

theorem WkAt.setSteps {w : World} {b : Nat} {vc : Value} {code : List Ins} {x y : Wk} (h : WkAt w b vc code (partW x y 4)) : WkAt (w.setCell ⟨b, 6, none⟩ (.int .i64 y.steps)) b vc code y := by
  refine ⟨?_, own_of_block h.own fun g hg => Below.heap_setCell _ _ _ _ (h.ne_own hg), h.le, h.small⟩
  rw [blk_set h.blk 6 (.int .i64 y.steps)]
  rfl

theorem WkAt.rd {B : Nat} {w w' : World} {b rb : Nat} {vc : Value} {code : List Ins} {x : Wk} {l : List Int} (h : WkAt w b vc code x) (hr : RdAt B w rb l) (hf : Fr (fun y => y = rb) w w') : WkAt w' b vc code x ∧ b ≠ rb := by
  obtain ⟨v, hblk, -⟩ := hr.blk
  have hne : b ≠ rb := ne_of_types h.blk hblk (by decide)
  refine ⟨h.stays fun y hy => ?_, hne⟩
  rcases hy with rfl | hy
  · exact hf.block _ (lt_of_blk h.blk) hne
  · obtain ⟨cur, hc⟩ := own_block h.own hy
    exact hf.block _ (lt_of_blk hc) (ne_of_types hc hblk (by decide))

structure FitsW (x : Wk) : Prop where
  r : ∀ i, i < 4 → Fits64 (x.r i)
  steps : Fits64 x.steps

set_option maxRecDepth 100000 in
set_option maxHeartbeats 4000000 in
theorem wload_calls {B : Nat} {w : World} {b rb : Nat} {vc : Value} {code : List Ins} {x y : Wk} {l : List Int} (hw : WkAt w b vc code x) (hr : RdAt B w rb (wkNums y ++ l)) (hbB : B ≤ b) (hB : B ≤ w.heap.size) (hy : y.place ≤ code.length) (hfy : FitsW y) :
    Calls Tryd.prog 55 #[.pointer (some ⟨b, 0, none⟩), .pointer (some ⟨rb, 0, none⟩)] w fun e w' => e = .returned (.tuple #[]) ∧ WkAt w' b vc code y ∧ RdAt B w' rb l ∧ Fr (fun z => z = b ∨ z = rb) w w' := by
  have hcs := hw.small
  have hne : b ≠ rb := (hw.rd hr (Fr.refl _ _)).2
  obtain ⟨c0, -⟩ := hw.cells
  obtain ⟨ac, cc, hvc, -, -⟩ := code_form hw.own
  have HP : Hid (Calls Tryd.prog 64 #[.pointer (some ⟨rb, 0, none⟩), .int .i64 0, .int .i64 code.length] w fun e w' => e = .returned (.int .i64 y.place) ∧ (w'.heap[b]? = w.heap[b]? ∧ (∃ u, w'.cell? ⟨b, 1, none⟩ = some u) ∧ w'.frozen? ⟨b, 1, none⟩ = false) ∧
      WkAt (w'.setCell ⟨b, 1, none⟩ (.int .i64 y.place)) b vc code (partW x y 0) ∧ RdAt B (w'.setCell ⟨b, 1, none⟩ (.int .i64 y.place)) rb ([y.r 0, y.r 1, y.r 2, y.r 3].drop 0 ++ y.steps :: l) ∧ Fr (fun z => z = b ∨ z = rb) w (w'.setCell ⟨b, 1, none⟩ (.int .i64 y.place)) ∧ B ≤ w'.heap.size) := by
    refine (within_calls hr ⟨by omega, by omega⟩ 0 code.length (by omega) (by omega)).mono fun e w' ⟨q1, q2, q3⟩ => ⟨q1, ?_, ?_, ?_, ?_, ?_⟩
    · have hk := (hw.rd hr q3).1
      exact ⟨q3.block b (lt_of_blk hw.blk) hne, ⟨_, hk.cells.2.1⟩, row_frozen hk.blk 1⟩
    · exact (hw.rd hr q3).1.setPlace hy
    · exact q2.set hbB (Nat.le_trans hB q3.size) hne _
    · exact Fr.setCell (S := fun z => z = b ∨ z = rb) (q3.mono fun _ _ e => Or.inr e) (p := ⟨b, 1, none⟩) (Or.inr (Or.inl rfl)) _
    · exact Nat.le_trans hB q3.size
  have HN : Hid (∀ wx j, j < 4 → WkAt wx b vc code (partW x y j) → RdAt B wx rb ([y.r 0, y.r 1, y.r 2, y.r 3].drop j ++ y.steps :: l) → Fr (fun z => z = b ∨ z = rb) w wx → B ≤ wx.heap.size → Calls Tryd.prog 65 #[.pointer (some ⟨rb, 0, none⟩)] wx fun e w' => e = .returned (.int .i64 (y.r j)) ∧ ((∃ u, w'.cell? ⟨b, 2 + j, none⟩ = some u) ∧ w'.frozen? ⟨b, 2 + j, none⟩ = false) ∧
      WkAt (w'.setCell ⟨b, 2 + j, none⟩ (.int .i64 (y.r j))) b vc code (partW x y (j + 1)) ∧ RdAt B (w'.setCell ⟨b, 2 + j, none⟩ (.int .i64 (y.r j))) rb ([y.r 0, y.r 1, y.r 2, y.r 3].drop (j + 1) ++ y.steps :: l) ∧ Fr (fun z => z = b ∨ z = rb) w (w'.setCell ⟨b, 2 + j, none⟩ (.int .i64 (y.r j))) ∧ B ≤ w'.heap.size) := fun wx j hj h1 h2 h3 h4 => by
    have e : [y.r 0, y.r 1, y.r 2, y.r 3].drop j ++ y.steps :: l = y.r j :: ([y.r 0, y.r 1, y.r 2, y.r 3].drop (j + 1) ++ y.steps :: l) := by
      have hc : j = 0 ∨ j = 1 ∨ j = 2 ∨ j = 3 := by omega
      rcases hc with rfl | rfl | rfl | rfl <;> rfl
    rw [e] at h2
    refine (number_calls h2 (hfy.r j hj)).mono fun e w' ⟨q1, q2, q3⟩ => ?_
    have hk := (h1.rd h2 q3).1
    refine ⟨q1, ⟨?_, row_frozen hk.blk _⟩, hk.setReg hj, q2.set hbB (Nat.le_trans h4 q3.size) hne _, (h3.trans q3 fun _ _ e => Or.inr e).setCell (p := ⟨b, 2 + j, none⟩) (Or.inr (Or.inl rfl)) _, Nat.le_trans h4 q3.size⟩
    have hc : j = 0 ∨ j = 1 ∨ j = 2 ∨ j = 3 := by omega
    rcases hc with rfl | rfl | rfl | rfl
    · exact ⟨_, row_cell hk.blk rfl⟩
    · exact ⟨_, row_cell hk.blk rfl⟩
    · exact ⟨_, row_cell hk.blk rfl⟩
    · exact ⟨_, row_cell hk.blk rfl⟩
  have HE : Hid (∀ wx, WkAt wx b vc code (partW x y 4) → RdAt B wx rb ([y.r 0, y.r 1, y.r 2, y.r 3].drop 4 ++ y.steps :: l) → Fr (fun z => z = b ∨ z = rb) w wx → B ≤ wx.heap.size → Calls Tryd.prog 65 #[.pointer (some ⟨rb, 0, none⟩)] wx fun e w' => e = .returned (.int .i64 y.steps) ∧ ((∃ u, w'.cell? ⟨b, 6, none⟩ = some u) ∧ w'.frozen? ⟨b, 6, none⟩ = false) ∧
      WkAt (w'.setCell ⟨b, 6, none⟩ (.int .i64 y.steps)) b vc code y ∧ RdAt B (w'.setCell ⟨b, 6, none⟩ (.int .i64 y.steps)) rb l ∧ Fr (fun z => z = b ∨ z = rb) w (w'.setCell ⟨b, 6, none⟩ (.int .i64 y.steps))) := fun wx h1 h2 h3 h4 => by
    refine (number_calls (l := l) h2 hfy.steps).mono fun e w' ⟨q1, q2, q3⟩ => ?_
    have hk := (h1.rd h2 q3).1
    exact ⟨q1, ⟨⟨_, row_cell hk.blk rfl⟩, row_frozen hk.blk _⟩, hk.setSteps, q2.set hbB (Nat.le_trans h4 q3.size) hne _, (h3.trans q3 fun _ _ e => Or.inr e).setCell (p := ⟨b, 6, none⟩) (Or.inr (Or.inl rfl)) _⟩
  clear hw hr hfy
  subst hvc
  go_enter Tryd.func55, Tryd.ntmps55
  go_wp2_with fail
  refine (unhide HP).mono ?_
  rintro e w1 ⟨rfl, ⟨hb1, ⟨u1, hu1⟩, hf1⟩, h1, h2, h3, h4⟩
  have H1 := hide h1
  have H2 := hide h2
  have H3 := hide h3
  have hs1 : B ≤ (w1.setCell ⟨b, 1, none⟩ (.int .i64 y.place)).heap.size := by simpa [World.setCell] using h4
  clear h1 h2 h3 HP hb1 h4
  go_wp2
  go_loopw [15] (fun i wr => ∃ j : Nat, j ≤ 4 ∧ i = .int .i64 j ∧ WkAt wr b (.slice ac code.length cc) code (partW x y j) ∧ RdAt B wr rb ([y.r 0, y.r 1, y.r 2, y.r 3].drop j ++ y.steps :: l) ∧ Fr (fun z => z = b ∨ z = rb) w wr ∧ B ≤ wr.heap.size) (fun i _ => 4 - (intOf i).toNat)
  case atStart => exact ⟨0, by omega, rfl, H1.out, H2.out, H3.out, hs1⟩
  case round =>
    clear H1 H2 H3 hs1 hu1 hf1
    obtain ⟨j, hj, rfl, h1, h2, h3, h4⟩ := hrel
    by_cases hlt : j < 4
    · have HN1 : Hid (∀ q, Calls Tryd.prog 65 #[.pointer (some ⟨rb, 0, none⟩)] (wr.drewN q) fun e w' => e = .returned (.int .i64 (y.r j)) ∧ ((∃ u, w'.cell? ⟨b, 2 + j, none⟩ = some u) ∧ w'.frozen? ⟨b, 2 + j, none⟩ = false) ∧
        WkAt (w'.setCell ⟨b, 2 + j, none⟩ (.int .i64 (y.r j))) b (.slice ac code.length cc) code (partW x y (j + 1)) ∧ RdAt B (w'.setCell ⟨b, 2 + j, none⟩ (.int .i64 (y.r j))) rb ([y.r 0, y.r 1, y.r 2, y.r 3].drop (j + 1) ++ y.steps :: l) ∧ Fr (fun z => z = b ∨ z = rb) w (w'.setCell ⟨b, 2 + j, none⟩ (.int .i64 (y.r j))) ∧ B ≤ w'.heap.size) := fun q => HN.out (wr.drewN q) j hlt (h1.stays fun _ _ => rfl) (h2.keep (below_drewN (Below.refl _ _) q) rfl) (h3.drewN q) h4
      have hj0 : (0 : Int) ≤ (j : Int) := by omega
      have hj1 : (j : Int) < 4 := by omega
      clear HN HE h1 h2 h3
      generalize y.r j = yr at *
      go_wp2
      go_region_held3 (fun _ => True) (trivial)
        ((go_at_call 65; refine (unhide HN1 _).mono ?_; rintro e w2 ⟨rfl, ⟨⟨u, hu⟩, hfz⟩, h1, h2, h3, h4⟩; have H1 := hide h1; have H2 := hide h2; have H3 := hide h3; clear h1 h2 h3))
      go_wp2
      go_roundw
      case rel => exact ⟨j + 1, by omega, by go_num, H1.out, H2.out, H3.out, by simpa [World.setCell] using h4⟩
      case measure => simp [intOf]; omega
    · have hj4 : j = 4 := by omega
      subst hj4
      have HE1 := hide (HE.out wr h1 h2 h3 h4)
      clear HN HE h1 h2 h3 h4
      go_wp2_with fail
      refine (unhide HE1).mono ?_
      rintro e w2 ⟨rfl, ⟨⟨u, hu⟩, hfz⟩, h1, h2, h3⟩
      have H1 := hide h1
      have H2 := hide h2
      have H3 := hide h3
      clear h1 h2 h3 HE1
      go_wp2
      go_end0
      exact ⟨rfl, H1.out, H2.out, H3.out⟩

end Go.Proofs.YthfdgdfnflilfaaDoor
/- Package streams: Load, but for streams that hold words. -/
namespace Go.Proofs.YthfdgdfnflilfaaDoor
open Go.RowKit Go.Conc

theorem StAt.rd {B : Nat} {w w' : World} {b rb : Nat} {vw : Value} {ch : Option Nat} {sourced : Bool} {m : Sm} {l : List Int} (h : StAt w b vw ch sourced m) (hr : RdAt B w rb l) (hf : Fr (fun y => y = rb) w w') : StAt w' b vw ch sourced m ∧ b ≠ rb := by
  obtain ⟨v, hblk, -⟩ := hr.blk
  have hne : b ≠ rb := ne_of_types h.blk hblk (by decide)
  refine ⟨h.stays fun y hy => ?_, hne⟩
  rcases hy with rfl | hy | hy
  · exact hf.block _ (lt_of_blk h.blk) hne
  · obtain ⟨cur, hc⟩ := own_block h.own hy
    exact hf.block _ (lt_of_blk hc) (ne_of_types hc hblk (by decide))
  · obtain ⟨⟨p, q, hc⟩, -⟩ := h.chan y hy
    exact hf.block _ (lt_of_blk hc) (fun e => ne_of_chan hblk hc e.symm)

/-- What loading a stream leaves. -/
structure Loaded (B : Nat) (w : World) (b rb : Nat) (sourced : Bool) (some' : Bool) (m : Sm) (l : List Int) (w' : World) : Prop where
  at' : ∃ vw ch, StAt w' b vw ch sourced m ∧ (∀ g, vw.ownBlock = some g → w.heap.size ≤ g ∨ sourced = true) ∧ (∀ c, ch = some c → w.heap.size ≤ c) ∧ ch.isSome = some'
  rd : RdAt B w' rb l
  fr : Fr (fun z => z = b ∨ z = rb) w w'

set_option maxRecDepth 100000 in
set_option maxHeartbeats 2000000 in
theorem sload_src {B : Nat} {w : World} {b rb : Nat} {vw : Value} {m0 : Sm} {r : Nat} {l : List Int} (h : StAt w b vw none true m0) (hr : RdAt B w rb ((r : Int) :: l)) (hbB : B ≤ b) (hB : B ≤ w.heap.size) (hle : r ≤ m0.words.length) :
    Calls Tryd.prog 56 #[.pointer (some ⟨b, 0, none⟩), .pointer (some ⟨rb, 0, none⟩)] w fun e w' => e = .returned (.tuple #[]) ∧ StAt w' b vw none true { m0 with read := r } ∧ RdAt B w' rb l ∧ Fr (fun z => z = b ∨ z = rb) w w' := by
  obtain ⟨c0, c1, c2, c3, cf⟩ := h.cells
  have hsm := h.small
  have hne : b ≠ rb := (h.rd hr (Fr.refl _ _)).2
  obtain ⟨aw, capw, hvw, -, -⟩ := own_form h.own
  have HP : Hid (Calls Tryd.prog 64 #[.pointer (some ⟨rb, 0, none⟩), .int .i64 0, .int .i64 m0.words.length] w fun e w' => e = .returned (.int .i64 r) ∧ ((∃ u, w'.cell? ⟨b, 2, none⟩ = some u) ∧ w'.frozen? ⟨b, 2, none⟩ = false) ∧
      StAt (w'.setCell ⟨b, 2, none⟩ (.int .i64 r)) b vw none true { m0 with read := r } ∧ RdAt B (w'.setCell ⟨b, 2, none⟩ (.int .i64 r)) rb l ∧ Fr (fun z => z = b ∨ z = rb) w (w'.setCell ⟨b, 2, none⟩ (.int .i64 r))) := by
    refine (within_calls hr ⟨by omega, by omega⟩ 0 m0.words.length (by omega) (by omega)).mono fun e w' ⟨q1, q2, q3⟩ => ?_
    have hk := (h.rd hr q3).1
    refine ⟨q1, ⟨⟨_, hk.cells.2.2.1⟩, row_frozen hk.blk 2⟩, ⟨?_, ?_, hle, hk.small, fun c hc => (by cases hc), fun c hc => (by cases hc)⟩, q2.set hbB (Nat.le_trans hB q3.size) hne _, Fr.setCell (S := fun z => z = b ∨ z = rb) (q3.mono fun _ _ e => Or.inr e) (p := ⟨b, 2, none⟩) (Or.inr (Or.inl rfl)) _⟩
    · have := blk_set hk.blk 2 (.int .i64 r)
      simpa using this
    · exact own_of_block hk.own fun g hg => Below.heap_setCell _ _ _ _ (hk.ne_own hg)
  clear h hr cf
  subst hvw
  generalize m0.words.length = ml at *
  go_enter Tryd.func56, Tryd.ntmps56
  go_wp2_with fail
  refine (unhide HP).mono ?_
  rintro e w1 ⟨rfl, ⟨⟨u, hu⟩, hfz⟩, h1, h2, h3⟩
  have H1 := hide h1
  have H2 := hide h2
  have H3 := hide h3
  clear h1 h2 h3 HP
  go_wp2
  go_end0
  exact ⟨rfl, H1.out, H2.out, H3.out⟩

set_option maxRecDepth 100000 in
set_option maxHeartbeats 2000000 in
theorem sloadUnread_calls {B : Nat} {w : World} {b rb : Nat} {vw : Value} {m0 : Sm} {ws l : List Int} (h : StAt w b vw none false m0) (hr : RdAt B w rb ((m0.room : Int) :: 0 :: (ws.length : Int) :: (ws ++ l))) (hbB : B ≤ b) (hB : B ≤ w.heap.size) (hro : m0.room ≤ 1000) (hws : ∀ x ∈ ws, Fits64 x) (hwl : ws.length ≤ 4294967296) :
    Calls Tryd.prog 66 #[.pointer (some ⟨b, 0, none⟩), .pointer (some ⟨rb, 0, none⟩)] w fun e w' => e = .returned (.tuple #[]) ∧ Loaded B w b rb false false ⟨ws, 0, m0.room⟩ l w' := by
  have c4 : w.cell? ⟨b, 4, none⟩ = some (.int .i64 (m0.room : Int)) := row_cell h.blk rfl
  have hne : b ≠ rb := (h.rd hr (Fr.refl _ _)).2
  have hb := lt_of_blk h.blk
  have H1 : Hid (∀ q, Calls Tryd.prog 64 #[.pointer (some ⟨rb, 0, none⟩), .int .i64 m0.room, .int .i64 m0.room] (w.drewN q) fun e w' => e = .returned (.int .i64 m0.room) ∧ (RdAt B w' rb (0 :: (ws.length : Int) :: (ws ++ l)) ∧ Fr (fun y => y = rb) w w') ∧ w'.cell? ⟨b, 4, none⟩ = some (.int .i64 (m0.room : Int))) := fun q => by
    refine (within_calls (w := w.drewN q) (hr.keep (below_drewN (Below.refl _ _) q) rfl) ⟨by omega, by omega⟩ _ _ (Int.le_refl _) (Int.le_refl _)).mono fun e w' ⟨q1, q2, q3⟩ => ⟨q1, ⟨q2, ⟨q3.os, q3.tape, q3.output, q3.size, q3.block⟩⟩, ?_⟩
    rw [← c4]; exact World.cell?_of_block (w := w) (q3.block b hb hne)
  have H2 : Hid (∀ wx, RdAt B wx rb (0 :: (ws.length : Int) :: (ws ++ l)) → Calls Tryd.prog 64 #[.pointer (some ⟨rb, 0, none⟩), .int .i64 0, .int .i64 0] wx fun e w' => e = .returned (.int .i64 0) ∧ RdAt B w' rb ((ws.length : Int) :: (ws ++ l)) ∧ Fr (fun y => y = rb) wx w') := fun wx hx => within_calls hx ⟨by omega, by omega⟩ 0 0 (Int.le_refl _) (Int.le_refl _)
  have H3 : Hid (∀ wx, RdAt B wx rb ((ws.length : Int) :: (ws ++ l)) → Calls Tryd.prog 72 #[.pointer (some ⟨rb, 0, none⟩)] wx fun e w' => e = .returned (.int .i64 ws.length) ∧ RdAt B w' rb (ws ++ l) ∧ Fr (fun y => y = rb) wx w') := fun wx hx => count_calls hx ⟨by omega, by omega⟩ (by omega) (by simp; omega)
  have H4 : Hid (∀ wx, RdAt B wx rb (ws ++ l) → Fr (fun y => y = rb) w wx → Calls Tryd.prog 71 #[.pointer (some ⟨rb, 0, none⟩), .int .i64 ws.length] wx fun e w' => ∃ a cap, e = .returned (.slice a ws.length cap) ∧ ((∃ u, w'.cell? ⟨b, 1, none⟩ = some u) ∧ w'.frozen? ⟨b, 1, none⟩ = false) ∧ Loaded B w b rb false false ⟨ws, 0, m0.room⟩ l (w'.setCell ⟨b, 1, none⟩ (.slice a ws.length cap))) := fun wx hx hfx => by
    refine (numbers_calls hx hws (Nat.le_trans hB hfx.size) hwl).mono fun e w' ⟨v, q1, q2, q3, q4⟩ => ?_
    obtain ⟨av, cv, rfl⟩ := own_slice q2
    refine ⟨av, cv, q1, ?_⟩
    have hf := hfx.trans q4 fun _ _ e => e
    have hk := (h.rd hr hf).1
    have hg : ∀ g, (Value.slice av ws.length cv).ownBlock = some g → w.heap.size ≤ g := fun g hg => Nat.le_trans hfx.size (own_baseB q2 hg)
    refine ⟨⟨⟨_, hk.cells.2.1⟩, row_frozen hk.blk 1⟩, ⟨.slice av ws.length cv, none, ⟨?_, ?_, Nat.zero_le _, by dsimp only; omega, fun c hc => (by cases hc), fun c hc => (by cases hc)⟩, fun g e => Or.inl (hg g e), fun c hc => (by cases hc), rfl⟩, q3.set hbB (Nat.le_trans hB hf.size) hne _, Fr.setCell (S := fun z => z = b ∨ z = rb) (hf.mono fun _ _ e => Or.inr e) (p := ⟨b, 1, none⟩) (Or.inr (Or.inl rfl)) _⟩
    · have := blk_set hk.blk 1 (.slice av ws.length cv)
      simpa using this
    · have h0 : w'.ownsRow 0 3 1 (.slice av ws.length cv) ws.length (intRow ws) := by
        rcases q2 with ⟨e1, e2 | ⟨g, cap, cur, e2, e3, e4⟩⟩
        · exact ⟨e1, Or.inl e2⟩
        · exact ⟨e1, Or.inr ⟨g, cap, cur, e2, Nat.zero_le _, e4⟩⟩
      exact own_of_block h0 fun g e => Below.heap_setCell _ _ _ _ (by have := hg g e; dsimp only; omega)
  clear h hr hws
  generalize (m0.room : Int) = mr at *
  go_enter Tryd.func66, Tryd.ntmps66
  go_wp2
  go_region_held3 (fun w' => w'.cell? ⟨b, 4, none⟩ = some (.int .i64 mr)) (go_keep)
    ((go_at_call 64; refine (unhide H1 _).mono ?_; rintro e w1 ⟨rfl, ⟨hr1, hf1⟩, s1⟩; have HR1 := hide hr1; have HF1 := hide hf1; clear hr1 hf1))
  go_wp2_with fail
  refine (unhide H2 _ HR1.out).mono ?_
  rintro e w2 ⟨rfl, hr2, hf2⟩
  have HR2 := hide hr2
  have HF2 := hide (HF1.out.trans hf2 fun _ _ e => e)
  clear hr2 hf2 HR1 HF1 H1 H2
  go_wp2_with fail
  refine (unhide H3 _ HR2.out).mono ?_
  rintro e w3 ⟨rfl, hr3, hf3⟩
  have HR3 := hide hr3
  have HF3 := hide (HF2.out.trans hf3 fun _ _ e => e)
  clear hr3 hf3 HR2 HF2 H3
  go_wp2_with fail
  refine (unhide H4 _ HR3.out HF3.out).mono ?_
  rintro e w4 ⟨av, cv, rfl, ⟨⟨u, hu⟩, hfz⟩, hl4⟩
  have HL := hide hl4
  clear hl4 HR3 HF3 H4
  go_wp2
  go_end0
  exact ⟨rfl, HL.out⟩

end Go.Proofs.YthfdgdfnflilfaaDoor

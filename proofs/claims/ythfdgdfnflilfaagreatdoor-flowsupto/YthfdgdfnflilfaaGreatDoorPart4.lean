/- Part 4: Nets2, Nets3, Nets4, Workers1, Workers2, Workers3. -/
import Derived.Deep.RegionHeld3
import Derived.Deep.RegionWith
import Derived.WalkSmall
import Derived.Test.YthfdgdfnflilfaaGreatDoorPart3
/- Package nets: which nets are nets. -/
namespace Go.Proofs.YthfdgdfnflilfaaGreatDoor
open Go.RowKit

def validCodeB (code : List Ins) (streams : Int) : Bool := decide (1 ≤ code.length) && decide (code.length ≤ 20) && code.all fun i => opsValid i code.length streams

set_option maxHeartbeats 400000 in
theorem validCode_calls {code : List Ins} {v : Value} {w : World} (streams : Int) (h : CodeAt w v code) :
    Calls Tryz.prog 82 #[v, .int .i64 streams] w fun e w' => e = .returned (.bool (validCodeB code streams)) ∧ Below w.heap.size w w' := by
  obtain ⟨a, cap, rfl, hn, hcap, hc⟩ := h.open
  have HC := hide hc
  clear hc h
  by_cases h1 : code.length < 1
  · go_enter Tryz.func82, Tryz.ntmps82
    go_wp2
    go_ret
    exact ⟨ret_bool (by have : ¬ 1 ≤ code.length := by omega
                        simp only [validCodeB, this, decide_false, Bool.false_and]), Below.refl _ _⟩
  have h1' : decide ((code.length : Int) < 1) = false := by simp; omega
  by_cases h2 : 20 < code.length
  · go_enter Tryz.func82, Tryz.ntmps82
    go_wp2
    go_ret
    exact ⟨ret_bool (by have : ¬ code.length ≤ 20 := by omega
                        simp only [validCodeB, this, decide_false, Bool.false_and, Bool.and_false]), Below.refl _ _⟩
  have h2' : decide (20 < (code.length : Int)) = false := by simp; omega
  have HV : Hid (validCodeB code streams = code.all fun i => opsValid i code.length streams) := by
    have g1 : 1 ≤ code.length := by omega
    have g2 : code.length ≤ 20 := by omega
    unfold Hid; simp only [validCodeB, g1, g2, decide_true, Bool.true_and]
  go_enter Tryz.func82, Tryz.ntmps82
  go_wp2
  go_loopw [17] (fun i wr => ∃ k : Nat, k ≤ code.length ∧ i = .int .i64 k ∧ Below w.heap.size w wr ∧ ((code.take k).all fun i => opsValid i code.length streams) = true) (fun i _ => code.length - (intOf i).toNat)
  case atStart => exact ⟨0, Nat.zero_le _, rfl, Below.refl _ _, rfl⟩
  case round =>
    obtain ⟨k, hk, rfl, hbl, hno⟩ := hrel
    have HN := hide hno
    clear hno
    by_cases hlt : k < code.length
    · obtain ⟨b, off, rfl, d0, d1, d2, d3⟩ := unhide HC wr hbl k hlt
      clear HC
      have HS : Hid (((code.take (k + 1)).all fun i => opsValid i code.length streams) = (((code.take k).all fun i => opsValid i code.length streams) && opsValid code[k] code.length streams)) := all_take_succ _ _ _ hlt
      have HH : Hid (opsValid code[k] code.length streams = false → (code.all fun i => opsValid i code.length streams) = false) := all_of_getElem_false code (fun i => opsValid i code.length streams) k hlt
      generalize code[k] = ins at *
      obtain ⟨op, ia, ib, ic⟩ := ins
      dsimp only at d0 d1 d2 d3
      go_wp2_with fail
      refine (opsValid_calls op ia ib ic _ streams _).mono ?_
      rintro e w1 ⟨rfl, hb1⟩
      have hbl1 := (hbl.alloc hbl.size (.cells #[.int .i64 op, .int .i64 ia, .int .i64 ib, .int .i64 ic] 44)).trans (hb1.mono (by have := hbl.size; simp; omega))
      clear hb1
      cases hy : opsValid ⟨op, ia, ib, ic⟩ code.length streams
      · go_wp2
        go_ret
        exact ⟨ret_bool (by rw [HV.out, HH.out hy]), hbl1⟩
      · rw [hy] at HS
        go_wp2
        go_roundw
        case rel => exact ⟨k + 1, by omega, by go_num, hbl1, by rw [HS.out, HN.out]; rfl⟩
        case measure => simp [intOf]; omega
    · go_wp2
      go_ret
      exact ⟨ret_bool (by have := HN.out; rw [List.take_of_length_le (by omega)] at this; rw [HV.out, this]), hbl⟩

def validWorkersB (ws : List (List Ins)) (streams : Int) : Bool := decide (1 ≤ ws.length) && decide (ws.length ≤ 6) && ws.all fun c => validCodeB c streams

set_option maxHeartbeats 400000 in
theorem validWorkers_calls {ws : List (List Ins)} {v : Value} {w : World} (streams : Int) (h : WorkersAt w v ws) :
    Calls Tryz.prog 51 #[v, .int .i64 streams] w fun e w' => e = .returned (.bool (validWorkersB ws streams)) ∧ Below w.heap.size w w' := by
  obtain ⟨a, cap, rfl, hn, hcap, hc⟩ := h.open
  have HC := hide hc
  clear hc h
  by_cases h1 : ws.length < 1
  · go_enter Tryz.func51, Tryz.ntmps51
    go_wp2
    go_ret
    exact ⟨ret_bool (by have : ¬ 1 ≤ ws.length := by omega
                        simp only [validWorkersB, this, decide_false, Bool.false_and]), Below.refl _ _⟩
  have h1' : decide ((ws.length : Int) < 1) = false := by simp; omega
  by_cases h2 : 6 < ws.length
  · go_enter Tryz.func51, Tryz.ntmps51
    go_wp2
    go_ret
    exact ⟨ret_bool (by have : ¬ ws.length ≤ 6 := by omega
                        simp only [validWorkersB, this, decide_false, Bool.false_and, Bool.and_false]), Below.refl _ _⟩
  have h2' : decide (6 < (ws.length : Int)) = false := by simp; omega
  have HV : Hid (validWorkersB ws streams = ws.all fun c => validCodeB c streams) := by
    have g1 : 1 ≤ ws.length := by omega
    have g2 : ws.length ≤ 6 := by omega
    unfold Hid; simp only [validWorkersB, g1, g2, decide_true, Bool.true_and]
  go_enter Tryz.func51, Tryz.ntmps51
  go_wp2
  go_loopw [17] (fun i wr => ∃ k : Nat, k ≤ ws.length ∧ i = .int .i64 k ∧ Below w.heap.size w wr ∧ ((ws.take k).all fun c => validCodeB c streams) = true) (fun i _ => ws.length - (intOf i).toNat)
  case atStart => exact ⟨0, Nat.zero_le _, rfl, Below.refl _ _, rfl⟩
  case round =>
    obtain ⟨k, hk, rfl, hbl, hno⟩ := hrel
    have HN := hide hno
    clear hno
    by_cases hlt : k < ws.length
    · obtain ⟨b, off, u, rfl, d0, hcode⟩ := unhide HC wr hbl k hlt
      clear HC
      have HS : Hid (((ws.take (k + 1)).all fun c => validCodeB c streams) = (((ws.take k).all fun c => validCodeB c streams) && validCodeB ws[k] streams)) := all_take_succ _ _ _ hlt
      have HH : Hid (validCodeB ws[k] streams = false → (ws.all fun c => validCodeB c streams) = false) := all_of_getElem_false ws (fun c => validCodeB c streams) k hlt
      have HCd := hide hcode
      obtain ⟨ua, ucap, hu, -, -, -⟩ := hcode.open
      generalize ws[k] = cd at *
      generalize hq : cd.length = cl at *
      clear hq hcode
      subst hu
      go_wp2_with fail
      refine (validCode_calls streams (unhide HCd)).mono ?_
      rintro e w1 ⟨rfl, hb1⟩
      have hbl1 := hbl.trans (hb1.mono hbl.size)
      clear hb1
      cases hy : validCodeB cd streams
      · go_wp2
        go_ret
        exact ⟨ret_bool (by rw [HV.out, HH.out hy]), hbl1⟩
      · rw [hy] at HS
        go_wp2
        go_roundw
        case rel => exact ⟨k + 1, by omega, by go_num, hbl1, by rw [HS.out, HN.out]; rfl⟩
        case measure => simp [intOf]; omega
    · go_wp2
      go_ret
      exact ⟨ret_bool (by have := HN.out; rw [List.take_of_length_le (by omega)] at this; rw [HV.out, this]), hbl⟩

def validStreamsB (l : List Int) : Bool := decide (1 ≤ l.length) && decide (l.length ≤ 8) && l.all fun r => decide (1 ≤ r) && decide (r ≤ 6)

set_option maxHeartbeats 400000 in
theorem validStreams_calls {l : List Int} {v : Value} {w : World} (h : IntsAt w v l) :
    Calls Tryz.prog 49 #[v] w fun e w' => e = .returned (.bool (validStreamsB l)) ∧ w' = w := by
  obtain ⟨a, cap, rfl, hn, hcap, hc⟩ := h.open
  have HC := hide hc
  clear hc h
  by_cases h1 : l.length < 1
  · go_enter Tryz.func49, Tryz.ntmps49
    go_wp2
    go_ret
    exact ⟨ret_bool (by have : ¬ 1 ≤ l.length := by omega
                        simp only [validStreamsB, this, decide_false, Bool.false_and]), rfl⟩
  have h1' : decide ((l.length : Int) < 1) = false := by simp; omega
  by_cases h2 : 8 < l.length
  · go_enter Tryz.func49, Tryz.ntmps49
    go_wp2
    go_ret
    exact ⟨ret_bool (by have : ¬ l.length ≤ 8 := by omega
                        simp only [validStreamsB, this, decide_false, Bool.false_and, Bool.and_false]), rfl⟩
  have h2' : decide (8 < (l.length : Int)) = false := by simp; omega
  have HV : Hid (validStreamsB l = l.all fun r => decide (1 ≤ r) && decide (r ≤ 6)) := by
    have g1 : 1 ≤ l.length := by omega
    have g2 : l.length ≤ 8 := by omega
    unfold Hid; simp only [validStreamsB, g1, g2, decide_true, Bool.true_and]
  go_enter Tryz.func49, Tryz.ntmps49
  go_wp2
  go_loop [15] (fun i => ∃ k : Nat, k ≤ l.length ∧ i = .int .i64 k ∧ ((l.take k).all fun r => decide (1 ≤ r) && decide (r ≤ 6)) = true) (fun i => l.length - (intOf i).toNat)
  case atStart => exact ⟨0, Nat.zero_le _, rfl, rfl⟩
  case round =>
    obtain ⟨k, hk, rfl, hno⟩ := hrel
    have HN := hide hno
    clear hno
    by_cases hlt : k < l.length
    · obtain ⟨b, off, rfl, d0⟩ := unhide HC w (Below.refl _ _) k hlt
      clear HC
      have HS : Hid (((l.take (k + 1)).all fun r => decide (1 ≤ r) && decide (r ≤ 6)) = (((l.take k).all fun r => decide (1 ≤ r) && decide (r ≤ 6)) && (decide (1 ≤ l[k]) && decide (l[k] ≤ 6)))) := all_take_succ _ _ _ hlt
      have HH : Hid ((decide (1 ≤ l[k]) && decide (l[k] ≤ 6)) = false → (l.all fun r => decide (1 ≤ r) && decide (r ≤ 6)) = false) := all_of_getElem_false l (fun r => decide (1 ≤ r) && decide (r ≤ 6)) k hlt
      generalize l[k] = r at *
      by_cases g1 : r < 1
      · have F := HV.out.trans (HH.out (by have : ¬ 1 ≤ r := by omega
                                           simp [this]))
        have F' := hide F
        clear F
        go_wp2
        go_ret
        exact ⟨ret_bool (by rw [F'.out]), rfl⟩
      have g1' : decide (r < 1) = false := by simpa using g1
      by_cases g2 : 6 < r
      · have F := HV.out.trans (HH.out (by have : ¬ r ≤ 6 := by omega
                                           simp [this]))
        have F' := hide F
        clear F
        go_wp2
        go_ret
        exact ⟨ret_bool (by rw [F'.out]), rfl⟩
      have g2' : decide (6 < r) = false := by simpa using g2
      have F : Hid ((decide (1 ≤ r) && decide (r ≤ 6)) = true) := by
        have g3 : 1 ≤ r := by omega
        have g4 : r ≤ 6 := by omega
        unfold Hid; simp [g3, g4]
      go_wp2
      go_round
      case rel => exact ⟨k + 1, by omega, by go_num, by rw [HS.out, HN.out, F.out]; rfl⟩
      case measure => simp [intOf]; omega
    · go_wp2
      go_ret
      exact ⟨ret_bool (by have := HN.out; rw [List.take_of_length_le (by omega)] at this; rw [HV.out, this]), rfl⟩

end Go.Proofs.YthfdgdfnflilfaaGreatDoor
/- Package nets: sources, ends, the whole. -/
namespace Go.Proofs.YthfdgdfnflilfaaGreatDoor
open Go.RowKit

/-- No earlier source is on the same stream; the streams are there; not too many words. -/
def validSourcesB (ss : List Src) (streams : Int) : Bool := (List.range ss.length).all fun i => inB (ss.getD i ⟨0, []⟩).stream streams && decide ((ss.getD i ⟨0, []⟩).words.length ≤ 50) && !hasSourceB (ss.take i) (ss.getD i ⟨0, []⟩).stream

theorem range_all_succ (p : Nat → Bool) (k : Nat) : (List.range (k + 1)).all p = ((List.range k).all p && p k) := by
  rw [List.range_succ, List.all_append]; simp only [List.all_cons, List.all_nil, Bool.and_true]
theorem range_all_false (p : Nat → Bool) (n k : Nat) (h : k < n) (hp : p k = false) : (List.range n).all p = false := by
  rw [Bool.eq_false_iff]; intro hh; have := List.all_eq_true.1 hh k (List.mem_range.2 h); rw [hp] at this; cases this

set_option maxHeartbeats 1000000 in
theorem validSources_calls {ss : List Src} {v : Value} {w : World} (streams : Int) (h : SourcesAt w v ss) :
    Calls Tryz.prog 50 #[v, .int .i64 streams] w fun e w' => e = .returned (.bool (validSourcesB ss streams)) ∧ Below w.heap.size w w' := by
  obtain ⟨a, cap, rfl, hn, hcap, hc⟩ := h.open
  have HC := hide hc
  have HS0 : Hid (∀ wr, Below w.heap.size w wr → ∀ k, k ≤ ss.length → SourcesAt wr (.slice a k cap) (ss.take k)) := fun wr hb k hk => (h.take k hk).below hb
  clear hc h
  go_enter Tryz.func50, Tryz.ntmps50
  go_wp2
  go_loopw [9] (fun i wr => ∃ k : Nat, k ≤ ss.length ∧ i = .int .i64 k ∧ Below w.heap.size w wr ∧ ((List.range k).all fun i => inB (ss.getD i ⟨0, []⟩).stream streams && decide ((ss.getD i ⟨0, []⟩).words.length ≤ 50) && !hasSourceB (ss.take i) (ss.getD i ⟨0, []⟩).stream) = true) (fun i _ => ss.length - (intOf i).toNat)
  case atStart => exact ⟨0, Nat.zero_le _, rfl, Below.refl _ _, rfl⟩
  case round =>
    obtain ⟨k, hk, rfl, hbl, hno⟩ := hrel
    have HN := hide hno
    clear hno
    by_cases hlt : k < ss.length
    · obtain ⟨b, off, u, rfl, d0, d1, hu⟩ := unhide HC wr hbl k hlt
      clear HC
      have HS := hide (range_all_succ (fun i => inB (ss.getD i ⟨0, []⟩).stream streams && decide ((ss.getD i ⟨0, []⟩).words.length ≤ 50) && !hasSourceB (ss.take i) (ss.getD i ⟨0, []⟩).stream) k)
      have HH := hide (range_all_false (fun i => inB (ss.getD i ⟨0, []⟩).stream streams && decide ((ss.getD i ⟨0, []⟩).words.length ≤ 50) && !hasSourceB (ss.take i) (ss.getD i ⟨0, []⟩).stream) ss.length k hlt)
      obtain ⟨ua, ucap, hu, -, -, -⟩ := hu.open
      have HSr := unhide HS0 wr hbl k hk
      have hsl : ss.getD k ⟨0, []⟩ = ss[k] := getD_eq _ _ _ hlt
      rw [hsl] at HS HH
      clear hsl HS0
      generalize ss[k] = src at *
      obtain ⟨st, wds⟩ := src
      dsimp only at *
      generalize wds.length = sl at *
      subst hu
      by_cases g1 : st < 0
      · have F := hide (HH.out (by have : inB st streams = false := by simp [inB]; omega
                                   simp [this]))
        go_wp2
        go_ret
        exact ⟨ret_bool (by rw [validSourcesB, F.out]), hbl.alloc hbl.size _⟩
      have g1' : decide (st < 0) = false := by simpa using g1
      by_cases g2 : streams ≤ st
      · have F := hide (HH.out (by have : inB st streams = false := by simp [inB]; omega
                                   simp [this]))
        go_wp2
        go_ret
        exact ⟨ret_bool (by rw [validSourcesB, F.out]), hbl.alloc hbl.size _⟩
      have g2' : decide (streams ≤ st) = false := by simpa using g2
      have g3 : inB st streams = true := by simp [inB]; omega
      by_cases g4 : 50 < sl
      · have F := hide (HH.out (by have : ¬ sl ≤ 50 := by omega
                                   simp [this]))
        have g4' : decide (50 < (sl : Int)) = true := by simp; omega
        clear g3
        go_wp2
        go_quiet (fail)
        go_wp2
        go_ret
        exact ⟨ret_bool (by rw [validSourcesB, F.out]), below_drewN (hbl.alloc hbl.size _) _⟩
      have g4' : decide (50 < (sl : Int)) = false := by simp; omega
      have hcap' : (k : Int) ≤ (cap : Int) := by omega
      have hk0 : (0 : Int) ≤ (k : Int) := by omega
      have HK : Hid (∀ wx, Below wr.heap.size wr wx → Calls Tryz.prog 81 #[.slice (some ⟨b, off, none⟩) k cap, .int .i64 st] wx fun e w' => e = .returned (.bool (hasSourceB (ss.take k) st)) ∧ Below w.heap.size w w') :=
        fun wx hx => (hasSource_calls st (HSr.below hx)).mono fun e w' h => ⟨h.1, (hbl.trans (hx.mono hbl.size)).trans (h.2.mono (Nat.le_trans hbl.size hx.size))⟩
      clear HSr
      cases hy : hasSourceB (ss.take k) st
      · rw [hy] at HK HS
        have F := hide (g3)
        clear g3
        go_wp2
        go_region_with (go_at_call 81; refine (unhide HK _ ?_).mono ?_; (repeat (first | exact Below.refl _ _ | apply Below.drew | apply below_drewN | refine Below.alloc ?_ (by simp) _)); rintro e w1 ⟨rfl, hb1⟩)
        all_goals
          go_wp2
          go_roundw
          case rel => exact ⟨k + 1, by omega, by go_num, by assumption, by rw [HS.out, HN.out, F.out]; simp; omega⟩
          case measure => simp [intOf]; omega
      · rw [hy] at HK HH
        have F := hide (HH.out (by simp))
        clear g3
        go_wp2
        go_region_with (go_at_call 81; refine (unhide HK _ ?_).mono ?_; (repeat (first | exact Below.refl _ _ | apply Below.drew | apply below_drewN | refine Below.alloc ?_ (by simp) _)); rintro e w1 ⟨rfl, hb1⟩)
        all_goals
          go_wp2
          go_ret
          exact ⟨ret_bool (by rw [validSourcesB, F.out]), by assumption⟩
    · go_wp2
      go_ret
      exact ⟨ret_bool (by have hkk : k = ss.length := by omega
                          subst hkk
                          rw [validSourcesB, HN.out]), hbl⟩

end Go.Proofs.YthfdgdfnflilfaaGreatDoor
/- Package nets: ends, HasReader, the whole. -/
namespace Go.Proofs.YthfdgdfnflilfaaGreatDoor
open Go.RowKit

theorem box3 {w wr : World} {x y z : Value} {T : TypeId} (h : Below (w.heap.size + 1) (w.alloc (.cells #[x, y, z] T)) wr) :
    wr.cell? ⟨w.heap.size, 0, none⟩ = some x ∧ wr.cell? ⟨w.heap.size, 1, none⟩ = some y ∧ wr.cell? ⟨w.heap.size, 2, none⟩ = some z := by
  refine ⟨?_, ?_, ?_⟩
  all_goals
    refine (h.cell (p := ⟨w.heap.size, _, none⟩) (by simp)).trans ?_
    simp [go_sem]

theorem below_box {w wr : World} {o : Obj} (h : Below (w.heap.size + 1) (w.alloc o) wr) : Below w.heap.size w wr :=
  ((Below.refl _ _).alloc (Nat.le_refl _) o).trans (h.mono (by omega))

def validEndsB (n : Net) : Bool := (List.range n.streams.length).all fun s => decide (usersN n.workers 2 s + (if hasSourceB n.sources s then 1 else 0) ≤ 1) && decide (usersN n.workers 1 s ≤ 1)

set_option maxHeartbeats 1000000 in
theorem validEnds_calls {n : Net} {v : Value} {w : World} (h : NetAt w v n) :
    Calls Tryz.prog 52 #[v] w fun e w' => e = .returned (.bool (validEndsB n)) ∧ Below w.heap.size w w' := by
  obtain ⟨vs, vr, vw, rfl, h1, h2, h3⟩ := h
  obtain ⟨sa, sc, rfl, hsn, -, -⟩ := h1.open
  obtain ⟨ar, cr, rfl⟩ := h2.form
  obtain ⟨aw, cw, rfl, hwn, -, -⟩ := h3.open
  have HR : Hid (∀ (st : Int) wx, Below w.heap.size w wx → Calls Tryz.prog 81 #[.slice ar n.sources.length cr, .int .i64 st] wx fun e w' => e = .returned (.bool (hasSourceB n.sources st)) ∧ Below wx.heap.size wx w') :=
    fun st wx hx => hasSource_calls st (h2.below hx)
  have HW : Hid (∀ (op st : Int) wx, Below w.heap.size w wx → Calls Tryz.prog 83 #[.slice aw n.workers.length cw, .int .i64 op, .int .i64 st] wx fun e w' => e = .returned (.int .i64 (usersN n.workers op st)) ∧ Below wx.heap.size wx w') :=
    fun op st wx hx => users_calls op st (h3.below hx)
  clear h1 h2 h3
  have hle : ∀ op st, usersN n.workers op st ≤ 140737488355328 := fun op st => Nat.le_trans List.countP_le_length (by omega)
  have HL := hide hle
  clear hle
  have HV := hide (show validEndsB n = (List.range n.streams.length).all fun s => decide (usersN n.workers 2 s + (if hasSourceB n.sources s then 1 else 0) ≤ 1) && decide (usersN n.workers 1 s ≤ 1) from rfl)
  generalize n.sources.length = rl at *
  generalize n.workers.length = wl at *
  generalize n.streams.length = sl at *
  go_enter Tryz.func52, Tryz.ntmps52
  go_wp2
  go_loopw [8] (fun i wr => ∃ k : Nat, k ≤ sl ∧ i = .int .i64 k ∧ Below (w.heap.size + 1) (w.alloc (.cells #[.slice sa sl sc, .slice ar rl cr, .slice aw wl cw] 26)) wr ∧ ((List.range k).all fun s => decide (usersN n.workers 2 s + (if hasSourceB n.sources s then 1 else 0) ≤ 1) && decide (usersN n.workers 1 s ≤ 1)) = true) (fun i _ => sl - (intOf i).toNat)
  case atStart => exact ⟨0, Nat.zero_le _, rfl, Below.refl _ _, rfl⟩
  case round =>
    obtain ⟨k, hk, rfl, hbl, hno⟩ := hrel
    have HN := hide hno
    clear hno
    by_cases hlt : k < sl
    · obtain ⟨c0, c1, c2⟩ := box3 hbl
      have HS := hide (range_all_succ (fun s => decide (usersN n.workers 2 s + (if hasSourceB n.sources s then 1 else 0) ≤ 1) && decide (usersN n.workers 1 s ≤ 1)) k)
      have HH := hide (range_all_false (fun s => decide (usersN n.workers 2 s + (if hasSourceB n.sources s then 1 else 0) ≤ 1) && decide (usersN n.workers 1 s ≤ 1)) sl k hlt)
      have hsz : w.heap.size + 1 ≤ wr.heap.size := by have := hbl.size; simpa using this
      go_wp2_with fail
      refine (unhide HW 2 k wr (below_box hbl)).mono ?_
      rintro e w1 ⟨rfl, hb1⟩
      have hbl1 := hbl.trans (hb1.mono hsz)
      obtain ⟨c0, c1, c2⟩ := box3 hbl1
      have hsz1 : w.heap.size + 1 ≤ w1.heap.size := by have := hbl1.size; simpa using this
      clear hb1
      have l2 := unhide HL 2 k
      generalize e2 : usersN n.workers 2 k = u2 at *
      go_wp2_with fail
      refine (unhide HR k w1 (below_box hbl1)).mono ?_
      rintro e w2 ⟨rfl, hb2⟩
      have hbl2 := hbl1.trans (hb2.mono hsz1)
      obtain ⟨c0, c1, c2⟩ := box3 hbl2
      have hsz2 : w.heap.size + 1 ≤ w2.heap.size := by have := hbl2.size; simpa using this
      clear hb2
      cases hy : hasSourceB n.sources k
      all_goals
        rw [hy] at HH HS
        simp only [Bool.false_eq_true, if_true, if_false] at HH HS
      · by_cases g1 : 1 < u2
        · have F := hide (HH.out (by simp; omega))
          clear e2
          go_wp2
          go_ret
          exact ⟨ret_bool (by rw [HV.out, F.out]), below_box hbl2⟩
        have g1' : decide (1 < (u2 : Int)) = false := by simp; omega
        have E2 := hide e2
        clear e2
        go_wp2_with fail
        refine (unhide HW 1 k w2 (below_box hbl2)).mono ?_
        rintro e w3 ⟨rfl, hb3⟩
        have hbl3 := hbl2.trans (hb3.mono hsz2)
        clear hb3
        have l1 := unhide HL 1 k
        generalize e1 : usersN n.workers 1 k = u1 at *
        have E1 := hide e1
        clear e1
        by_cases g2 : 1 < u1
        · have F := hide (HH.out (by have : ¬ u1 ≤ 1 := by omega
                                     simp [this]))
          go_wp2
          go_ret
          exact ⟨ret_bool (by rw [HV.out, F.out]), below_box hbl3⟩
        go_wp2
        go_roundw
        case rel => exact ⟨k + 1, by omega, by go_num, hbl3, by rw [HS.out, HN.out]; simp; omega⟩
        case measure => simp [intOf]; omega
      · by_cases g1 : 1 < u2 + 1
        · have F := hide (HH.out (by have : ¬ u2 + 1 ≤ 1 := by omega
                                     simp [this]))
          clear e2
          go_wp2
          go_ret
          exact ⟨ret_bool (by rw [HV.out, F.out]), below_box hbl2⟩
        have g1' : decide (1 < (u2 : Int) + 1) = false := by simp; omega
        have E2 := hide e2
        clear e2
        go_wp2_with fail
        refine (unhide HW 1 k w2 (below_box hbl2)).mono ?_
        rintro e w3 ⟨rfl, hb3⟩
        have hbl3 := hbl2.trans (hb3.mono hsz2)
        clear hb3
        have l1 := unhide HL 1 k
        generalize e1 : usersN n.workers 1 k = u1 at *
        have E1 := hide e1
        clear e1
        by_cases g2 : 1 < u1
        · have F := hide (HH.out (by have : ¬ u1 ≤ 1 := by omega
                                     simp [this]))
          go_wp2
          go_ret
          exact ⟨ret_bool (by rw [HV.out, F.out]), below_box hbl3⟩
        go_wp2
        go_roundw
        case rel => exact ⟨k + 1, by omega, by go_num, hbl3, by rw [HS.out, HN.out]; simp; omega⟩
        case measure => simp [intOf]; omega
    · go_wp2
      go_ret
      exact ⟨ret_bool (by have hkk : k = sl := by omega
                          subst hkk
                          rw [HV.out, HN.out]), below_box hbl⟩

set_option maxHeartbeats 400000 in
theorem hasReader_calls {n : Net} {v : Value} {w : World} (st : Int) (h : NetAt w v n) :
    Calls Tryz.prog 53 #[v, .int .i64 st] w fun e w' => e = .returned (.bool (decide (0 < usersN n.workers 1 st))) ∧ Below w.heap.size w w' := by
  obtain ⟨vs, vr, vw, rfl, h1, h2, h3⟩ := h
  obtain ⟨sa, sc, rfl⟩ := h1.form
  obtain ⟨ar, cr, rfl⟩ := h2.form
  obtain ⟨aw, cw, rfl⟩ := h3.form
  have HW : Hid (∀ wx, Below w.heap.size w wx → Calls Tryz.prog 83 #[.slice aw n.workers.length cw, .int .i64 1, .int .i64 st] wx fun e w' => e = .returned (.int .i64 (usersN n.workers 1 st)) ∧ Below wx.heap.size wx w') :=
    fun wx hx => users_calls 1 st (h3.below hx)
  clear h1 h2 h3
  go_enter Tryz.func53, Tryz.ntmps53
  go_wp2_with fail
  refine (unhide HW _ ((Below.refl _ _).alloc (Nat.le_refl _) _)).mono ?_
  rintro e w1 ⟨rfl, hb1⟩
  have hbl1 := ((Below.refl w.heap.size w).alloc (Nat.le_refl _) (.cells #[.slice sa n.streams.length sc, .slice ar n.sources.length cr, .slice aw n.workers.length cw] 26)).trans (hb1.mono (by simp))
  clear hb1
  generalize hu : usersN n.workers 1 st = u1 at *
  have HU := hide hu
  clear hu
  go_wp2
  go_ret
  exact ⟨ret_bool (by rw [HU.out]), hbl1⟩

def validB (n : Net) : Bool := validStreamsB n.streams && validSourcesB n.sources n.streams.length && validWorkersB n.workers n.streams.length && validEndsB n

set_option maxHeartbeats 1000000 in
theorem valid_calls {n : Net} {v : Value} {w : World} (h : NetAt w v n) :
    Calls Tryz.prog 23 #[v] w fun e w' => e = .returned (.bool (validB n)) ∧ Below w.heap.size w w' := by
  have HE : Hid (∀ wx, Below w.heap.size w wx → Calls Tryz.prog 52 #[v] wx fun e w' => e = .returned (.bool (validEndsB n)) ∧ Below wx.heap.size wx w') :=
    fun wx hx => validEnds_calls (h.below hx)
  obtain ⟨vs, vr, vw, rfl, h1, h2, h3⟩ := h
  obtain ⟨sa, sc, rfl⟩ := h1.form
  obtain ⟨ar, cr, rfl⟩ := h2.form
  obtain ⟨aw, cw, rfl⟩ := h3.form
  have HS : Hid (∀ wx, Below w.heap.size w wx → Calls Tryz.prog 49 #[.slice sa n.streams.length sc] wx fun e w' => e = .returned (.bool (validStreamsB n.streams)) ∧ w' = wx) :=
    fun wx hx => validStreams_calls (h1.below hx)
  have HR : Hid (∀ wx, Below w.heap.size w wx → Calls Tryz.prog 50 #[.slice ar n.sources.length cr, .int .i64 n.streams.length] wx fun e w' => e = .returned (.bool (validSourcesB n.sources n.streams.length)) ∧ Below wx.heap.size wx w') :=
    fun wx hx => validSources_calls _ (h2.below hx)
  have HW : Hid (∀ wx, Below w.heap.size w wx → Calls Tryz.prog 51 #[.slice aw n.workers.length cw, .int .i64 n.streams.length] wx fun e w' => e = .returned (.bool (validWorkersB n.workers n.streams.length)) ∧ Below wx.heap.size wx w') :=
    fun wx hx => validWorkers_calls _ (h3.below hx)
  clear h1 h2 h3
  have HV : Hid (validB n = (validStreamsB n.streams && validSourcesB n.sources n.streams.length && validWorkersB n.workers n.streams.length && validEndsB n)) := rfl
  generalize validStreamsB n.streams = y1 at *
  generalize validSourcesB n.sources n.streams.length = y2 at *
  generalize validWorkersB n.workers n.streams.length = y3 at *
  generalize validEndsB n = y4 at *
  generalize n.sources.length = rl at *
  generalize n.workers.length = wl at *
  generalize n.streams.length = sl at *
  go_enter Tryz.func23, Tryz.ntmps23
  have hbl0 : Below (w.heap.size + 1) (w.alloc (.cells #[.slice sa sl sc, .slice ar rl cr, .slice aw wl cw] 26)) (w.alloc (.cells #[.slice sa sl sc, .slice ar rl cr, .slice aw wl cw] 26)) := Below.refl _ _
  go_wp2_with fail
  refine (unhide HS _ (below_box hbl0)).mono ?_
  rintro e w1 ⟨rfl, rfl⟩
  cases y1
  · go_wp2
    go_ret
    exact ⟨ret_bool (by rw [HV.out]; rfl), below_box hbl0⟩
  go_wp2_with fail
  refine (unhide HR _ (below_box hbl0)).mono ?_
  rintro e w2 ⟨rfl, hb2⟩
  have hbl2 := hbl0.trans (hb2.mono (by simp))
  have hsz2 : w.heap.size + 1 ≤ w2.heap.size := by have := hbl2.size; simpa using this
  obtain ⟨c0, c1, c2⟩ := box3 hbl2
  clear hb2
  cases y2
  · go_wp2
    go_ret
    exact ⟨ret_bool (by rw [HV.out]; rfl), below_box hbl2⟩
  go_wp2_with fail
  refine (unhide HW _ (below_box hbl2)).mono ?_
  rintro e w3 ⟨rfl, hb3⟩
  have hbl3 := hbl2.trans (hb3.mono hsz2)
  have hsz3 : w.heap.size + 1 ≤ w3.heap.size := by have := hbl3.size; simpa using this
  obtain ⟨c0, c1, c2⟩ := box3 hbl3
  clear hb3
  cases y3
  · go_wp2
    go_ret
    exact ⟨ret_bool (by rw [HV.out]; rfl), below_box hbl3⟩
  go_wp2_with fail
  refine (unhide HE _ (below_box hbl3)).mono ?_
  rintro e w4 ⟨rfl, hb4⟩
  have hbl4 := hbl3.trans (hb4.mono hsz3)
  clear hb4
  go_wp2
  go_ret
  exact ⟨ret_bool (by rw [HV.out]; rfl), below_box hbl4⟩

end Go.Proofs.YthfdgdfnflilfaaGreatDoor
/- Package workers: what a worker is in memory; reckoned. -/
namespace Go.Proofs.YthfdgdfnflilfaaGreatDoor
open Go.RowKit Go.Conc

set_option maxHeartbeats 1000000 in
theorem reckoned_calls (op b c : Int) (w : World) (ho : op = 4 ∨ op = 5 ∨ op = 6 ∨ op = 7) :
    Calls Tryz.prog 80 #[.int .i64 op, .int .i64 b, .int .i64 c] w fun e w' => e = .returned (.int .i64 (alu op b c)) ∧ w' = w := by
  rcases ho with rfl | rfl | rfl | rfl
  · go_enter Tryz.func80, Tryz.ntmps80
    go_wp2
    go_ret
    exact ⟨ret_int (by simp [alu]), rfl⟩
  · go_enter Tryz.func80, Tryz.ntmps80
    go_wp2
    go_ret
    exact ⟨ret_int (by simp [alu]), rfl⟩
  · go_enter Tryz.func80, Tryz.ntmps80
    go_wp2
    go_ret
    exact ⟨ret_int (by simp [alu]), rfl⟩
  · by_cases h : b < c
    · go_enter Tryz.func80, Tryz.ntmps80
      go_wp2
      go_ret
      exact ⟨ret_int (by simp [alu, h]), rfl⟩
    · have h' : decide (b < c) = false := by simpa using h
      go_enter Tryz.func80, Tryz.ntmps80
      go_wp2
      go_ret
      exact ⟨ret_int (by have : ¬ b < c := by omega
                         simp [alu, this]), rfl⟩

/-- The cells of a program. -/
def codeRow (l : List Ins) : List Value := l.flatMap fun i => [.int .i64 i.op, .int .i64 i.a, .int .i64 i.b, .int .i64 i.c]

/-- A worker in memory: its struct at block b, its own copy of its program vc. -/
structure WkAt (w : World) (b : Nat) (vc : Value) (code : List Ins) (x : Wk) : Prop where
  blk : w.heap[b]? = some (.cells #[vc, .int .i64 x.place, .int .i64 (x.r 0), .int .i64 (x.r 1), .int .i64 (x.r 2), .int .i64 (x.r 3), .int .i64 x.steps] 139 (0, 0))
  own : w.ownsRow 0 44 4 vc code.length (codeRow code)
  le : x.place ≤ code.length
  small : code.length ≤ 20

theorem codeRow_length (l : List Ins) : (codeRow l).length = l.length * 4 := by
  induction l with
  | nil => rfl
  | cons i l ih => simp only [codeRow, List.flatMap_cons, List.length_append, List.length_cons, List.length_nil] at ih ⊢; omega

theorem codeRow_get : ∀ (l : List Ins) (k : Nat) (hk : k < l.length) (j : Nat), j < 4 → (codeRow l)[k * 4 + j]? = some (l[k].cell j)
  | i :: l, 0, _, j, hj => by
    rcases (show j = 0 ∨ j = 1 ∨ j = 2 ∨ j = 3 by omega) with rfl | rfl | rfl | rfl <;> rfl
  | i :: l, k + 1, hk, j, hj => by
    have ih := codeRow_get l k (by simpa using hk) j hj
    have e : codeRow (i :: l) = [.int .i64 i.op, .int .i64 i.a, .int .i64 i.b, .int .i64 i.c] ++ codeRow l := rfl
    rw [e, List.getElem?_append_right (by simp; omega)]
    simp only [List.length_cons, List.length_nil, List.getElem_cons_succ]
    rw [show (k + 1) * 4 + j - (0 + 1 + 1 + 1 + 1) = k * 4 + j by omega]
    exact ih

theorem code_form {w : World} {vc : Value} {l : List Ins} (h : w.ownsRow 0 44 4 vc l.length (codeRow l)) : ∃ a cap, vc = .slice a l.length cap ∧ l.length ≤ cap ∧ (∀ i (hi : i < l.length), ∃ g, a = some ⟨g, 0, none⟩ ∧
    w.cell? ⟨g, i * 4, none⟩ = some (.int .i64 l[i].op) ∧ w.cell? ⟨g, i * 4 + 1, none⟩ = some (.int .i64 l[i].a) ∧ w.cell? ⟨g, i * 4 + 2, none⟩ = some (.int .i64 l[i].b) ∧ w.cell? ⟨g, i * 4 + 3, none⟩ = some (.int .i64 l[i].c)) := by
  obtain ⟨h1, h2⟩ := h
  rcases h2 with ⟨h3, h4⟩ | ⟨g, cap, cur, hv, hg, hh, hn, hm, hs, ht⟩
  · exact ⟨none, 0, by rw [h3, h4], by omega, fun i hi => by omega⟩
  · refine ⟨some ⟨g, 0, none⟩, cap, hv, hn, fun i hi => ⟨g, rfl, ?_⟩⟩
    have cell : ∀ j, j < 4 → w.cell? ⟨g, i * 4 + j, none⟩ = some (l[i].cell j) := by
      intro j hj
      have e := codeRow_get l i hi j hj
      rw [← ht, List.getElem?_take_of_lt (by omega)] at e
      simp [World.cell?, hh]
      simpa using e
    exact ⟨cell 0 (by decide), cell 1 (by decide), cell 2 (by decide), cell 3 (by decide)⟩

theorem WkAt.cells {w : World} {b : Nat} {vc : Value} {code : List Ins} {x : Wk} (h : WkAt w b vc code x) :
    w.cell? ⟨b, 0, none⟩ = some vc ∧ w.cell? ⟨b, 1, none⟩ = some (.int .i64 x.place) ∧ w.cell? ⟨b, 2, none⟩ = some (.int .i64 (x.r 0)) ∧ w.cell? ⟨b, 3, none⟩ = some (.int .i64 (x.r 1)) ∧ w.cell? ⟨b, 4, none⟩ = some (.int .i64 (x.r 2)) ∧ w.cell? ⟨b, 5, none⟩ = some (.int .i64 (x.r 3)) ∧ w.cell? ⟨b, 6, none⟩ = some (.int .i64 x.steps) ∧
      (∀ i, w.frozen? ⟨b, i, none⟩ = false) :=
  ⟨row_cell h.blk rfl, row_cell h.blk rfl, row_cell h.blk rfl, row_cell h.blk rfl, row_cell h.blk rfl, row_cell h.blk rfl, row_cell h.blk rfl, fun i => row_frozen h.blk i⟩

theorem WkAt.stays {w w' : World} {b : Nat} {vc : Value} {code : List Ins} {x : Wk} (h : WkAt w b vc code x) (hk : ∀ y, y = b ∨ vc.ownBlock = some y → w'.heap[y]? = w.heap[y]?) : WkAt w' b vc code x :=
  ⟨by rw [hk b (Or.inl rfl)]; exact h.blk, own_of_block h.own fun g hg => hk g (Or.inr hg), h.le, h.small⟩

theorem WkAt.ne_own {w : World} {b : Nat} {vc : Value} {code : List Ins} {x : Wk} (h : WkAt w b vc code x) {g : Nat} (hg : vc.ownBlock = some g) : g ≠ b := by
  obtain ⟨cur, hc⟩ := own_block h.own hg
  exact ne_of_types hc h.blk (by decide)

/-- The streams that a worker goes along: a slice of pointers. -/
structure Along (w : World) (v : Value) (st : Nat → Nat) (n : Nat) : Prop where
  form : ∃ g cap, v = .slice (some ⟨g, 0, none⟩) n cap ∧ ∃ cs : List Value, w.heap[g]? = some (.cells cs.toArray 70 (0, 0)) ∧ ∀ i, i < n → cs[i]? = some (.pointer (some ⟨st i, 0, none⟩))
  small : n ≤ 8

end Go.Proofs.YthfdgdfnflilfaaGreatDoor
/- Package workers: State. -/
namespace Go.Proofs.YthfdgdfnflilfaaGreatDoor
open Go.RowKit Go.Conc

/-- The streams of a net, as a worker meets them. -/
structure Env (w : World) (va : Value) (n : Nat) (st : Nat → Nat) (VW : Nat → Value) (CH : Nat → Option Nat) (SRC : Nat → Bool) (M : Nat → Sm) : Prop where
  along : Along w va st n
  at' : ∀ s, s < n → StAt w (st s) (VW s) (CH s) (SRC s) (M s)

/-- What a program asks of the streams. -/
structure CodeOk (code : List Ins) (n : Nat) (CH : Nat → Option Nat) (SRC : Nat → Bool) : Prop where
  ins : ∀ i ∈ code, opsValid i code.length n = true
  rd : ∀ i ∈ code, i.op = 1 → SRC i.b.toNat = true ∨ CH i.b.toNat ≠ none
  wr : ∀ i ∈ code, i.op = 2 → SRC i.b.toNat = false

def stateL (code : List Ins) (x : Wk) (CH : Nat → Option Nat) (SRC : Nat → Bool) (M : Nat → Sm) : Nat :=
  match code[x.place]? with
  | none => 4
  | some i =>
    if i.op = 1 ∧ SRC i.b.toNat = false ∧ (M i.b.toNat).read = (M i.b.toNat).words.length then 2
    else if i.op = 2 ∧ (CH i.b.toNat).isSome = true ∧ (M i.b.toNat).room ≤ (M i.b.toNat).words.length - (M i.b.toNat).read then 3
    else 1

theorem Env.below {w w' : World} {va : Value} {n : Nat} {st : Nat → Nat} {VW : Nat → Value} {CH : Nat → Option Nat} {SRC : Nat → Bool} {M : Nat → Sm} (h : Env w va n st VW CH SRC M) (hb : Below w.heap.size w w') : Env w' va n st VW CH SRC M := by
  obtain ⟨⟨g, cap, hv, cs, hg, hcs⟩, hsm⟩ := h.along
  exact ⟨⟨⟨g, cap, hv, cs, by rw [hb.block g (lt_of_blk hg)]; exact hg, hcs⟩, hsm⟩, fun s hs => (h.at' s hs).below hb⟩
theorem WkAt.below {w w' : World} {b : Nat} {vc : Value} {code : List Ins} {x : Wk} (h : WkAt w b vc code x) (hb : Below w.heap.size w w') : WkAt w' b vc code x := by
  refine h.stays fun y hy => hb.block y ?_
  rcases hy with rfl | hy
  · exact lt_of_blk h.blk
  · obtain ⟨cur, hc⟩ := own_block h.own hy; exact lt_of_blk hc

theorem valid_op {i : Ins} {c s : Int} (h : opsValid i c s = true) : 1 ≤ i.op ∧ i.op ≤ 9 := by
  simp only [opsValid, Bool.and_eq_true, decide_eq_true_eq] at h
  exact ⟨h.1.1.1.1, h.1.1.1.2⟩
theorem valid_reg {i : Ins} {c s : Int} (h : opsValid i c s = true) (ho : i.op ≠ 9) : 0 ≤ i.a ∧ i.a < 4 := by
  have hv := valid_op h
  simp only [opsValid, Bool.and_eq_true, decide_eq_true_eq] at h
  have h1 := h.1.1.2
  simp only [fitsB, k1, if_neg ho, if_true, inB, Bool.and_eq_true, decide_eq_true_eq] at h1
  exact h1
theorem valid_stream {i : Ins} {c s : Int} (h : opsValid i c s = true) (ho : i.op = 1 ∨ i.op = 2) : 0 ≤ i.b ∧ i.b < s := by
  simp only [opsValid, Bool.and_eq_true, decide_eq_true_eq] at h
  have h1 := h.1.2
  simp only [fitsB, k2, if_pos ho] at h1
  simpa [inB] using h1
theorem valid_alu {i : Ins} {c s : Int} (h : opsValid i c s = true) (ho : i.op = 4 ∨ i.op = 5 ∨ i.op = 6 ∨ i.op = 7) : (0 ≤ i.b ∧ i.b < 4) ∧ (0 ≤ i.c ∧ i.c < 4) := by
  simp only [opsValid, Bool.and_eq_true, decide_eq_true_eq] at h
  have h1 := h.1.2
  have h2 := h.2
  rcases ho with e | e | e | e <;> simp [fitsB, k2, k3, e, inB] at h1 h2 <;> exact ⟨h1, h2⟩
theorem valid_place {i : Ins} {c s : Int} (h : opsValid i c s = true) (ho : i.op = 1 ∨ i.op = 8 ∨ i.op = 9) : 0 ≤ i.c ∧ i.c ≤ c := by
  simp only [opsValid, Bool.and_eq_true, decide_eq_true_eq] at h
  have h2 := h.2
  rcases ho with e | e | e <;> simp [fitsB, k3, e] at h2 <;> exact h2

theorem along_at {w : World} {va : Value} {st : Nat → Nat} {n : Nat} (h : Along w va st n) : ∃ g cap, va = .slice (some ⟨g, 0, none⟩) n cap ∧ g < w.heap.size ∧ ∀ wr, Below w.heap.size w wr → ∀ s, s < n → wr.cell? ⟨g, s, none⟩ = some (.pointer (some ⟨st s, 0, none⟩)) := by
  obtain ⟨⟨g, cap, hv, cs, hg, hcs⟩, -⟩ := h
  refine ⟨g, cap, hv, lt_of_blk hg, fun wr hb s hs => ?_⟩
  rw [hb.cell (p := ⟨g, s, none⟩) (lt_of_blk hg)]
  exact row_cell hg (hcs s hs)

set_option maxRecDepth 100000 in
set_option maxHeartbeats 2000000 in
theorem wstate_calls {w : World} {b : Nat} {vc va : Value} {code : List Ins} {x : Wk} {n : Nat} {st : Nat → Nat} {VW : Nat → Value} {CH : Nat → Option Nat} {SRC : Nat → Bool} {M : Nat → Sm}
    (hw : WkAt w b vc code x) (he : Env w va n st VW CH SRC M) (hc : CodeOk code n CH SRC) :
    Calls Tryz.prog 87 #[.pointer (some ⟨b, 0, none⟩), va] w fun e w' => e = .returned (.int .i64 (stateL code x CH SRC M)) ∧ Below w.heap.size w w' := by
  obtain ⟨c0, c1, c2, c3, c4, c5, c6, cf⟩ := hw.cells
  obtain ⟨a, cap, rfl, hcap, hcode⟩ := code_form hw.own
  have hle := hw.le
  have hsm := hw.small
  clear cf c2 c3 c4 c5 c6
  by_cases hlt : x.place < code.length
  · obtain ⟨g, rfl, d0, d1, d2, d3⟩ := hcode x.place hlt
    have hmem : code[x.place] ∈ code := List.getElem_mem hlt
    have hok := hc.ins _ hmem
    have hrd := hc.rd _ hmem
    have hwr := hc.wr _ hmem
    have HV : Hid (stateL code x CH SRC M = (if code[x.place].op = 1 ∧ SRC code[x.place].b.toNat = false ∧ (M code[x.place].b.toNat).read = (M code[x.place].b.toNat).words.length then 2
      else if code[x.place].op = 2 ∧ (CH code[x.place].b.toNat).isSome = true ∧ (M code[x.place].b.toNat).room ≤ (M code[x.place].b.toNat).words.length - (M code[x.place].b.toNat).read then 3
      else 1)) := by unfold Hid; simp [stateL, List.getElem?_eq_getElem hlt]
    have HE := hide he
    obtain ⟨ga, gcap, rfl, hgl, hal⟩ := along_at he.along
    have HAL := hide hal
    clear hcode hmem hc hw hal he
    generalize code[x.place] = ins at *
    obtain ⟨op, ia, ib, ic⟩ := ins
    dsimp only at *
    have hop := valid_op hok
    have hst := valid_stream hok
    dsimp only at hop hst
    have hd0 : decide ((code.length : Int) ≤ (x.place : Int)) = false := by simp; omega
    have hp0 : (0 : Int) ≤ (x.place : Int) := by omega
    have hp1 : (x.place : Int) < (code.length : Int) := by omega
    by_cases o1 : op = 1
    · subst o1
      obtain ⟨hb0, hb1⟩ := hst (Or.inl rfl)
      obtain ⟨kb, rfl⟩ := Int.eq_ofNat_of_zero_le hb0
      have hkb : kb < n := by omega
      simp only [Int.toNat_natCast] at HV hrd hwr
      have hrd := hrd (by trivial)
      clear hwr hst hok
      go_enter Tryz.func87, Tryz.ntmps87
      go_wp2
      go_quiet (fail)
      go_wp2
      obtain ⟨w1, hw1⟩ : ∃ w1, w1 = w.drewN nq := ⟨_, rfl⟩
      rw [← hw1]
      have hcell : ∀ p, w1.cell? p = w.cell? p := fun p => by rw [hw1]; rfl
      rw [← hcell] at c0 c1 d0 d1 d2 d3
      clear hcell
      have hbl : Below w.heap.size w w1 := by rw [hw1]; exact below_drewN (Below.refl _ _) _
      clear hw1
      have n0 := World.new_ne w1 _ c0
      have n1 := World.new_ne w1 _ c1
      have n2 := World.new_ne w1 _ d0
      have n3 := World.new_ne w1 _ d1
      have n4 := World.new_ne w1 _ d2
      have n5 := World.new_ne w1 _ d3
      go_region_held3 (fun w' => w'.cell? ⟨b, 0, none⟩ = some (.slice (some ⟨g, 0, none⟩) code.length cap) ∧ w'.cell? ⟨b, 1, none⟩ = some (.int .i64 x.place) ∧ w'.cell? ⟨g, x.place * 4, none⟩ = some (.int .i64 1) ∧ w'.cell? ⟨g, x.place * 4 + 1, none⟩ = some (.int .i64 ia) ∧ w'.cell? ⟨g, x.place * 4 + 2, none⟩ = some (.int .i64 kb) ∧ w'.cell? ⟨g, x.place * 4 + 3, none⟩ = some (.int .i64 ic)) (go_keep) (fail)
      have HBL : Hid (Below w.heap.size w (w1.alloc (.cells #[.int .i64 1, .int .i64 ia, .int .i64 kb, .int .i64 ic] 44)).drew) := (hbl.alloc hbl.size _).drew
      have a0 : (w1.alloc (.cells #[.int .i64 1, .int .i64 ia, .int .i64 kb, .int .i64 ic] 44)).drew.cell? ⟨w1.heap.size, 0, none⟩ = some (.int .i64 1) := by simp [go_sem]
      have a2 : (w1.alloc (.cells #[.int .i64 1, .int .i64 ia, .int .i64 kb, .int .i64 ic] 44)).drew.cell? ⟨w1.heap.size, 2, none⟩ = some (.int .i64 kb) := by simp [go_sem]
      generalize (w1.alloc (.cells #[.int .i64 1, .int .i64 ia, .int .i64 kb, .int .i64 ic] 44)).drew = w2 at *
      have da := HAL.out w2 HBL.out kb hkb
      clear c0 c1 d0 d1 d2 d3
      go_wp2_with fail
      refine (waiting_calls (((unhide HE).at' kb hkb).below HBL.out) hrd).mono ?_
      rintro e w3 ⟨rfl, rfl⟩
      generalize hy : (!SRC kb && ((M kb).read == (M kb).words.length)) = y
      have HY := hide hy
      clear hy
      cases y
      · have F : Hid (stateL code x CH SRC M = 1) := by
          have h1 := HY.out
          have hne : ¬ (SRC kb = false ∧ (M kb).read = (M kb).words.length) := by
            rintro ⟨e1, e2⟩; rw [e1, e2] at h1; simp at h1
          unfold Hid; rw [HV.out, if_neg (fun e => hne e.2), if_neg (fun e => by cases e.1)]
        go_wp2
        go_ret
        exact ⟨ret_int (by rw [F.out]; rfl), by repeat (first | exact HBL.out | apply Below.drew | apply below_drewN)⟩
      · have F : Hid (stateL code x CH SRC M = 2) := by
          have h1 := HY.out
          simp only [Bool.and_eq_true, Bool.not_eq_true', beq_iff_eq] at h1
          unfold Hid; rw [HV.out, if_pos ⟨by trivial, h1.1, h1.2⟩]
        go_wp2
        go_ret
        exact ⟨ret_int (by rw [F.out]; rfl), by repeat (first | exact HBL.out | apply Below.drew | apply below_drewN)⟩
    by_cases o2 : op = 2
    · subst o2
      obtain ⟨hb0, hb1⟩ := hst (Or.inr rfl)
      obtain ⟨kb, rfl⟩ := Int.eq_ofNat_of_zero_le hb0
      have hkb : kb < n := by omega
      simp only [Int.toNat_natCast] at HV hrd hwr
      clear hwr hst hok hrd
      go_enter Tryz.func87, Tryz.ntmps87
      go_wp2
      go_quiet (fail)
      go_wp2
      obtain ⟨w1, hw1⟩ : ∃ w1, w1 = w.drewN nq := ⟨_, rfl⟩
      rw [← hw1]
      have hcell : ∀ p, w1.cell? p = w.cell? p := fun p => by rw [hw1]; rfl
      rw [← hcell] at c0 c1 d0 d1 d2 d3
      clear hcell
      have hbl : Below w.heap.size w w1 := by rw [hw1]; exact below_drewN (Below.refl _ _) _
      clear hw1
      have n0 := World.new_ne w1 _ c0
      have n1 := World.new_ne w1 _ c1
      have n2 := World.new_ne w1 _ d0
      have n3 := World.new_ne w1 _ d1
      have n4 := World.new_ne w1 _ d2
      have n5 := World.new_ne w1 _ d3
      go_region_held3 (fun w' => w'.cell? ⟨b, 0, none⟩ = some (.slice (some ⟨g, 0, none⟩) code.length cap) ∧ w'.cell? ⟨b, 1, none⟩ = some (.int .i64 x.place) ∧ w'.cell? ⟨g, x.place * 4, none⟩ = some (.int .i64 2) ∧ w'.cell? ⟨g, x.place * 4 + 1, none⟩ = some (.int .i64 ia) ∧ w'.cell? ⟨g, x.place * 4 + 2, none⟩ = some (.int .i64 kb) ∧ w'.cell? ⟨g, x.place * 4 + 3, none⟩ = some (.int .i64 ic)) (go_keep) (fail)
      have HBL : Hid (Below w.heap.size w (w1.alloc (.cells #[.int .i64 2, .int .i64 ia, .int .i64 kb, .int .i64 ic] 44)).drew) := (hbl.alloc hbl.size _).drew
      have a0 : (w1.alloc (.cells #[.int .i64 2, .int .i64 ia, .int .i64 kb, .int .i64 ic] 44)).drew.cell? ⟨w1.heap.size, 0, none⟩ = some (.int .i64 2) := by simp [go_sem]
      have a2 : (w1.alloc (.cells #[.int .i64 2, .int .i64 ia, .int .i64 kb, .int .i64 ic] 44)).drew.cell? ⟨w1.heap.size, 2, none⟩ = some (.int .i64 kb) := by simp [go_sem]
      generalize (w1.alloc (.cells #[.int .i64 2, .int .i64 ia, .int .i64 kb, .int .i64 ic] 44)).drew = w2 at *
      have da := HAL.out w2 HBL.out kb hkb
      clear c0 c1 d0 d1 d2 d3
      go_wp2_with fail
      refine (full_calls (((unhide HE).at' kb hkb).below HBL.out)).mono ?_
      rintro e w3 ⟨rfl, q, rfl⟩
      generalize hy : ((CH kb).isSome && decide ((M kb).room ≤ (M kb).words.length - (M kb).read)) = y
      have HY := hide hy
      clear hy
      cases y
      · have F : Hid (stateL code x CH SRC M = 1) := by
          have h1 := HY.out
          have hne : ¬ ((CH kb).isSome = true ∧ (M kb).room ≤ (M kb).words.length - (M kb).read) := by
            rintro ⟨e1, e2⟩; rw [e1, decide_eq_true e2] at h1; cases h1
          unfold Hid; rw [HV.out, if_neg (fun e => by cases e.1), if_neg (fun e => hne e.2)]
        go_wp2
        go_ret
        exact ⟨ret_int (by rw [F.out]; rfl), by repeat (first | exact HBL.out | apply Below.drew | apply below_drewN)⟩
      · have F : Hid (stateL code x CH SRC M = 3) := by
          have h1 := HY.out
          simp only [Bool.and_eq_true, decide_eq_true_eq] at h1
          unfold Hid; rw [HV.out, if_neg (fun e => by cases e.1), if_pos ⟨by trivial, h1.1, h1.2⟩]
        go_wp2
        go_ret
        exact ⟨ret_int (by rw [F.out]; rfl), by repeat (first | exact HBL.out | apply Below.drew | apply below_drewN)⟩
    have b1 : (op == 1) = false := by simpa using o1
    have b2 : (op == 2) = false := by simpa using o2
    have F : Hid (stateL code x CH SRC M = 1) := by unfold Hid; rw [HV.out, if_neg (fun e => o1 e.1), if_neg (fun e => o2 e.1)]
    go_enter Tryz.func87, Tryz.ntmps87
    go_wp2
    go_quiet (fail)
    go_wp2
    obtain ⟨w1, hw1⟩ : ∃ w1, w1 = w.drewN nq := ⟨_, rfl⟩
    rw [← hw1]
    have hcell : ∀ p, w1.cell? p = w.cell? p := fun p => by rw [hw1]; rfl
    rw [← hcell] at c0 c1 d0 d1 d2 d3
    clear hcell
    have hbl : Below w.heap.size w w1 := by rw [hw1]; exact below_drewN (Below.refl _ _) _
    clear hw1
    have n0 := World.new_ne w1 _ c0
    have n1 := World.new_ne w1 _ c1
    have n2 := World.new_ne w1 _ d0
    have n3 := World.new_ne w1 _ d1
    have n4 := World.new_ne w1 _ d2
    have n5 := World.new_ne w1 _ d3
    go_region_held3 (fun w' => w'.cell? ⟨b, 0, none⟩ = some (.slice (some ⟨g, 0, none⟩) code.length cap) ∧ w'.cell? ⟨b, 1, none⟩ = some (.int .i64 x.place) ∧ w'.cell? ⟨g, x.place * 4, none⟩ = some (.int .i64 op) ∧ w'.cell? ⟨g, x.place * 4 + 1, none⟩ = some (.int .i64 ia) ∧ w'.cell? ⟨g, x.place * 4 + 2, none⟩ = some (.int .i64 ib) ∧ w'.cell? ⟨g, x.place * 4 + 3, none⟩ = some (.int .i64 ic)) (go_keep) (fail)
    have HBL : Hid (Below w.heap.size w (w1.alloc (.cells #[.int .i64 op, .int .i64 ia, .int .i64 ib, .int .i64 ic] 44))) := hbl.alloc hbl.size _
    go_wp2
    go_ret
    exact ⟨ret_int (by rw [F.out]; rfl), by repeat (first | exact HBL.out | apply Below.drew | apply below_drewN)⟩
  · have F : Hid (stateL code x CH SRC M = 4) := by unfold Hid; simp only [stateL]; rw [List.getElem?_eq_none (by omega)]
    have hd0 : decide ((code.length : Int) ≤ (x.place : Int)) = true := by simp; omega
    clear hcode
    go_enter Tryz.func87, Tryz.ntmps87
    go_wp2
    go_quiet (fail)
    go_wp2
    go_ret
    exact ⟨ret_int (by rw [F.out]; rfl), below_drewN (Below.refl _ _) _⟩

end Go.Proofs.YthfdgdfnflilfaaGreatDoor
/- Package workers: Look, NeedsRoom; jumps forward. -/
namespace Go.Proofs.YthfdgdfnflilfaaGreatDoor
open Go.RowKit Go.Conc

/-- A scope that is left by at most n jumps ahead. -/
def jumpQ (P : Program) (c : Code) (Q : Exit → Act → World → Prop) : Nat → Exit → Act → World → Prop
  | 0, e, a, w => match e with
    | .goto _ => False
    | e => Q e a w
  | n + 1, e, a, w => match e with
    | .goto l => ∃ rest, findLabel c l = some rest ∧ rest.wp P (jumpQ P c Q n) a w
    | e => Q e a w

theorem jumpQ_of_ne {P : Program} {c : Code} {Q : Exit → Act → World → Prop} {n : Nat} {e : Exit} {a : Act} {w : World} (he : ∀ l, e ≠ .goto l) (h : jumpQ P c Q n e a w) : Q e a w := by
  cases n <;> cases e <;> first | exact h | exact absurd rfl (he _)

theorem jumpQ_ret {P : Program} {c : Code} {Q : Exit → Act → World → Prop} {n : Nat} {a : Act} {w : World} (h : Q .ret a w) : jumpQ P c Q n .ret a w := by
  cases n <;> exact h

theorem scope_key {P : Program} {c : Code} {Q : Exit → Act → World → Prop} (b : Frame) (k : List Item) (cs : List Frame) : ∀ n (x : Code) (a : Act) (w : World), x.wp P (jumpQ P c Q n) a w →
    ∃ e a' w', Q e a' w' ∧ Arrives P (lone (b.at a (.code x :: .inScope c :: k)) cs w) b k cs e a' w'
  | 0, x, a, w, h => by
    obtain ⟨e, a1, w1, hq, harr⟩ := h b (.inScope c :: k) cs
    cases e with
    | normal => exact ⟨.normal, a1, w1, hq, Steps.trans harr (.one step_inScope)⟩
    | exit id => exact ⟨.exit id, a1, w1, hq, fun k' hk => harr k' (by simp [exitTo, hk])⟩
    | goto l => exact hq.elim
    | ret => exact ⟨_, a1, w1, hq, harr⟩
    | panic ch => exact ⟨_, a1, w1, hq, harr⟩
    | outgrown => exact ⟨_, a1, w1, hq, harr⟩
  | n + 1, x, a, w, h => by
    obtain ⟨e, a1, w1, hq, harr⟩ := h b (.inScope c :: k) cs
    cases e with
    | normal => exact ⟨.normal, a1, w1, hq, Steps.trans harr (.one step_inScope)⟩
    | exit id => exact ⟨.exit id, a1, w1, hq, fun k' hk => harr k' (by simp [exitTo, hk])⟩
    | goto l =>
      obtain ⟨rest, hf, hr⟩ := hq
      obtain ⟨e2, a2, w2, hq2, harr2⟩ := scope_key b k cs n rest a1 w1 hr
      exact ⟨e2, a2, w2, hq2, .of_steps (harr _ (by simp [gotoIn, hf])) harr2⟩
    | ret => exact ⟨_, a1, w1, hq, harr⟩
    | panic ch => exact ⟨_, a1, w1, hq, harr⟩
    | outgrown => exact ⟨_, a1, w1, hq, harr⟩

theorem wp_scope_ahead {P : Program} {c : Code} {Q : Exit → Act → World → Prop} {a : Act} {w : World} (n : Nat) (h : c.wp P (jumpQ P c Q n) a w) : (Code.scope c).wp P Q a w := by
  intro b k cs
  obtain ⟨e, a1, w1, hq, harr⟩ := scope_key b k cs n c a w h
  exact ⟨e, a1, w1, hq, .of_steps (.one step_scope) harr⟩

set_option maxRecDepth 100000 in
set_option maxHeartbeats 2000000 in
theorem needsRoom_calls {w : World} {b : Nat} {vc va : Value} {code : List Ins} {x : Wk} {n : Nat} {st : Nat → Nat} {VW : Nat → Value} {CH : Nat → Option Nat} {SRC : Nat → Bool} {M : Nat → Sm}
    (hw : WkAt w b vc code x) (he : Env w va n st VW CH SRC M) (hc : CodeOk code n CH SRC) :
    Calls Tryz.prog 95 #[.pointer (some ⟨b, 0, none⟩), va] w fun e w' =>
      ((stateL code x CH SRC M = 3 ∧ ∃ i, code[x.place]? = some i ∧ e = .returned (.tuple #[.int .i64 i.b, .bool true])) ∨ (stateL code x CH SRC M ≠ 3 ∧ e = .returned (.tuple #[.int .i64 0, .bool false]))) ∧ Below w.heap.size w w' := by
  have HS := hide (wstate_calls hw he hc)
  by_cases h3 : stateL code x CH SRC M = 3
  · have hlt : x.place < code.length := by
      rcases Nat.lt_or_ge x.place code.length with h | h
      · exact h
      · simp only [stateL] at h3; rw [List.getElem?_eq_none h] at h3; cases h3
    obtain ⟨a, cap, hvc, hcap, hcode⟩ := code_form hw.own
    have hwb : ∀ wx, Below w.heap.size w wx → wx.cell? ⟨b, 0, none⟩ = some vc ∧ wx.cell? ⟨b, 1, none⟩ = some (.int .i64 x.place) := fun wx hx => ⟨(hw.below hx).cells.1, (hw.below hx).cells.2.1⟩
    obtain ⟨g, ha, d0, d1, d2, d3⟩ := hcode x.place hlt
    have HW := hide hwb
    have HD : Hid (∀ wx, Below w.heap.size w wx → wx.cell? ⟨g, x.place * 4 + 2, none⟩ = some (.int .i64 code[x.place].b)) := fun wx hx => (hx.cell (p := ⟨g, _, none⟩) (lt_of_cell d2)).trans d2
    have HI : Hid (code[x.place]? = some code[x.place]) := List.getElem?_eq_getElem hlt
    have hsm := hw.small
    have H3 := hide h3
    rw [h3] at HS
    have hp0 : (0 : Int) ≤ (x.place : Int) := by omega
    have hp1 : (x.place : Int) < (code.length : Int) := by omega
    obtain ⟨ga, gcap, rfl, -, -⟩ := along_at he.along
    subst ha
    subst hvc
    generalize code[x.place] = ins at *
    obtain ⟨op, ia, ib, ic⟩ := ins
    dsimp only at *
    clear hcode d0 d1 d2 d3 hwb h3 hw he hc hlt
    go_enter Tryz.func95, Tryz.ntmps95
    go_wp2_with fail
    refine (unhide HS).mono ?_
    rintro e w1 ⟨rfl, hb1⟩
    obtain ⟨c0, c1⟩ := HW.out w1 hb1
    have d2 := HD.out w1 hb1
    go_wp2
    go_quiet (fail)
    go_wp2
    go_ret2
    exact ⟨Or.inl ⟨H3.out, _, HI.out, rfl⟩, below_drewN hb1 _⟩
  · have H3 := hide h3
    have hbb : ((stateL code x CH SRC M : Int) != 3) = true := by simp; omega
    generalize stateL code x CH SRC M = s at *
    obtain ⟨ga, gcap, rfl, -, -⟩ := along_at he.along
    clear hw he hc
    go_enter Tryz.func95, Tryz.ntmps95
    go_wp2_with fail
    refine (unhide HS).mono ?_
    rintro e w1 ⟨rfl, hb1⟩
    go_wp2
    go_ret2
    exact ⟨Or.inr ⟨H3.out, rfl⟩, hb1⟩

end Go.Proofs.YthfdgdfnflilfaaGreatDoor

/- Part 2: Ops, Nets1, Model1. -/
import Derived.Test.YthfdgdfnflilfaaPart1
/- Package ops, and the document's answer to 'is it an instruction?'. -/
namespace Go.Proofs.Ythfdgdfnflilfaa
open Go.RowKit

/-! ### millraceref.in, ins -/
def inB (v n : Int) : Bool := decide (0 ≤ v) && decide (v < n)

theorem in_calls (v n : Int) (w : World) :
    Calls Try.prog 56 #[.int .i64 v, .int .i64 n] w fun e w' => e = .returned (.bool (inB v n)) ∧ w' = w := by
  by_cases h0 : 0 ≤ v
  · by_cases h1 : v < n
    · go_enter Try.func56, Try.ntmps56
      go_wp2
      go_ret
      exact ⟨by simp [inB, h0, h1], rfl⟩
    · go_enter Try.func56, Try.ntmps56
      go_wp2
      go_ret
      exact ⟨by simp [inB, h0, h1], rfl⟩
  · have h0' : decide (0 ≤ v) = false := by simpa using h0
    go_enter Try.func56, Try.ntmps56
    go_wp2
    go_ret
    exact ⟨by simp [inB]; omega, rfl⟩

/-! ### ops.operands, fits, Valid -/
def k1 (op : Int) : Int := if op = 9 then 0 else 1
def k2 (op : Int) : Int := if op = 1 ∨ op = 2 then 2 else if op = 3 ∨ op = 8 ∨ op = 9 then 0 else 1
def k3 (op : Int) : Int := if op = 1 ∨ op = 8 ∨ op = 9 then 3 else if op = 2 then 0 else if op = 3 then 4 else 1

set_option maxHeartbeats 1000000 in
theorem operands_calls (op : Int) (w : World) (h1 : 1 ≤ op) (h9 : op ≤ 9) :
    Calls Try.prog 68 #[.int .i64 op] w fun e w' => e = .returned (.tuple #[.int .i64 (k1 op), .int .i64 (k2 op), .int .i64 (k3 op)]) ∧ w' = w := by
  rcases (show op = 1 ∨ op = 2 ∨ op = 3 ∨ op = 4 ∨ op = 5 ∨ op = 6 ∨ op = 7 ∨ op = 8 ∨ op = 9 by omega) with rfl | rfl | rfl | rfl | rfl | rfl | rfl | rfl | rfl
  all_goals
    go_enter Try.func68, Try.ntmps68
    go_wp2
    go_ret3
    exact ⟨by simp [k1, k2, k3], rfl⟩

def fitsB (v o code streams : Int) : Bool :=
  if o = 1 then inB v 4 else if o = 2 then inB v streams else if o = 3 then decide (0 ≤ v) && decide (v ≤ code) else if o = 4 then true else v == 0

set_option maxHeartbeats 1000000 in
theorem fits_calls (v o code streams : Int) (w : World) (h0 : 0 ≤ o) (h4 : o ≤ 4) :
    Calls Try.prog 69 #[.int .i64 v, .int .i64 o, .int .i64 code, .int .i64 streams] w fun e w' => e = .returned (.bool (fitsB v o code streams)) ∧ w' = w := by
  rcases (show o = 0 ∨ o = 4 ∨ o = 1 ∨ o = 2 ∨ o = 3 by omega) with rfl | rfl | rfl | rfl | rfl
  · go_enter Try.func69, Try.ntmps69
    go_wp2
    go_ret
    exact ⟨by simp [fitsB], rfl⟩
  · go_enter Try.func69, Try.ntmps69
    go_wp2
    go_ret
    exact ⟨by simp [fitsB], rfl⟩
  all_goals
    by_cases hv : 0 ≤ v
    · go_enter Try.func69, Try.ntmps69
      go_wp2
      go_ret
      exact ⟨by simp [fitsB, inB, hv], rfl⟩
    · have hv' : decide (0 ≤ v) = false := by simpa using hv
      go_enter Try.func69, Try.ntmps69
      go_wp2
      go_ret
      exact ⟨by simp [fitsB, inB]; omega, rfl⟩

theorem k1_bd (op : Int) : 0 ≤ k1 op ∧ k1 op ≤ 4 := by unfold k1; split <;> omega
theorem k2_bd (op : Int) : 0 ≤ k2 op ∧ k2 op ≤ 4 := by unfold k2; split <;> (try split) <;> omega
theorem k3_bd (op : Int) : 0 ≤ k3 op ∧ k3 op ≤ 4 := by unfold k3; split <;> (try split) <;> (try split) <;> omega

def opsValid (i : Ins) (code streams : Int) : Bool :=
  decide (1 ≤ i.op) && decide (i.op ≤ 9) && fitsB i.a (k1 i.op) code streams && fitsB i.b (k2 i.op) code streams && fitsB i.c (k3 i.op) code streams

set_option maxHeartbeats 1000000 in
theorem opsValid_calls (op a b c code streams : Int) (w : World) :
    Calls Try.prog 66 #[.agg #[.int .i64 op, .int .i64 a, .int .i64 b, .int .i64 c], .int .i64 code, .int .i64 streams] w fun e w' => e = .returned (.bool (opsValid ⟨op, a, b, c⟩ code streams)) ∧ Below w.heap.size w w' := by
  by_cases h1 : op < 1
  · go_enter Try.func66, Try.ntmps66
    go_wp2
    go_ret
    exact ⟨by have : ¬ 1 ≤ op := by omega
              simp [opsValid, this], (Below.refl _ _).alloc (Nat.le_refl _) _⟩
  by_cases h9 : 9 < op
  · have h1' : decide (op < 1) = false := by simpa using h1
    go_enter Try.func66, Try.ntmps66
    go_wp2
    go_ret
    exact ⟨by have : ¬ op ≤ 9 := by omega
              simp [opsValid, this], (Below.refl _ _).alloc (Nat.le_refl _) _⟩
  have h1' : decide (op < 1) = false := by simpa using h1
  have g1 : 1 ≤ op := by omega
  have g9 : op ≤ 9 := by omega
  have b1 := k1_bd op
  have b2 := k2_bd op
  have b3 := k3_bd op
  generalize e1 : k1 op = x1 at *
  generalize e2 : k2 op = x2 at *
  generalize e3 : k3 op = x3 at *
  have E : Hid (k1 op = x1 ∧ k2 op = x2 ∧ k3 op = x3) := ⟨e1, e2, e3⟩
  have HO : Hid (∀ w : World, Calls Try.prog 68 #[.int .i64 op] w fun e w' => e = .returned (.tuple #[.int .i64 x1, .int .i64 x2, .int .i64 x3]) ∧ w' = w) := by
    intro w; have := operands_calls op w g1 g9; rw [e1, e2, e3] at this; exact this
  have HV : Hid (opsValid ⟨op, a, b, c⟩ code streams = (fitsB a x1 code streams && fitsB b x2 code streams && fitsB c x3 code streams)) := by
    unfold Hid; simp [opsValid, g1, g9, e1, e2, e3]
  clear e1 e2 e3
  generalize f1 : fitsB a x1 code streams = y1 at *
  generalize f2 : fitsB b x2 code streams = y2 at *
  generalize f3 : fitsB c x3 code streams = y3 at *
  have H1 : Hid (∀ w : World, Calls Try.prog 69 #[.int .i64 a, .int .i64 x1, .int .i64 code, .int .i64 streams] w fun e w' => e = .returned (.bool y1) ∧ w' = w) := by
    intro w; have := fits_calls a x1 code streams w b1.1 b1.2; rw [f1] at this; exact this
  have H2 : Hid (∀ w : World, Calls Try.prog 69 #[.int .i64 b, .int .i64 x2, .int .i64 code, .int .i64 streams] w fun e w' => e = .returned (.bool y2) ∧ w' = w) := by
    intro w; have := fits_calls b x2 code streams w b2.1 b2.2; rw [f2] at this; exact this
  have H3 : Hid (∀ w : World, Calls Try.prog 69 #[.int .i64 c, .int .i64 x3, .int .i64 code, .int .i64 streams] w fun e w' => e = .returned (.bool y3) ∧ w' = w) := by
    intro w; have := fits_calls c x3 code streams w b3.1 b3.2; rw [f3] at this; exact this
  clear f1 f2 f3 b1 b2 b3 E
  go_enter Try.func66, Try.ntmps66
  go_wp2_with fail
  refine (unhide HO _).mono ?_
  rintro e w' ⟨rfl, rfl⟩
  go_wp2_with fail
  refine (unhide H1 _).mono ?_
  rintro e w' ⟨rfl, rfl⟩
  cases y1
  · go_wp2
    go_ret
    exact ⟨by rw [HV.out]; simp, (Below.refl _ _).alloc (Nat.le_refl _) _⟩
  go_wp2_with fail
  refine (unhide H2 _).mono ?_
  rintro e w' ⟨rfl, rfl⟩
  cases y2
  · go_wp2
    go_ret
    exact ⟨by rw [HV.out]; simp, (Below.refl _ _).alloc (Nat.le_refl _) _⟩
  go_wp2_with fail
  refine (unhide H3 _).mono ?_
  rintro e w' ⟨rfl, rfl⟩
  go_wp2
  go_ret
  exact ⟨by rw [HV.out]; simp, (Below.refl _ _).alloc (Nat.le_refl _) _⟩

end Go.Proofs.Ythfdgdfnflilfaa
/- Package nets: uses, users, hasSource, HasReader. -/
namespace Go.Proofs.Ythfdgdfnflilfaa
open Go.RowKit

def usesB (code : List Ins) (op st : Int) : Bool := code.any fun i => i.op == op && i.b == st

set_option maxHeartbeats 400000 in
theorem uses_calls {code : List Ins} {v : Value} {w : World} (op st : Int) (h : CodeAt w v code) :
    Calls Try.prog 67 #[v, .int .i64 op, .int .i64 st] w fun e w' => e = .returned (.bool (usesB code op st)) ∧ Below w.heap.size w w' := by
  obtain ⟨a, cap, rfl, hn, hcap, hc⟩ := h.open
  have HC := hide hc
  clear hc h
  go_enter Try.func67, Try.ntmps67
  go_wp2
  go_loopw [11] (fun i wr => ∃ k : Nat, k ≤ code.length ∧ i = .int .i64 k ∧ Below w.heap.size w wr ∧ usesB (code.take k) op st = false) (fun i _ => code.length - (intOf i).toNat)
  case atStart => exact ⟨0, Nat.zero_le _, rfl, Below.refl _ _, rfl⟩
  case round =>
    obtain ⟨k, hk, rfl, hbl, hno⟩ := hrel
    have HN := hide hno
    clear hno
    by_cases hlt : k < code.length
    · obtain ⟨b, off, rfl, d0, d1, d2, d3⟩ := unhide HC wr hbl k hlt
      clear HC
      have HS : Hid (usesB (code.take (k + 1)) op st = (usesB (code.take k) op st || (code[k].op == op && code[k].b == st))) := any_take_succ _ _ _ hlt
      have HH : Hid ((code[k].op == op && code[k].b == st) = true → usesB code op st = true) := any_of_getElem code (fun i => i.op == op && i.b == st) k hlt
      generalize code[k] = ins at *
      go_wp2
      all_goals first
        | (go_ret; exact ⟨ret_bool (by rw [HH.out (by simp [*])]), hbl.alloc hbl.size _⟩)
        | (go_roundw
           case rel => exact ⟨k + 1, by omega, by go_num, hbl.alloc hbl.size _, by rw [HS.out, HN.out]; simp [*]⟩
           case measure => simp [intOf]; omega)
    · go_wp2
      go_ret
      exact ⟨ret_bool (by have := HN.out; rw [List.take_of_length_le (by omega)] at this; exact this.symm), hbl⟩

def usersN (ws : List (List Ins)) (op st : Int) : Nat := ws.countP fun c => usesB c op st

set_option maxHeartbeats 400000 in
theorem users_calls {ws : List (List Ins)} {v : Value} {w : World} (op st : Int) (h : WorkersAt w v ws) :
    Calls Try.prog 61 #[v, .int .i64 op, .int .i64 st] w fun e w' => e = .returned (.int .i64 (usersN ws op st)) ∧ Below w.heap.size w w' := by
  obtain ⟨a, cap, rfl, hn, hcap, hc⟩ := h.open
  have HC := hide hc
  clear hc h
  go_enter Try.func61, Try.ntmps61
  go_wp2
  go_loopw [7, 12] (fun c i wr => ∃ k : Nat, k ≤ ws.length ∧ i = .int .i64 k ∧ Below w.heap.size w wr ∧ c = .int .i64 (usersN (ws.take k) op st)) (fun _ i _ => ws.length - (intOf i).toNat)
  case atStart => exact ⟨0, Nat.zero_le _, rfl, Below.refl _ _, rfl⟩
  case round =>
    obtain ⟨k, hk, rfl, hbl, rfl⟩ := hrel
    have hle : usersN (ws.take k) op st ≤ k := Nat.le_trans List.countP_le_length (by simp; omega)
    by_cases hlt : k < ws.length
    · obtain ⟨b, off, u, rfl, d0, hcode⟩ := unhide HC wr hbl k hlt
      clear HC
      have HS : Hid (usersN (ws.take (k + 1)) op st = usersN (ws.take k) op st + if usesB ws[k] op st then 1 else 0) := countP_take_succ _ _ _ hlt
      have HCd := hide hcode
      obtain ⟨ua, ucap, hu, -, -, -⟩ := hcode.open
      generalize usersN (ws.take k) op st = cnt at *
      generalize ws[k] = cd at *
      generalize hq : cd.length = cl at *
      have HQ := hide hq
      clear hq hcode
      subst hu
      go_wp2_with fail
      refine (uses_calls op st (unhide HCd)).mono ?_
      rintro e w1 ⟨rfl, hb1⟩
      have hbl1 := hbl.trans (hb1.mono hbl.size)
      clear hb1
      cases hy : usesB cd op st
      · rw [hy] at HS
        go_wp2
        go_roundw
        case rel => exact ⟨k + 1, by omega, by go_num, hbl1, by rw [HS.out]; simp⟩
        case measure => simp [intOf]; omega
      · rw [hy] at HS
        go_wp2
        go_roundw
        case rel => exact ⟨k + 1, by omega, by go_num, hbl1, by rw [HS.out]; simp⟩
        case measure => simp [intOf]; omega
    · go_wp2
      go_ret
      exact ⟨ret_int (by rw [List.take_of_length_le (by omega)]), hbl⟩

def hasSourceB (ss : List Src) (st : Int) : Bool := ss.any fun s => s.stream == st

set_option maxHeartbeats 400000 in
theorem hasSource_calls {ss : List Src} {v : Value} {w : World} (st : Int) (h : SourcesAt w v ss) :
    Calls Try.prog 59 #[v, .int .i64 st] w fun e w' => e = .returned (.bool (hasSourceB ss st)) ∧ Below w.heap.size w w' := by
  obtain ⟨a, cap, rfl, hn, hcap, hc⟩ := h.open
  have HC := hide hc
  clear hc h
  go_enter Try.func59, Try.ntmps59
  go_wp2
  go_loopw [9] (fun i wr => ∃ k : Nat, k ≤ ss.length ∧ i = .int .i64 k ∧ Below w.heap.size w wr ∧ hasSourceB (ss.take k) st = false) (fun i _ => ss.length - (intOf i).toNat)
  case atStart => exact ⟨0, Nat.zero_le _, rfl, Below.refl _ _, rfl⟩
  case round =>
    obtain ⟨k, hk, rfl, hbl, hno⟩ := hrel
    have HN := hide hno
    clear hno
    by_cases hlt : k < ss.length
    · obtain ⟨b, off, u, rfl, d0, d1, hu⟩ := unhide HC wr hbl k hlt
      clear HC
      have HS : Hid (hasSourceB (ss.take (k + 1)) st = (hasSourceB (ss.take k) st || (ss[k].stream == st))) := any_take_succ _ _ _ hlt
      have HH : Hid ((ss[k].stream == st) = true → hasSourceB ss st = true) := any_of_getElem ss (fun i => i.stream == st) k hlt
      obtain ⟨ua, ucap, hu, -, -, -⟩ := hu.open
      generalize ss[k] = src at *
      generalize src.words.length = sl at *
      subst hu
      go_wp2
      all_goals first
        | (go_ret; exact ⟨ret_bool (by rw [HH.out (by simp [*])]), hbl.alloc hbl.size _⟩)
        | (go_roundw
           case rel => exact ⟨k + 1, by omega, by go_num, hbl.alloc hbl.size _, by rw [HS.out, HN.out]; simp [*]⟩
           case measure => simp [intOf]; omega)
    · go_wp2
      go_ret
      exact ⟨ret_bool (by have := HN.out; rw [List.take_of_length_le (by omega)] at this; exact this.symm), hbl⟩

end Go.Proofs.Ythfdgdfnflilfaa
/- The model of a race, as the document tells it, and its invariants. No program here. -/
namespace Go.Proofs.Ythfdgdfnflilfaa
open Go.RowKit

/-- A worker: its place, its registers, how many instructions it has done (it wraps round). -/
structure Wk where
  place : Nat
  r : Nat → Int
  steps : Int

/-- A stream: all words that were ever in it (of a source: all that it has), how many were read, its room. -/
structure Sm where
  words : List Int
  read : Nat
  room : Nat

structure Rc where
  W : List Wk
  S : List Sm

def Rc.w (R : Rc) (k : Nat) : Wk := R.W.getD k ⟨0, fun _ => 0, 0⟩
def Rc.s (R : Rc) (s : Nat) : Sm := R.S.getD s ⟨[], 0, 0⟩

def upd (r : Nat → Int) (a : Nat) (v : Int) : Nat → Int := fun j => if j = a then v else r j

def alu (op b c : Int) : Int := if op = 4 then wrap64 (b + c) else if op = 5 then wrap64 (b - c) else if op = 6 then wrap64 (b * c) else if b < c then 1 else 0

/-- The worker behind an instruction; inp: the next word of the stream that it reads, if there is one. -/
def nextW (x : Wk) (i : Ins) (inp : Option Int) : Wk :=
  if i.op = 1 then
    match inp with
    | some v => ⟨x.place + 1, upd x.r i.a.toNat v, wrap64 (x.steps + 1)⟩
    | none => ⟨i.c.toNat, x.r, wrap64 (x.steps + 1)⟩
  else if i.op = 2 then ⟨x.place + 1, x.r, wrap64 (x.steps + 1)⟩
  else if i.op = 3 then ⟨x.place + 1, upd x.r i.a.toNat i.c, wrap64 (x.steps + 1)⟩
  else if i.op = 8 then ⟨if x.r i.a.toNat = 0 then x.place + 1 else i.c.toNat, x.r, wrap64 (x.steps + 1)⟩
  else if i.op = 9 then ⟨i.c.toNat, x.r, wrap64 (x.steps + 1)⟩
  else ⟨x.place + 1, upd x.r i.a.toNat (alu i.op (x.r i.b.toNat) (x.r i.c.toNat)), wrap64 (x.steps + 1)⟩

theorem nextW_congr (x : Wk) (i : Ins) (a b : Option Int) (h : i.op ≠ 1) : nextW x i a = nextW x i b := by simp [nextW, h]

def codeOf (N : Net) (k : Nat) : List Ins := N.workers.getD k []
def insAt (N : Net) (k : Nat) (x : Wk) : Option Ins := (codeOf N k)[x.place]?
def srcd (N : Net) (s : Nat) : Bool := hasSourceB N.sources s
def used (N : Net) (s : Nat) : Bool := decide (0 < usersN N.workers 1 s)
def srcWords (N : Net) (s : Nat) : List Int := ((N.sources.find? fun x => x.stream == (s : Int)).map (·.words)).getD []

/-- What would come of a step. -/
def stateOf (N : Net) (R : Rc) (k : Nat) : Nat :=
  match insAt N k (R.w k) with
  | none => 4
  | some i =>
    if i.op = 1 ∧ srcd N i.b.toNat = false ∧ (R.s i.b.toNat).read = (R.s i.b.toNat).words.length then 2
    else if i.op = 2 ∧ used N i.b.toNat = true ∧ (R.s i.b.toNat).room ≤ (R.s i.b.toNat).words.length - (R.s i.b.toNat).read then 3
    else 1

/-- The streams behind an instruction. -/
def nextS (R : Rc) (x : Wk) (i : Ins) : List Sm :=
  if i.op = 1 then R.S.set i.b.toNat { R.s i.b.toNat with read := if (R.s i.b.toNat).read < (R.s i.b.toNat).words.length then (R.s i.b.toNat).read + 1 else (R.s i.b.toNat).read }
  else if i.op = 2 then R.S.set i.b.toNat { R.s i.b.toNat with words := (R.s i.b.toNat).words ++ [x.r i.a.toNat] }
  else R.S

/-- The race behind an instruction of worker k, which it can do. -/
def doStep (N : Net) (R : Rc) (k : Nat) : Rc :=
  match insAt N k (R.w k) with
  | none => R
  | some i => ⟨R.W.set k (nextW (R.w k) i (R.s i.b.toNat).words[(R.s i.b.toNat).read]?), nextS R (R.w k) i⟩

def growS (R : Rc) (s : Nat) : Rc := ⟨R.W, R.S.set s { R.s s with room := (R.s s).room + 1 }⟩

def initR (N : Net) (rooms : List Int) : Rc :=
  ⟨List.replicate N.workers.length ⟨0, fun _ => 0, 0⟩, (List.range N.streams.length).map fun s => ⟨if srcd N s then srcWords N s else [], 0, (rooms.getD s 0).toNat⟩⟩

/-- A race with what each worker was ahead of each instruction that it has done. -/
def ev (N : Net) (G : Rc × (Nat → List Wk)) (e : Nat ⊕ Nat) : Rc × (Nat → List Wk) :=
  match e with
  | .inl k => if k < N.workers.length ∧ stateOf N G.1 k = 1 then (doStep N G.1 k, fun j => if j = k then G.2 k ++ [G.1.w k] else G.2 j) else G
  | .inr s => (growS G.1 s, G.2)

/-- What comes of events, the newest first. -/
def grun (N : Net) (rooms : List Int) : List (Nat ⊕ Nat) → Rc × (Nat → List Wk)
  | [] => (initR N rooms, fun _ => [])
  | e :: es => ev N (grun N rooms es) e

/-- What of a net the model needs. -/
structure Ok (N : Net) : Prop where
  ins : ∀ k, k < N.workers.length → ∀ i ∈ codeOf N k, 1 ≤ i.op ∧ i.op ≤ 9 ∧ (i.op = 1 ∨ i.op = 2 → 0 ≤ i.b ∧ i.b < N.streams.length)
  wr : ∀ s k k', usesB (codeOf N k) 2 s = true → usesB (codeOf N k') 2 s = true → k = k'
  rd : ∀ s k k', usesB (codeOf N k) 1 s = true → usesB (codeOf N k') 1 s = true → k = k'
  src : ∀ (s k : Nat), srcd N s = true → usesB (codeOf N k) 2 s = false

/-- What a worker wrote to a stream; how often it asked a stream. -/
def outW (N : Net) (k s : Nat) (tr : List Wk) : List Int :=
  tr.filterMap fun x => match insAt N k x with
    | some i => if i.op = 2 ∧ i.b = (s : Int) then some (x.r i.a.toNat) else none
    | none => none
def inN (N : Net) (k s : Nat) (tr : List Wk) : Nat :=
  tr.countP fun x => match insAt N k x with
    | some i => decide (i.op = 1 ∧ i.b = (s : Int))
    | none => false

def full (G : Rc × (Nat → List Wk)) (k : Nat) : List Wk := G.2 k ++ [G.1.w k]

structure GI (N : Net) (G : Rc × (Nat → List Wk)) : Prop where
  lenW : G.1.W.length = N.workers.length
  lenS : G.1.S.length = N.streams.length
  wr : ∀ k s, k < N.workers.length → s < N.streams.length → usesB (codeOf N k) 2 s = true → (G.1.s s).words = outW N k s (G.2 k)
  rd : ∀ k s, k < N.workers.length → s < N.streams.length → usesB (codeOf N k) 1 s = true →
    (G.1.s s).read = if srcd N s then min (inN N k s (G.2 k)) (srcWords N s).length else inN N k s (G.2 k)
  src : ∀ s, s < N.streams.length → srcd N s = true → (G.1.s s).words = srcWords N s
  le : ∀ s, s < N.streams.length → (G.1.s s).read ≤ (G.1.s s).words.length
  nowr : ∀ s, s < N.streams.length → srcd N s = false → (∀ k, k < N.workers.length → usesB (codeOf N k) 2 s = false) → (G.1.s s).words = []
  nord : ∀ s, s < N.streams.length → (∀ k, k < N.workers.length → usesB (codeOf N k) 1 s = false) → (G.1.s s).read = 0
  tr5 : ∀ k, k < N.workers.length → ∀ j (h : j < (G.2 k).length), ∃ i, insAt N k (G.2 k)[j] = some i ∧
    (full G k)[j + 1]? = some (nextW (G.2 k)[j] i ((G.1.s i.b.toNat).words[inN N k i.b.toNat ((G.2 k).take j)]?)) ∧
    (i.op = 1 → srcd N i.b.toNat = false → inN N k i.b.toNat ((G.2 k).take j) < (G.1.s i.b.toNat).words.length)

theorem uses_of_ins {N : Net} {k : Nat} {x : Wk} {i : Ins} (h : insAt N k x = some i) : usesB (codeOf N k) i.op i.b = true := by
  have hm : i ∈ codeOf N k := List.mem_of_getElem? h
  exact List.any_eq_true.2 ⟨i, hm, by simp⟩

theorem outW_snoc (N : Net) (k s : Nat) (tr : List Wk) (x : Wk) : outW N k s (tr ++ [x]) = outW N k s tr ++ (match insAt N k x with
    | some i => if i.op = 2 ∧ i.b = (s : Int) then [x.r i.a.toNat] else []
    | none => []) := by
  simp only [outW, List.filterMap_append]
  congr 1
  cases h : insAt N k x with
  | none => simp [h]
  | some i =>
    by_cases hc : i.op = 2 ∧ i.b = (s : Int)
    · simp [h, hc]
    · simp [h, hc]
theorem inN_snoc (N : Net) (k s : Nat) (tr : List Wk) (x : Wk) : inN N k s (tr ++ [x]) = inN N k s tr + (match insAt N k x with
    | some i => if i.op = 1 ∧ i.b = (s : Int) then 1 else 0
    | none => 0) := by
  simp only [inN, List.countP_append]
  congr 1
  cases h : insAt N k x with
  | none => simp [h]
  | some i =>
    by_cases hc : i.op = 1 ∧ i.b = (s : Int)
    · simp [h, hc]
    · simp [h, hc]

theorem getD_set_self {α : Type} (l : List α) (k : Nat) (v d : α) (h : k < l.length) : (l.set k v).getD k d = v := by simp [List.getD, h]
theorem getD_set_ne {α : Type} (l : List α) (k j : Nat) (v d : α) (h : k ≠ j) : (l.set k v).getD j d = l.getD j d := by simp [List.getD, List.getElem?_set_ne h]

theorem gi_init {N : Net} (ok : Ok N) (rooms : List Int) : GI N (grun N rooms []) := by
  have hs : ∀ s, s < N.streams.length → (initR N rooms).s s = ⟨if srcd N s then srcWords N s else [], 0, (rooms.getD s 0).toNat⟩ := by
    intro s h
    simp [initR, Rc.s, List.getD, h]
  refine ⟨by simp [grun, initR], by simp [grun, initR], ?_, ?_, ?_, ?_, ?_, ?_, ?_⟩
  · intro k s hk h hu
    show ((initR N rooms).s s).words = _
    rw [hs s h]
    have : srcd N s = false := by
      cases hq : srcd N s
      · rfl
      · rw [ok.src s k hq] at hu; cases hu
    simp [this, outW, grun]
  · intro k s hk h hu
    show ((initR N rooms).s s).read = _
    rw [hs s h]
    simp [inN, grun]
  · intro s h hq
    show ((initR N rooms).s s).words = _
    rw [hs s h]
    simp [hq]
  · intro s h
    show ((initR N rooms).s s).read ≤ ((initR N rooms).s s).words.length
    rw [hs s h]
    exact Nat.zero_le _
  · intro s h hq _
    show ((initR N rooms).s s).words = _
    rw [hs s h]
    simp [hq]
  · intro s h _
    show ((initR N rooms).s s).read = _
    rw [hs s h]
  · intro k hk j h
    simp [grun] at h

theorem grow_s (R : Rc) (t s : Nat) : ((growS R t).s s).words = (R.s s).words ∧ ((growS R t).s s).read = (R.s s).read := by
  by_cases h : t = s
  · subst h
    by_cases hl : t < R.S.length
    · simp [growS, Rc.s, List.getD, hl]
    · have : growS R t = R := by simp only [growS]; rw [List.set_eq_of_length_le (by omega)]
      rw [this]; exact ⟨rfl, rfl⟩
  · simp [growS, Rc.s, List.getD, List.getElem?_set_ne h]

theorem gi_grow {N : Net} {G : Rc × (Nat → List Wk)} (g : GI N G) (t : Nat) : GI N (growS G.1 t, G.2) := by
  refine ⟨g.lenW, by simp [growS, g.lenS], ?_, ?_, ?_, ?_, ?_, ?_, ?_⟩
  · intro k s hk h hu; rw [(grow_s _ _ _).1]; exact g.wr k s hk h hu
  · intro k s hk h hu; rw [(grow_s _ _ _).2]; exact g.rd k s hk h hu
  · intro s h hq; rw [(grow_s _ _ _).1]; exact g.src s h hq
  · intro s h; rw [(grow_s _ _ _).1, (grow_s _ _ _).2]; exact g.le s h
  · intro s h hq hn; rw [(grow_s _ _ _).1]; exact g.nowr s h hq hn
  · intro s h hn; rw [(grow_s _ _ _).2]; exact g.nord s h hn
  · intro k hk j h
    obtain ⟨i, h1, h2, h3⟩ := g.tr5 k hk j h
    exact ⟨i, h1, by rw [(grow_s _ _ _).1]; exact h2, by rw [(grow_s _ _ _).1]; exact h3⟩

theorem doStep_some {N : Net} {R : Rc} {k : Nat} {i : Ins} (h : insAt N k (R.w k) = some i) :
    doStep N R k = ⟨R.W.set k (nextW (R.w k) i (R.s i.b.toNat).words[(R.s i.b.toNat).read]?), nextS R (R.w k) i⟩ := by simp [doStep, h]

theorem nextS_length (R : Rc) (x : Wk) (i : Ins) : (nextS R x i).length = R.S.length := by
  unfold nextS; split
  · simp
  · split <;> simp

/-- A stream behind an instruction. -/
theorem step_s {R : Rc} {x : Wk} {i : Ins} (W : List Wk) (s : Nat) (hs : s < R.S.length) :
    (⟨W, nextS R x i⟩ : Rc).s s = if i.op = 1 ∧ s = i.b.toNat then { R.s s with read := if (R.s s).read < (R.s s).words.length then (R.s s).read + 1 else (R.s s).read }
      else if i.op = 2 ∧ s = i.b.toNat then { R.s s with words := (R.s s).words ++ [x.r i.a.toNat] } else R.s s := by
  by_cases h1 : i.op = 1
  · by_cases h : s = i.b.toNat
    · rw [if_pos (c := i.op = 1 ∧ s = i.b.toNat) ⟨h1, h⟩]
      subst h
      simp only [Rc.s, nextS]
      rw [if_pos (c := i.op = 1) h1, getD_set_self _ _ _ _ hs]
    · rw [if_neg (c := i.op = 1 ∧ s = i.b.toNat) (fun e => h e.2), if_neg (c := i.op = 2 ∧ s = i.b.toNat) (fun e => h e.2)]
      simp only [Rc.s, nextS]
      rw [if_pos (c := i.op = 1) h1, getD_set_ne _ _ _ _ _ (fun e => h e.symm)]
  · rw [if_neg (c := i.op = 1 ∧ s = i.b.toNat) (fun e => h1 e.1)]
    by_cases h2 : i.op = 2
    · by_cases h : s = i.b.toNat
      · rw [if_pos (c := i.op = 2 ∧ s = i.b.toNat) ⟨h2, h⟩]
        subst h
        simp only [Rc.s, nextS]
        rw [if_neg (c := i.op = 1) h1, if_pos (c := i.op = 2) h2, getD_set_self _ _ _ _ hs]
      · rw [if_neg (c := i.op = 2 ∧ s = i.b.toNat) (fun e => h e.2)]
        simp only [Rc.s, nextS]
        rw [if_neg (c := i.op = 1) h1, if_pos (c := i.op = 2) h2, getD_set_ne _ _ _ _ _ (fun e => h e.symm)]
    · rw [if_neg (c := i.op = 2 ∧ s = i.b.toNat) (fun e => h2 e.1)]
      simp only [Rc.s, nextS]
      rw [if_neg (c := i.op = 1) h1, if_neg (c := i.op = 2) h2]

theorem take_append_lt {α : Type} (a b : List α) (j : Nat) (h : j ≤ a.length) : (a ++ b).take j = a.take j := by
  rw [List.take_append_of_le_length h]

theorem gi_step {N : Net} (ok : Ok N) {G : Rc × (Nat → List Wk)} (g : GI N G) (k : Nat) (hk : k < N.workers.length) (hst : stateOf N G.1 k = 1) :
    GI N (doStep N G.1 k, fun j => if j = k then G.2 k ++ [G.1.w k] else G.2 j) := by
  cases hi : insAt N k (G.1.w k) with
  | none => simp [stateOf, hi] at hst
  | some i =>
    have hu := uses_of_ins hi
    have hmem : i ∈ codeOf N k := List.mem_of_getElem? hi
    obtain ⟨ho1, ho9, hb⟩ := ok.ins k hk i hmem
    rw [doStep_some hi]
    have hwk : k < G.1.W.length := by rw [g.lenW]; exact hk
    -- what the streams are now
    have hS : ∀ s, s < N.streams.length → (⟨G.1.W.set k (nextW (G.1.w k) i (G.1.s i.b.toNat).words[(G.1.s i.b.toNat).read]?), nextS G.1 (G.1.w k) i⟩ : Rc).s s =
        if i.op = 1 ∧ s = i.b.toNat then { G.1.s s with read := if (G.1.s s).read < (G.1.s s).words.length then (G.1.s s).read + 1 else (G.1.s s).read }
        else if i.op = 2 ∧ s = i.b.toNat then { G.1.s s with words := (G.1.s s).words ++ [(G.1.w k).r i.a.toNat] } else G.1.s s :=
      fun s h => step_s _ s (by rw [g.lenS]; exact h)
    have hbs : ∀ s : Nat, (i.op = 1 ∨ i.op = 2) → (s = i.b.toNat ↔ i.b = (s : Int)) := fun s h => by have := hb h; omega
    generalize hR : (⟨G.1.W.set k (nextW (G.1.w k) i (G.1.s i.b.toNat).words[(G.1.s i.b.toNat).read]?), nextS G.1 (G.1.w k) i⟩ : Rc) = R' at *
    have hW : R'.w k = nextW (G.1.w k) i (G.1.s i.b.toNat).words[(G.1.s i.b.toNat).read]? := by rw [← hR]; exact getD_set_self _ _ _ _ hwk
    have hWo : ∀ j, j ≠ k → R'.w j = G.1.w j := fun j hj => by rw [← hR]; exact getD_set_ne _ _ _ _ _ (fun e => hj e.symm)
    -- words only grow
    have hgrow : ∀ s, s < N.streams.length → ∃ l, (R'.s s).words = (G.1.s s).words ++ l := by
      intro s h
      rw [hS s h]
      split
      · exact ⟨[], by simp⟩
      · split
        · exact ⟨_, rfl⟩
        · exact ⟨[], by simp⟩
    refine ⟨by rw [← hR]; simp [g.lenW], by rw [← hR]; simp [nextS_length, g.lenS], ?_, ?_, ?_, ?_, ?_, ?_, ?_⟩
    · intro k' s hk' h hu'
      dsimp only
      rw [hS s h]
      by_cases hkk : k' = k
      · subst hkk
        rw [if_pos rfl, outW_snoc, hi]
        dsimp only
        by_cases h2 : i.op = 2
        · have h1 : ¬ i.op = 1 := by omega
          rw [if_neg (c := i.op = 1 ∧ s = i.b.toNat) (fun e => h1 e.1)]
          by_cases hs : s = i.b.toNat
          · rw [if_pos (c := i.op = 2 ∧ s = i.b.toNat) ⟨h2, hs⟩, if_pos (c := i.op = 2 ∧ i.b = (s : Int)) ⟨h2, (hbs s (Or.inr h2)).1 hs⟩]
            dsimp only
            rw [g.wr k' s hk' h hu']
          · rw [if_neg (c := i.op = 2 ∧ s = i.b.toNat) (fun e => hs e.2), if_neg (c := i.op = 2 ∧ i.b = (s : Int)) (fun e => hs ((hbs s (Or.inr h2)).2 e.2)), List.append_nil]
            exact g.wr k' s hk' h hu'
        · rw [if_neg (c := i.op = 2 ∧ s = i.b.toNat) (fun e => h2 e.1), if_neg (c := i.op = 2 ∧ i.b = (s : Int)) (fun e => h2 e.1), List.append_nil]
          split
          · exact g.wr k' s hk' h hu'
          · exact g.wr k' s hk' h hu'
      · rw [if_neg hkk]
        have hne : ¬ (i.op = 2 ∧ s = i.b.toNat) := by
          rintro ⟨e1, e2⟩
          have e3 := (hbs s (Or.inr e1)).1 e2
          rw [e1, e3] at hu
          exact hkk (ok.wr s k' k hu' hu)
        rw [if_neg (c := i.op = 2 ∧ s = i.b.toNat) hne]
        split
        · exact g.wr k' s hk' h hu'
        · exact g.wr k' s hk' h hu'
    · intro k' s hk' h hu'
      dsimp only
      rw [hS s h]
      have old := g.rd k' s hk' h hu'
      by_cases hkk : k' = k
      · subst hkk
        rw [if_pos rfl, inN_snoc, hi]
        dsimp only
        by_cases h1 : i.op = 1
        · by_cases hs : s = i.b.toNat
          · rw [if_pos (c := i.op = 1 ∧ s = i.b.toNat) ⟨h1, hs⟩, if_pos (c := i.op = 1 ∧ i.b = (s : Int)) ⟨h1, (hbs s (Or.inl h1)).1 hs⟩]
            dsimp only
            cases hq : srcd N s
            · rw [hq] at old
              simp only [Bool.false_eq_true, if_false] at old ⊢
              have hlt : (G.1.s s).read < (G.1.s s).words.length := by
                have hle := g.le s h
                rcases Nat.lt_or_ge (G.1.s s).read (G.1.s s).words.length with hl | hg
                · exact hl
                · exfalso
                  have heq : (G.1.s s).read = (G.1.s s).words.length := by omega
                  subst hs
                  simp only [stateOf, hi] at hst
                  rw [if_pos ⟨h1, hq, heq⟩] at hst
                  cases hst
              rw [if_pos hlt, old]
            · rw [hq] at old
              simp only [if_true] at old ⊢
              rw [g.src s h hq]
              rw [old]
              split <;> omega
          · rw [if_neg (c := i.op = 1 ∧ s = i.b.toNat) (fun e => hs e.2), if_neg (c := i.op = 1 ∧ i.b = (s : Int)) (fun e => hs ((hbs s (Or.inl h1)).2 e.2)), Nat.add_zero]
            split <;> exact old
        · rw [if_neg (c := i.op = 1 ∧ s = i.b.toNat) (fun e => h1 e.1), if_neg (c := i.op = 1 ∧ i.b = (s : Int)) (fun e => h1 e.1), Nat.add_zero]
          split <;> exact old
      · rw [if_neg hkk]
        have hne : ¬ (i.op = 1 ∧ s = i.b.toNat) := by
          rintro ⟨e1, e2⟩
          have e3 := (hbs s (Or.inl e1)).1 e2
          rw [e1, e3] at hu
          exact hkk (ok.rd s k' k hu' hu)
        rw [if_neg (c := i.op = 1 ∧ s = i.b.toNat) hne]
        split <;> exact old
    · intro s h hq
      dsimp only
      rw [hS s h]
      have hne : ¬ (i.op = 2 ∧ s = i.b.toNat) := by
        rintro ⟨e1, e2⟩
        have e3 := (hbs s (Or.inr e1)).1 e2
        rw [e1, e3, ok.src s k hq] at hu
        cases hu
      rw [if_neg (c := i.op = 2 ∧ s = i.b.toNat) hne]
      split <;> exact g.src s h hq
    · intro s h
      dsimp only
      rw [hS s h]
      have := g.le s h
      split
      · dsimp only; split <;> omega
      · split
        · dsimp only; simp; omega
        · exact this
    · intro s h hq hn
      dsimp only
      rw [hS s h]
      have hne : ¬ (i.op = 2 ∧ s = i.b.toNat) := by
        rintro ⟨e1, e2⟩
        have e3 := (hbs s (Or.inr e1)).1 e2
        rw [e1, e3, hn k hk] at hu
        cases hu
      rw [if_neg (c := i.op = 2 ∧ s = i.b.toNat) hne]
      split <;> exact g.nowr s h hq hn
    · intro s h hn
      dsimp only
      rw [hS s h]
      have hne : ¬ (i.op = 1 ∧ s = i.b.toNat) := by
        rintro ⟨e1, e2⟩
        have e3 := (hbs s (Or.inl e1)).1 e2
        rw [e1, e3, hn k hk] at hu
        cases hu
      rw [if_neg (c := i.op = 1 ∧ s = i.b.toNat) hne]
      split <;> exact g.nord s h hn
    · intro k' hk' j h
      dsimp only at h ⊢
      -- an instruction that was done before
      have oldstep : ∀ (k' : Nat), k' < N.workers.length → ∀ (j : Nat) (hj : j < (G.2 k').length), ∃ i', insAt N k' (G.2 k')[j] = some i' ∧
          (full G k')[j + 1]? = some (nextW (G.2 k')[j] i' ((R'.s i'.b.toNat).words[inN N k' i'.b.toNat ((G.2 k').take j)]?)) ∧
          (i'.op = 1 → srcd N i'.b.toNat = false → inN N k' i'.b.toNat ((G.2 k').take j) < (R'.s i'.b.toNat).words.length) := by
        intro k' hk' j hj
        obtain ⟨i', h1, h2, h3⟩ := g.tr5 k' hk' j hj
        have hm' : i' ∈ codeOf N k' := List.mem_of_getElem? h1
        have hb' := (ok.ins k' hk' i' hm').2.2
        refine ⟨i', h1, ?_, ?_⟩
        · by_cases ho : i'.op = 1
          · have hbb := hb' (Or.inl ho)
            have hlt' : i'.b.toNat < N.streams.length := by omega
            obtain ⟨l, hl⟩ := hgrow i'.b.toNat hlt'
            rw [h2]
            congr 2
            cases hq : srcd N i'.b.toNat
            · rw [hl, List.getElem?_append_left (h3 ho hq)]
            · have e1 := g.src i'.b.toNat hlt' hq
              have hne : ¬ (i.op = 2 ∧ i'.b.toNat = i.b.toNat) := by
                rintro ⟨e1, e2⟩
                have e3 := (hbs _ (Or.inr e1)).1 e2
                rw [e1, e3, ok.src _ k hq] at hu
                cases hu
              rw [hS _ hlt', if_neg (c := i.op = 2 ∧ i'.b.toNat = i.b.toNat) hne]
              split <;> rfl
          · rw [h2, nextW_congr _ _ _ _ ho]
        · intro ho hq
          have hbb := hb' (Or.inl ho)
          obtain ⟨l, hl⟩ := hgrow i'.b.toNat (by omega)
          have := h3 ho hq
          rw [hl]; simp; omega
      by_cases hkk : k' = k
      · subst hkk
        simp only [if_true] at h ⊢
        simp only [full, if_true]
        have hlen : (G.2 k' ++ [G.1.w k']).length = (G.2 k').length + 1 := by simp
        by_cases hj : j < (G.2 k').length
        · obtain ⟨i', h1, h2, h3⟩ := oldstep k' hk' j hj
          have e1 : (G.2 k' ++ [G.1.w k'])[j] = (G.2 k')[j] := List.getElem_append_left hj
          refine ⟨i', by rw [e1]; exact h1, ?_, ?_⟩
          · rw [e1, take_append_lt _ _ _ (by omega), List.getElem?_append_left (by rw [hlen]; omega)]
            exact h2
          · rw [take_append_lt _ _ _ (by omega)]; exact h3
        · have hj' : j = (G.2 k').length := by omega
          subst hj'
          have e1 : (G.2 k' ++ [G.1.w k'])[(G.2 k').length] = G.1.w k' := by simp
          have e2 : (G.2 k' ++ [G.1.w k']).take (G.2 k').length = G.2 k' := by simp
          refine ⟨i, by rw [e1]; exact hi, ?_, ?_⟩
          · rw [e1, e2, List.getElem?_append_right (by rw [hlen]; omega), hlen]
            simp only [Nat.sub_self, List.getElem?_cons_zero]
            rw [hW]
            congr 1
            by_cases ho : i.op = 1
            · have hbb := hb (Or.inl ho)
              have hlt' : i.b.toNat < N.streams.length := by omega
              have hbe : i.b = ((i.b.toNat : Nat) : Int) := by omega
              have hu1 : usesB (codeOf N k') 1 (i.b.toNat : Nat) = true := by rw [ho] at hu; rw [← hbe]; exact hu
              have old := g.rd k' i.b.toNat hk' hlt' hu1
              have hww : (R'.s i.b.toNat).words = (G.1.s i.b.toNat).words := by rw [hS _ hlt', if_pos ⟨ho, rfl⟩]
              rw [hww]
              congr 1
              cases hq : srcd N i.b.toNat
              · rw [hq] at old
                simp only [Bool.false_eq_true, if_false] at old
                rw [old]
              · rw [hq] at old
                simp only [if_true] at old
                rw [old, g.src _ hlt' hq]
                by_cases hle : inN N k' i.b.toNat (G.2 k') ≤ (srcWords N i.b.toNat).length
                · rw [Nat.min_eq_left hle]
                · rw [Nat.min_eq_right (by omega), List.getElem?_eq_none (Nat.le_refl _), List.getElem?_eq_none (by omega)]
            · exact nextW_congr _ _ _ _ ho
          · intro ho hq
            have hbb := hb (Or.inl ho)
            have hlt' : i.b.toNat < N.streams.length := by omega
            have hbe : i.b = ((i.b.toNat : Nat) : Int) := by omega
            have hu1 : usesB (codeOf N k') 1 (i.b.toNat : Nat) = true := by rw [ho] at hu; rw [← hbe]; exact hu
            have old := g.rd k' i.b.toNat hk' hlt' hu1
            rw [hq] at old
            simp only [Bool.false_eq_true, if_false] at old
            have hww : (R'.s i.b.toNat).words = (G.1.s i.b.toNat).words := by rw [hS _ hlt', if_pos ⟨ho, rfl⟩]
            rw [e2, hww, ← old]
            have hle := g.le _ hlt'
            rcases Nat.lt_or_ge (G.1.s i.b.toNat).read (G.1.s i.b.toNat).words.length with hl | hg
            · exact hl
            · exfalso
              have heq : (G.1.s i.b.toNat).read = (G.1.s i.b.toNat).words.length := by omega
              simp only [stateOf, hi] at hst
              rw [if_pos ⟨ho, hq, heq⟩] at hst
              cases hst
      · simp only [if_neg hkk] at h ⊢
        obtain ⟨i', h1, h2, h3⟩ := oldstep k' hk' j h
        refine ⟨i', h1, ?_, h3⟩
        simp only [full, if_neg hkk]
        rw [hWo k' hkk]
        exact h2

theorem gi_ev {N : Net} (ok : Ok N) {G : Rc × (Nat → List Wk)} (g : GI N G) (e : Nat ⊕ Nat) : GI N (ev N G e) := by
  cases e with
  | inl k =>
    simp only [ev]
    split
    · rename_i h; exact gi_step ok g k h.1 h.2
    · exact g
  | inr s => exact gi_grow g s

theorem gi_run {N : Net} (ok : Ok N) (rooms : List Int) : ∀ es, GI N (grun N rooms es)
  | [] => gi_init ok rooms
  | e :: es => gi_ev ok (gi_run ok rooms es) e

end Go.Proofs.Ythfdgdfnflilfaa

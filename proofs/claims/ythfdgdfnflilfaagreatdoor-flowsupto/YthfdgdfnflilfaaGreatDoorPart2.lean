/- Part 2: Model1, Comm, Streams1, Streams2, Streams3. -/
import Derived.Conc.LoneSelect
import Derived.Conc.LoneCalls
import Derived.Conc.LoneSelectN
import Derived.Deep.AppendLies
import Derived.Test.YthfdgdfnflilfaaGreatDoorPart1
/- The model of a race, as the document tells it, and its invariants. No program here. -/
namespace Go.Proofs.YthfdgdfnflilfaaGreatDoor
open Go.RowKit

/-- A worker: its place, its registers, how many instructions it has done (it wraps round). -/
structure Wk where
  place : Nat
  r : Nat → Int
  steps : Int

/-- A stream: all words that were ever in it (of a source: all that it has), how many were read, its room. -/
structure Sm where
  words : List Int
  read : Nat
  room : Nat

structure Rc where
  W : List Wk
  S : List Sm

def Rc.w (R : Rc) (k : Nat) : Wk := R.W.getD k ⟨0, fun _ => 0, 0⟩
def Rc.s (R : Rc) (s : Nat) : Sm := R.S.getD s ⟨[], 0, 0⟩

def upd (r : Nat → Int) (a : Nat) (v : Int) : Nat → Int := fun j => if j = a then v else r j

def alu (op b c : Int) : Int := if op = 4 then wrap64 (b + c) else if op = 5 then wrap64 (b - c) else if op = 6 then wrap64 (b * c) else if b < c then 1 else 0

/-- The worker behind an instruction; inp: the next word of the stream that it reads, if there is one. -/
def nextW (x : Wk) (i : Ins) (inp : Option Int) : Wk :=
  if i.op = 1 then
    match inp with
    | some v => ⟨x.place + 1, upd x.r i.a.toNat v, wrap64 (x.steps + 1)⟩
    | none => ⟨i.c.toNat, x.r, wrap64 (x.steps + 1)⟩
  else if i.op = 2 then ⟨x.place + 1, x.r, wrap64 (x.steps + 1)⟩
  else if i.op = 3 then ⟨x.place + 1, upd x.r i.a.toNat i.c, wrap64 (x.steps + 1)⟩
  else if i.op = 8 then ⟨if x.r i.a.toNat = 0 then x.place + 1 else i.c.toNat, x.r, wrap64 (x.steps + 1)⟩
  else if i.op = 9 then ⟨i.c.toNat, x.r, wrap64 (x.steps + 1)⟩
  else ⟨x.place + 1, upd x.r i.a.toNat (alu i.op (x.r i.b.toNat) (x.r i.c.toNat)), wrap64 (x.steps + 1)⟩

theorem nextW_congr (x : Wk) (i : Ins) (a b : Option Int) (h : i.op ≠ 1) : nextW x i a = nextW x i b := by simp [nextW, h]

def codeOf (N : Net) (k : Nat) : List Ins := N.workers.getD k []
def insAt (N : Net) (k : Nat) (x : Wk) : Option Ins := (codeOf N k)[x.place]?
def srcd (N : Net) (s : Nat) : Bool := hasSourceB N.sources s
def used (N : Net) (s : Nat) : Bool := decide (0 < usersN N.workers 1 s)
def srcWords (N : Net) (s : Nat) : List Int := ((N.sources.find? fun x => x.stream == (s : Int)).map (·.words)).getD []

/-- What would come of a step. -/
def stateOf (N : Net) (R : Rc) (k : Nat) : Nat :=
  match insAt N k (R.w k) with
  | none => 4
  | some i =>
    if i.op = 1 ∧ srcd N i.b.toNat = false ∧ (R.s i.b.toNat).read = (R.s i.b.toNat).words.length then 2
    else if i.op = 2 ∧ used N i.b.toNat = true ∧ (R.s i.b.toNat).room ≤ (R.s i.b.toNat).words.length - (R.s i.b.toNat).read then 3
    else 1

/-- The streams behind an instruction. -/
def nextS (R : Rc) (x : Wk) (i : Ins) : List Sm :=
  if i.op = 1 then R.S.set i.b.toNat { R.s i.b.toNat with read := if (R.s i.b.toNat).read < (R.s i.b.toNat).words.length then (R.s i.b.toNat).read + 1 else (R.s i.b.toNat).read }
  else if i.op = 2 then R.S.set i.b.toNat { R.s i.b.toNat with words := (R.s i.b.toNat).words ++ [x.r i.a.toNat] }
  else R.S

/-- The race behind an instruction of worker k, which it can do. -/
def doStep (N : Net) (R : Rc) (k : Nat) : Rc :=
  match insAt N k (R.w k) with
  | none => R
  | some i => ⟨R.W.set k (nextW (R.w k) i (R.s i.b.toNat).words[(R.s i.b.toNat).read]?), nextS R (R.w k) i⟩

def growS (R : Rc) (s : Nat) : Rc := ⟨R.W, R.S.set s { R.s s with room := (R.s s).room + 1 }⟩

def initR (N : Net) (rooms : List Int) : Rc :=
  ⟨List.replicate N.workers.length ⟨0, fun _ => 0, 0⟩, (List.range N.streams.length).map fun s => ⟨if srcd N s then srcWords N s else [], 0, (rooms.getD s 0).toNat⟩⟩

/-- A race with what each worker was ahead of each instruction that it has done. -/
def ev (N : Net) (G : Rc × (Nat → List Wk)) (e : Nat ⊕ Nat) : Rc × (Nat → List Wk) :=
  match e with
  | .inl k => if k < N.workers.length ∧ stateOf N G.1 k = 1 then (doStep N G.1 k, fun j => if j = k then G.2 k ++ [G.1.w k] else G.2 j) else G
  | .inr s => (growS G.1 s, G.2)

/-- What comes of events, the newest first. -/
def grun (N : Net) (rooms : List Int) : List (Nat ⊕ Nat) → Rc × (Nat → List Wk)
  | [] => (initR N rooms, fun _ => [])
  | e :: es => ev N (grun N rooms es) e

/-- What of a net the model needs. -/
structure Ok (N : Net) : Prop where
  ins : ∀ k, k < N.workers.length → ∀ i ∈ codeOf N k, 1 ≤ i.op ∧ i.op ≤ 9 ∧ (i.op = 1 ∨ i.op = 2 → 0 ≤ i.b ∧ i.b < N.streams.length)
  wr : ∀ s k k', usesB (codeOf N k) 2 s = true → usesB (codeOf N k') 2 s = true → k = k'
  rd : ∀ s k k', usesB (codeOf N k) 1 s = true → usesB (codeOf N k') 1 s = true → k = k'
  src : ∀ (s k : Nat), srcd N s = true → usesB (codeOf N k) 2 s = false

/-- What a worker wrote to a stream; how often it asked a stream. -/
def outW (N : Net) (k s : Nat) (tr : List Wk) : List Int :=
  tr.filterMap fun x => match insAt N k x with
    | some i => if i.op = 2 ∧ i.b = (s : Int) then some (x.r i.a.toNat) else none
    | none => none
def inN (N : Net) (k s : Nat) (tr : List Wk) : Nat :=
  tr.countP fun x => match insAt N k x with
    | some i => decide (i.op = 1 ∧ i.b = (s : Int))
    | none => false

def full (G : Rc × (Nat → List Wk)) (k : Nat) : List Wk := G.2 k ++ [G.1.w k]

structure GI (N : Net) (G : Rc × (Nat → List Wk)) : Prop where
  lenW : G.1.W.length = N.workers.length
  lenS : G.1.S.length = N.streams.length
  wr : ∀ k s, k < N.workers.length → s < N.streams.length → usesB (codeOf N k) 2 s = true → (G.1.s s).words = outW N k s (G.2 k)
  rd : ∀ k s, k < N.workers.length → s < N.streams.length → usesB (codeOf N k) 1 s = true →
    (G.1.s s).read = if srcd N s then min (inN N k s (G.2 k)) (srcWords N s).length else inN N k s (G.2 k)
  src : ∀ s, s < N.streams.length → srcd N s = true → (G.1.s s).words = srcWords N s
  le : ∀ s, s < N.streams.length → (G.1.s s).read ≤ (G.1.s s).words.length
  nowr : ∀ s, s < N.streams.length → srcd N s = false → (∀ k, k < N.workers.length → usesB (codeOf N k) 2 s = false) → (G.1.s s).words = []
  nord : ∀ s, s < N.streams.length → (∀ k, k < N.workers.length → usesB (codeOf N k) 1 s = false) → (G.1.s s).read = 0
  tr5 : ∀ k, k < N.workers.length → ∀ j (h : j < (G.2 k).length), ∃ i, insAt N k (G.2 k)[j] = some i ∧
    (full G k)[j + 1]? = some (nextW (G.2 k)[j] i ((G.1.s i.b.toNat).words[inN N k i.b.toNat ((G.2 k).take j)]?)) ∧
    (i.op = 1 → srcd N i.b.toNat = false → inN N k i.b.toNat ((G.2 k).take j) < (G.1.s i.b.toNat).words.length)

theorem uses_of_ins {N : Net} {k : Nat} {x : Wk} {i : Ins} (h : insAt N k x = some i) : usesB (codeOf N k) i.op i.b = true := by
  have hm : i ∈ codeOf N k := List.mem_of_getElem? h
  exact List.any_eq_true.2 ⟨i, hm, by simp⟩

theorem outW_snoc (N : Net) (k s : Nat) (tr : List Wk) (x : Wk) : outW N k s (tr ++ [x]) = outW N k s tr ++ (match insAt N k x with
    | some i => if i.op = 2 ∧ i.b = (s : Int) then [x.r i.a.toNat] else []
    | none => []) := by
  simp only [outW, List.filterMap_append]
  congr 1
  cases h : insAt N k x with
  | none => simp [h]
  | some i =>
    by_cases hc : i.op = 2 ∧ i.b = (s : Int)
    · simp [h, hc]
    · simp [h, hc]
theorem inN_snoc (N : Net) (k s : Nat) (tr : List Wk) (x : Wk) : inN N k s (tr ++ [x]) = inN N k s tr + (match insAt N k x with
    | some i => if i.op = 1 ∧ i.b = (s : Int) then 1 else 0
    | none => 0) := by
  simp only [inN, List.countP_append]
  congr 1
  cases h : insAt N k x with
  | none => simp [h]
  | some i =>
    by_cases hc : i.op = 1 ∧ i.b = (s : Int)
    · simp [h, hc]
    · simp [h, hc]

theorem getD_set_self {α : Type} (l : List α) (k : Nat) (v d : α) (h : k < l.length) : (l.set k v).getD k d = v := by simp [List.getD, h]
theorem getD_set_ne {α : Type} (l : List α) (k j : Nat) (v d : α) (h : k ≠ j) : (l.set k v).getD j d = l.getD j d := by simp [List.getD, List.getElem?_set_ne h]

theorem gi_init {N : Net} (ok : Ok N) (rooms : List Int) : GI N (grun N rooms []) := by
  have hs : ∀ s, s < N.streams.length → (initR N rooms).s s = ⟨if srcd N s then srcWords N s else [], 0, (rooms.getD s 0).toNat⟩ := by
    intro s h
    simp [initR, Rc.s, List.getD, h]
  refine ⟨by simp [grun, initR], by simp [grun, initR], ?_, ?_, ?_, ?_, ?_, ?_, ?_⟩
  · intro k s hk h hu
    show ((initR N rooms).s s).words = _
    rw [hs s h]
    have : srcd N s = false := by
      cases hq : srcd N s
      · rfl
      · rw [ok.src s k hq] at hu; cases hu
    simp [this, outW, grun]
  · intro k s hk h hu
    show ((initR N rooms).s s).read = _
    rw [hs s h]
    simp [inN, grun]
  · intro s h hq
    show ((initR N rooms).s s).words = _
    rw [hs s h]
    simp [hq]
  · intro s h
    show ((initR N rooms).s s).read ≤ ((initR N rooms).s s).words.length
    rw [hs s h]
    exact Nat.zero_le _
  · intro s h hq _
    show ((initR N rooms).s s).words = _
    rw [hs s h]
    simp [hq]
  · intro s h _
    show ((initR N rooms).s s).read = _
    rw [hs s h]
  · intro k hk j h
    simp [grun] at h

theorem grow_s (R : Rc) (t s : Nat) : ((growS R t).s s).words = (R.s s).words ∧ ((growS R t).s s).read = (R.s s).read := by
  by_cases h : t = s
  · subst h
    by_cases hl : t < R.S.length
    · simp [growS, Rc.s, List.getD, hl]
    · have : growS R t = R := by simp only [growS]; rw [List.set_eq_of_length_le (by omega)]
      rw [this]; exact ⟨rfl, rfl⟩
  · simp [growS, Rc.s, List.getD, List.getElem?_set_ne h]

theorem gi_grow {N : Net} {G : Rc × (Nat → List Wk)} (g : GI N G) (t : Nat) : GI N (growS G.1 t, G.2) := by
  refine ⟨g.lenW, by simp [growS, g.lenS], ?_, ?_, ?_, ?_, ?_, ?_, ?_⟩
  · intro k s hk h hu; rw [(grow_s _ _ _).1]; exact g.wr k s hk h hu
  · intro k s hk h hu; rw [(grow_s _ _ _).2]; exact g.rd k s hk h hu
  · intro s h hq; rw [(grow_s _ _ _).1]; exact g.src s h hq
  · intro s h; rw [(grow_s _ _ _).1, (grow_s _ _ _).2]; exact g.le s h
  · intro s h hq hn; rw [(grow_s _ _ _).1]; exact g.nowr s h hq hn
  · intro s h hn; rw [(grow_s _ _ _).2]; exact g.nord s h hn
  · intro k hk j h
    obtain ⟨i, h1, h2, h3⟩ := g.tr5 k hk j h
    exact ⟨i, h1, by rw [(grow_s _ _ _).1]; exact h2, by rw [(grow_s _ _ _).1]; exact h3⟩

theorem doStep_some {N : Net} {R : Rc} {k : Nat} {i : Ins} (h : insAt N k (R.w k) = some i) :
    doStep N R k = ⟨R.W.set k (nextW (R.w k) i (R.s i.b.toNat).words[(R.s i.b.toNat).read]?), nextS R (R.w k) i⟩ := by simp [doStep, h]

theorem nextS_length (R : Rc) (x : Wk) (i : Ins) : (nextS R x i).length = R.S.length := by
  unfold nextS; split
  · simp
  · split <;> simp

/-- A stream behind an instruction. -/
theorem step_s {R : Rc} {x : Wk} {i : Ins} (W : List Wk) (s : Nat) (hs : s < R.S.length) :
    (⟨W, nextS R x i⟩ : Rc).s s = if i.op = 1 ∧ s = i.b.toNat then { R.s s with read := if (R.s s).read < (R.s s).words.length then (R.s s).read + 1 else (R.s s).read }
      else if i.op = 2 ∧ s = i.b.toNat then { R.s s with words := (R.s s).words ++ [x.r i.a.toNat] } else R.s s := by
  by_cases h1 : i.op = 1
  · by_cases h : s = i.b.toNat
    · rw [if_pos (c := i.op = 1 ∧ s = i.b.toNat) ⟨h1, h⟩]
      subst h
      simp only [Rc.s, nextS]
      rw [if_pos (c := i.op = 1) h1, getD_set_self _ _ _ _ hs]
    · rw [if_neg (c := i.op = 1 ∧ s = i.b.toNat) (fun e => h e.2), if_neg (c := i.op = 2 ∧ s = i.b.toNat) (fun e => h e.2)]
      simp only [Rc.s, nextS]
      rw [if_pos (c := i.op = 1) h1, getD_set_ne _ _ _ _ _ (fun e => h e.symm)]
  · rw [if_neg (c := i.op = 1 ∧ s = i.b.toNat) (fun e => h1 e.1)]
    by_cases h2 : i.op = 2
    · by_cases h : s = i.b.toNat
      · rw [if_pos (c := i.op = 2 ∧ s = i.b.toNat) ⟨h2, h⟩]
        subst h
        simp only [Rc.s, nextS]
        rw [if_neg (c := i.op = 1) h1, if_pos (c := i.op = 2) h2, getD_set_self _ _ _ _ hs]
      · rw [if_neg (c := i.op = 2 ∧ s = i.b.toNat) (fun e => h e.2)]
        simp only [Rc.s, nextS]
        rw [if_neg (c := i.op = 1) h1, if_pos (c := i.op = 2) h2, getD_set_ne _ _ _ _ _ (fun e => h e.symm)]
    · rw [if_neg (c := i.op = 2 ∧ s = i.b.toNat) (fun e => h2 e.1)]
      simp only [Rc.s, nextS]
      rw [if_neg (c := i.op = 1) h1, if_neg (c := i.op = 2) h2]

theorem take_append_lt {α : Type} (a b : List α) (j : Nat) (h : j ≤ a.length) : (a ++ b).take j = a.take j := by
  rw [List.take_append_of_le_length h]

theorem gi_step {N : Net} (ok : Ok N) {G : Rc × (Nat → List Wk)} (g : GI N G) (k : Nat) (hk : k < N.workers.length) (hst : stateOf N G.1 k = 1) :
    GI N (doStep N G.1 k, fun j => if j = k then G.2 k ++ [G.1.w k] else G.2 j) := by
  cases hi : insAt N k (G.1.w k) with
  | none => simp [stateOf, hi] at hst
  | some i =>
    have hu := uses_of_ins hi
    have hmem : i ∈ codeOf N k := List.mem_of_getElem? hi
    obtain ⟨ho1, ho9, hb⟩ := ok.ins k hk i hmem
    rw [doStep_some hi]
    have hwk : k < G.1.W.length := by rw [g.lenW]; exact hk
    -- what the streams are now
    have hS : ∀ s, s < N.streams.length → (⟨G.1.W.set k (nextW (G.1.w k) i (G.1.s i.b.toNat).words[(G.1.s i.b.toNat).read]?), nextS G.1 (G.1.w k) i⟩ : Rc).s s =
        if i.op = 1 ∧ s = i.b.toNat then { G.1.s s with read := if (G.1.s s).read < (G.1.s s).words.length then (G.1.s s).read + 1 else (G.1.s s).read }
        else if i.op = 2 ∧ s = i.b.toNat then { G.1.s s with words := (G.1.s s).words ++ [(G.1.w k).r i.a.toNat] } else G.1.s s :=
      fun s h => step_s _ s (by rw [g.lenS]; exact h)
    have hbs : ∀ s : Nat, (i.op = 1 ∨ i.op = 2) → (s = i.b.toNat ↔ i.b = (s : Int)) := fun s h => by have := hb h; omega
    generalize hR : (⟨G.1.W.set k (nextW (G.1.w k) i (G.1.s i.b.toNat).words[(G.1.s i.b.toNat).read]?), nextS G.1 (G.1.w k) i⟩ : Rc) = R' at *
    have hW : R'.w k = nextW (G.1.w k) i (G.1.s i.b.toNat).words[(G.1.s i.b.toNat).read]? := by rw [← hR]; exact getD_set_self _ _ _ _ hwk
    have hWo : ∀ j, j ≠ k → R'.w j = G.1.w j := fun j hj => by rw [← hR]; exact getD_set_ne _ _ _ _ _ (fun e => hj e.symm)
    -- words only grow
    have hgrow : ∀ s, s < N.streams.length → ∃ l, (R'.s s).words = (G.1.s s).words ++ l := by
      intro s h
      rw [hS s h]
      split
      · exact ⟨[], by simp⟩
      · split
        · exact ⟨_, rfl⟩
        · exact ⟨[], by simp⟩
    refine ⟨by rw [← hR]; simp [g.lenW], by rw [← hR]; simp [nextS_length, g.lenS], ?_, ?_, ?_, ?_, ?_, ?_, ?_⟩
    · intro k' s hk' h hu'
      dsimp only
      rw [hS s h]
      by_cases hkk : k' = k
      · subst hkk
        rw [if_pos rfl, outW_snoc, hi]
        dsimp only
        by_cases h2 : i.op = 2
        · have h1 : ¬ i.op = 1 := by omega
          rw [if_neg (c := i.op = 1 ∧ s = i.b.toNat) (fun e => h1 e.1)]
          by_cases hs : s = i.b.toNat
          · rw [if_pos (c := i.op = 2 ∧ s = i.b.toNat) ⟨h2, hs⟩, if_pos (c := i.op = 2 ∧ i.b = (s : Int)) ⟨h2, (hbs s (Or.inr h2)).1 hs⟩]
            dsimp only
            rw [g.wr k' s hk' h hu']
          · rw [if_neg (c := i.op = 2 ∧ s = i.b.toNat) (fun e => hs e.2), if_neg (c := i.op = 2 ∧ i.b = (s : Int)) (fun e => hs ((hbs s (Or.inr h2)).2 e.2)), List.append_nil]
            exact g.wr k' s hk' h hu'
        · rw [if_neg (c := i.op = 2 ∧ s = i.b.toNat) (fun e => h2 e.1), if_neg (c := i.op = 2 ∧ i.b = (s : Int)) (fun e => h2 e.1), List.append_nil]
          split
          · exact g.wr k' s hk' h hu'
          · exact g.wr k' s hk' h hu'
      · rw [if_neg hkk]
        have hne : ¬ (i.op = 2 ∧ s = i.b.toNat) := by
          rintro ⟨e1, e2⟩
          have e3 := (hbs s (Or.inr e1)).1 e2
          rw [e1, e3] at hu
          exact hkk (ok.wr s k' k hu' hu)
        rw [if_neg (c := i.op = 2 ∧ s = i.b.toNat) hne]
        split
        · exact g.wr k' s hk' h hu'
        · exact g.wr k' s hk' h hu'
    · intro k' s hk' h hu'
      dsimp only
      rw [hS s h]
      have old := g.rd k' s hk' h hu'
      by_cases hkk : k' = k
      · subst hkk
        rw [if_pos rfl, inN_snoc, hi]
        dsimp only
        by_cases h1 : i.op = 1
        · by_cases hs : s = i.b.toNat
          · rw [if_pos (c := i.op = 1 ∧ s = i.b.toNat) ⟨h1, hs⟩, if_pos (c := i.op = 1 ∧ i.b = (s : Int)) ⟨h1, (hbs s (Or.inl h1)).1 hs⟩]
            dsimp only
            cases hq : srcd N s
            · rw [hq] at old
              simp only [Bool.false_eq_true, if_false] at old ⊢
              have hlt : (G.1.s s).read < (G.1.s s).words.length := by
                have hle := g.le s h
                rcases Nat.lt_or_ge (G.1.s s).read (G.1.s s).words.length with hl | hg
                · exact hl
                · exfalso
                  have heq : (G.1.s s).read = (G.1.s s).words.length := by omega
                  subst hs
                  simp only [stateOf, hi] at hst
                  rw [if_pos ⟨h1, hq, heq⟩] at hst
                  cases hst
              rw [if_pos hlt, old]
            · rw [hq] at old
              simp only [if_true] at old ⊢
              rw [g.src s h hq]
              rw [old]
              split <;> omega
          · rw [if_neg (c := i.op = 1 ∧ s = i.b.toNat) (fun e => hs e.2), if_neg (c := i.op = 1 ∧ i.b = (s : Int)) (fun e => hs ((hbs s (Or.inl h1)).2 e.2)), Nat.add_zero]
            split <;> exact old
        · rw [if_neg (c := i.op = 1 ∧ s = i.b.toNat) (fun e => h1 e.1), if_neg (c := i.op = 1 ∧ i.b = (s : Int)) (fun e => h1 e.1), Nat.add_zero]
          split <;> exact old
      · rw [if_neg hkk]
        have hne : ¬ (i.op = 1 ∧ s = i.b.toNat) := by
          rintro ⟨e1, e2⟩
          have e3 := (hbs s (Or.inl e1)).1 e2
          rw [e1, e3] at hu
          exact hkk (ok.rd s k' k hu' hu)
        rw [if_neg (c := i.op = 1 ∧ s = i.b.toNat) hne]
        split <;> exact old
    · intro s h hq
      dsimp only
      rw [hS s h]
      have hne : ¬ (i.op = 2 ∧ s = i.b.toNat) := by
        rintro ⟨e1, e2⟩
        have e3 := (hbs s (Or.inr e1)).1 e2
        rw [e1, e3, ok.src s k hq] at hu
        cases hu
      rw [if_neg (c := i.op = 2 ∧ s = i.b.toNat) hne]
      split <;> exact g.src s h hq
    · intro s h
      dsimp only
      rw [hS s h]
      have := g.le s h
      split
      · dsimp only; split <;> omega
      · split
        · dsimp only; simp; omega
        · exact this
    · intro s h hq hn
      dsimp only
      rw [hS s h]
      have hne : ¬ (i.op = 2 ∧ s = i.b.toNat) := by
        rintro ⟨e1, e2⟩
        have e3 := (hbs s (Or.inr e1)).1 e2
        rw [e1, e3, hn k hk] at hu
        cases hu
      rw [if_neg (c := i.op = 2 ∧ s = i.b.toNat) hne]
      split <;> exact g.nowr s h hq hn
    · intro s h hn
      dsimp only
      rw [hS s h]
      have hne : ¬ (i.op = 1 ∧ s = i.b.toNat) := by
        rintro ⟨e1, e2⟩
        have e3 := (hbs s (Or.inl e1)).1 e2
        rw [e1, e3, hn k hk] at hu
        cases hu
      rw [if_neg (c := i.op = 1 ∧ s = i.b.toNat) hne]
      split <;> exact g.nord s h hn
    · intro k' hk' j h
      dsimp only at h ⊢
      -- an instruction that was done before
      have oldstep : ∀ (k' : Nat), k' < N.workers.length → ∀ (j : Nat) (hj : j < (G.2 k').length), ∃ i', insAt N k' (G.2 k')[j] = some i' ∧
          (full G k')[j + 1]? = some (nextW (G.2 k')[j] i' ((R'.s i'.b.toNat).words[inN N k' i'.b.toNat ((G.2 k').take j)]?)) ∧
          (i'.op = 1 → srcd N i'.b.toNat = false → inN N k' i'.b.toNat ((G.2 k').take j) < (R'.s i'.b.toNat).words.length) := by
        intro k' hk' j hj
        obtain ⟨i', h1, h2, h3⟩ := g.tr5 k' hk' j hj
        have hm' : i' ∈ codeOf N k' := List.mem_of_getElem? h1
        have hb' := (ok.ins k' hk' i' hm').2.2
        refine ⟨i', h1, ?_, ?_⟩
        · by_cases ho : i'.op = 1
          · have hbb := hb' (Or.inl ho)
            have hlt' : i'.b.toNat < N.streams.length := by omega
            obtain ⟨l, hl⟩ := hgrow i'.b.toNat hlt'
            rw [h2]
            congr 2
            cases hq : srcd N i'.b.toNat
            · rw [hl, List.getElem?_append_left (h3 ho hq)]
            · have e1 := g.src i'.b.toNat hlt' hq
              have hne : ¬ (i.op = 2 ∧ i'.b.toNat = i.b.toNat) := by
                rintro ⟨e1, e2⟩
                have e3 := (hbs _ (Or.inr e1)).1 e2
                rw [e1, e3, ok.src _ k hq] at hu
                cases hu
              rw [hS _ hlt', if_neg (c := i.op = 2 ∧ i'.b.toNat = i.b.toNat) hne]
              split <;> rfl
          · rw [h2, nextW_congr _ _ _ _ ho]
        · intro ho hq
          have hbb := hb' (Or.inl ho)
          obtain ⟨l, hl⟩ := hgrow i'.b.toNat (by omega)
          have := h3 ho hq
          rw [hl]; simp; omega
      by_cases hkk : k' = k
      · subst hkk
        simp only [if_true] at h ⊢
        simp only [full, if_true]
        have hlen : (G.2 k' ++ [G.1.w k']).length = (G.2 k').length + 1 := by simp
        by_cases hj : j < (G.2 k').length
        · obtain ⟨i', h1, h2, h3⟩ := oldstep k' hk' j hj
          have e1 : (G.2 k' ++ [G.1.w k'])[j] = (G.2 k')[j] := List.getElem_append_left hj
          refine ⟨i', by rw [e1]; exact h1, ?_, ?_⟩
          · rw [e1, take_append_lt _ _ _ (by omega), List.getElem?_append_left (by rw [hlen]; omega)]
            exact h2
          · rw [take_append_lt _ _ _ (by omega)]; exact h3
        · have hj' : j = (G.2 k').length := by omega
          subst hj'
          have e1 : (G.2 k' ++ [G.1.w k'])[(G.2 k').length] = G.1.w k' := by simp
          have e2 : (G.2 k' ++ [G.1.w k']).take (G.2 k').length = G.2 k' := by simp
          refine ⟨i, by rw [e1]; exact hi, ?_, ?_⟩
          · rw [e1, e2, List.getElem?_append_right (by rw [hlen]; omega), hlen]
            simp only [Nat.sub_self, List.getElem?_cons_zero]
            rw [hW]
            congr 1
            by_cases ho : i.op = 1
            · have hbb := hb (Or.inl ho)
              have hlt' : i.b.toNat < N.streams.length := by omega
              have hbe : i.b = ((i.b.toNat : Nat) : Int) := by omega
              have hu1 : usesB (codeOf N k') 1 (i.b.toNat : Nat) = true := by rw [ho] at hu; rw [← hbe]; exact hu
              have old := g.rd k' i.b.toNat hk' hlt' hu1
              have hww : (R'.s i.b.toNat).words = (G.1.s i.b.toNat).words := by rw [hS _ hlt', if_pos ⟨ho, rfl⟩]
              rw [hww]
              congr 1
              cases hq : srcd N i.b.toNat
              · rw [hq] at old
                simp only [Bool.false_eq_true, if_false] at old
                rw [old]
              · rw [hq] at old
                simp only [if_true] at old
                rw [old, g.src _ hlt' hq]
                by_cases hle : inN N k' i.b.toNat (G.2 k') ≤ (srcWords N i.b.toNat).length
                · rw [Nat.min_eq_left hle]
                · rw [Nat.min_eq_right (by omega), List.getElem?_eq_none (Nat.le_refl _), List.getElem?_eq_none (by omega)]
            · exact nextW_congr _ _ _ _ ho
          · intro ho hq
            have hbb := hb (Or.inl ho)
            have hlt' : i.b.toNat < N.streams.length := by omega
            have hbe : i.b = ((i.b.toNat : Nat) : Int) := by omega
            have hu1 : usesB (codeOf N k') 1 (i.b.toNat : Nat) = true := by rw [ho] at hu; rw [← hbe]; exact hu
            have old := g.rd k' i.b.toNat hk' hlt' hu1
            rw [hq] at old
            simp only [Bool.false_eq_true, if_false] at old
            have hww : (R'.s i.b.toNat).words = (G.1.s i.b.toNat).words := by rw [hS _ hlt', if_pos ⟨ho, rfl⟩]
            rw [e2, hww, ← old]
            have hle := g.le _ hlt'
            rcases Nat.lt_or_ge (G.1.s i.b.toNat).read (G.1.s i.b.toNat).words.length with hl | hg
            · exact hl
            · exfalso
              have heq : (G.1.s i.b.toNat).read = (G.1.s i.b.toNat).words.length := by omega
              simp only [stateOf, hi] at hst
              rw [if_pos ⟨ho, hq, heq⟩] at hst
              cases hst
      · simp only [if_neg hkk] at h ⊢
        obtain ⟨i', h1, h2, h3⟩ := oldstep k' hk' j h
        refine ⟨i', h1, ?_, h3⟩
        simp only [full, if_neg hkk]
        rw [hWo k' hkk]
        exact h2

theorem gi_ev {N : Net} (ok : Ok N) {G : Rc × (Nat → List Wk)} (g : GI N G) (e : Nat ⊕ Nat) : GI N (ev N G e) := by
  cases e with
  | inl k =>
    simp only [ev]
    split
    · rename_i h; exact gi_step ok g k h.1 h.2
    · exact g
  | inr s => exact gi_grow g s

theorem gi_run {N : Net} (ok : Ok N) (rooms : List Int) : ∀ es, GI N (grun N rooms es)
  | [] => gi_init ok rooms
  | e :: es => gi_ev ok (gi_run ok rooms es) e

end Go.Proofs.YthfdgdfnflilfaaGreatDoor
/- Walks that come to a communication of one goroutine: what the kit's wp says, of frames that are no early ones; a send, a receive, a select taken as one step of the machine. -/
namespace Go.Proofs.YthfdgdfnflilfaaGreatDoor
open Go.RowKit Go.Conc

section
variable {P : Program} {Q : Exit → Act → World → Prop} {a : Act} {w : World}

def wpN (P : Program) (c : Code) (Q : Exit → Act → World → Prop) (a : Act) (w : World) : Prop :=
  ∀ (b : Frame) (k : List Item) (cs : List Frame), b.kind ≠ .early → ∃ e a' w', Q e a' w' ∧ Arrives P (lone (b.at a (.code c :: k)) cs w) b k cs e a' w'

def wpRest (P : Program) (ops : Array Oper) (Q : Exit → Act → World → Prop) (l : List Nat) (a : Act) (w : World) : Prop :=
  ∀ (b : Frame) (k : List Item) (cs : List Frame), b.kind ≠ .early → ∃ e a' w', Q e a' w' ∧ Arrives P (lone (b.at a (.inRegion ops l :: k)) cs w) b k cs e a' w'

theorem wpN_of_wp {c : Code} (h : c.wp P Q a w) : wpN P c Q a w := fun b k cs _ => h b k cs

theorem wpN_mono {c : Code} {Q' : Exit → Act → World → Prop} (h : wpN P c Q a w) (hq : ∀ e a w, Q e a w → Q' e a w) : wpN P c Q' a w :=
  fun b k cs hb => let ⟨e, a', w', q, r⟩ := h b k cs hb; ⟨e, a', w', hq _ _ _ q, r⟩

theorem arrives_pass {m : Machine} {b : Frame} {y : Code} {k : List Item} {cs : List Frame} {e : Exit} {a' : Act} {w' : World} (he : e ≠ .normal) (h : Arrives P m b (.code y :: k) cs e a' w') : Arrives P m b k cs e a' w' :=
  Arrives.pass (x := .code y) rfl (fun _ _ => .inl he) h

theorem wpN_seq {x y : Code} (h : wpN P x (Exit.then (wpN P y Q) Q) a w) : wpN P (.seq x y) Q a w := by
  intro b k cs hb
  obtain ⟨e, a1, w1, hq, harr⟩ := h b (.code y :: k) cs hb
  by_cases he : e = .normal
  · subst he
    obtain ⟨e2, a2, w2, hq2, harr2⟩ := hq b k cs hb
    exact ⟨e2, a2, w2, hq2, .of_steps (.head step_seq harr) harr2⟩
  · refine ⟨e, a1, w1, ?_, .of_steps (.one step_seq) (arrives_pass he harr)⟩
    cases e <;> first | exact hq | exact absurd rfl he

theorem wpN_block {id : Nat} {c : Code} (h : wpN P c (Exit.inBlock id Q) a w) : wpN P (.block id c) Q a w := by
  intro b k cs hb
  obtain ⟨e, a1, w1, hq, harr⟩ := h b (.inBlock id :: k) cs hb
  cases e with
  | normal => exact ⟨.normal, a1, w1, hq, .head step_block (Steps.trans harr (.one step_inBlock))⟩
  | exit id' =>
    by_cases hid : id' = id
    · subst hid
      exact ⟨.normal, a1, w1, by simpa [Exit.inBlock] using hq, .head step_block (harr k (by simp [exitTo]))⟩
    · have hne : (id == id') = false := by simpa using fun h => hid h.symm
      exact ⟨.exit id', a1, w1, by simpa [Exit.inBlock, hid] using hq, fun k' hk => .head step_block (harr k' (by simp [exitTo, hne, hk]))⟩
  | goto l => exact ⟨_, a1, w1, hq, fun k' hk => .head step_block (harr k' (by simp [gotoIn, hk]))⟩
  | ret => exact ⟨_, a1, w1, hq, .of_steps (.one step_block) harr⟩
  | panic ch => exact ⟨_, a1, w1, hq, .of_steps (.one step_block) harr⟩
  | outgrown => exact ⟨_, a1, w1, hq, .of_steps (b := b) (k := k) (cs := cs) (e := .outgrown) (.one step_block) harr⟩

theorem wpN_cond {c : Operand} {x y : Code} (t : Bool) (hc : a.eval c = .bool t) (h : wpN P (if t then x else y) Q a w) : wpN P (.cond c x y) Q a w :=
  fun b k cs hb => let ⟨e, a', w', q, r⟩ := h b k cs hb; ⟨e, a', w', q, .of_steps (.one (step_cond hc)) r⟩

theorem wpN_loop {c : Code} (I : Nat → Act → World → Prop) (n : Nat) (h0 : I n a w)
    (round : ∀ n a w, I n a w → wpN P c (Exit.then (fun a' w' => ∃ m, m < n ∧ I m a' w') Q) a w) : wpN P (.loop c) Q a w := by
  intro b k cs hb
  have key : ∀ n a w, I n a w → ∃ e a' w', Q e a' w' ∧ Arrives P (lone (b.at a (.code c :: .inLoop c :: k)) cs w) b k cs e a' w' := by
    intro n
    induction n using Nat.strongRecOn with
    | _ n ih =>
      intro a w hI
      obtain ⟨e, a1, w1, hq, harr⟩ := round n a w hI b (.inLoop c :: k) cs hb
      by_cases he : e = .normal
      · subst he
        obtain ⟨m, hm, hI1⟩ := hq
        obtain ⟨e2, a2, w2, hq2, harr2⟩ := ih m hm a1 w1 hI1
        exact ⟨e2, a2, w2, hq2, .of_steps (Steps.trans harr (.one step_inLoop)) harr2⟩
      · refine ⟨e, a1, w1, ?_, Arrives.pass (x := .inLoop c) rfl (fun _ _ => .inl he) harr⟩
        cases e <;> first | exact hq | exact absurd rfl he
  obtain ⟨e, a', w', hq, harr⟩ := key n a w h0
  exact ⟨e, a', w', hq, .of_steps (.one step_loop) harr⟩

/-! ### A region, operation by operation -/
theorem wpN_region {id : Nat} {ops : Array Oper} (h : wpRest P ops Q (List.range ops.size) a w) : wpN P (.region id ops false) Q a w :=
  fun b k cs hb => let ⟨e, a', w', q, r⟩ := h b k cs hb; ⟨e, a', w', q, .of_steps (.one step_region) r⟩

theorem rest_of_list {ops : Array Oper} (i : Nat) (l : List Oper) (hl : ∀ j, l[j]? = ops[i + j]?) (h : wpList P ops Q l a w) : wpRest P ops Q (List.range' i l.length) a w :=
  fun b k cs _ => wp_ops _ a w (by rw [wpOps_eq_wpList l i hl]; exact h) b k cs

theorem rest_value {ops : Array Oper} {i : Nat} {rest : List Nat} (o : Oper) (ho : ops[i]? = some o) (hg : o.guard = none) (v : Value) (w' : World) (hr : (execOp a.eval o).run P w = .ok (.value v) w')
    (h : wpRest P ops Q rest (a.put o.dst v) w') : wpRest P ops Q (i :: rest) a w := by
  intro b k cs hb
  obtain ⟨e, a1, w1, hq, harr⟩ := h b k cs hb
  refine ⟨e, a1, w1, hq, .of_steps (.one (step_lone_go ?_)) harr⟩
  have hw : Region.wanted o (yielded ops a.tmps) = true := by simp [Region.wanted, hg]
  have hfin : (b.at a (.inRegion ops (i :: rest) :: k)).finish v = b.at (a.put o.dst v) (.inRegion ops rest :: k) := by rw [Frame.finish_at, ho]; rfl
  rw [stepG_op ho hw, ← hfin]
  simp [stepG.apply, hr]

theorem rest_nil {ops : Array Oper} (h : Q .normal a w) : wpRest P ops Q [] a w := fun b k cs _ => wp_ops [] a w h b k cs

theorem rest_step {ops : Array Oper} {i : Nat} {rest : List Nat} (o : Oper) (ho : ops[i]? = some o) (v : Value) (w' : World)
    (hs : ∀ (b : Frame) (k : List Item) (cs : List Frame), b.kind ≠ .early → step P (solo (G (b.at a (.inRegion ops (i :: rest) :: k)) cs) w) = .next (solo (G ((b.at a (.inRegion ops (i :: rest) :: k)).finish v) cs) w'))
    (h : wpRest P ops Q rest (a.put o.dst v) w') : wpRest P ops Q (i :: rest) a w := by
  intro b k cs hb
  obtain ⟨e, a1, w1, hq, harr⟩ := h b k cs hb
  refine ⟨e, a1, w1, hq, .of_steps (.one ?_) harr⟩
  have hfin : (b.at a (.inRegion ops (i :: rest) :: k)).finish v = b.at (a.put o.dst v) (.inRegion ops rest :: k) := by rw [Frame.finish_at, ho]; rfl
  rw [lone_eq_solo, lone_eq_solo, ← hfin]
  exact hs b k cs hb

/-- The communication of an operation that is wanted. -/
theorem comm_of {ops : Array Oper} {i : Nat} {rest : List Nat} {o : Oper} (ho : ops[i]? = some o) (hg : o.guard = none) {cases : Array CommCase} {blocking : Bool} {shape : CommShape} {w' : World}
    (hr : (execOp a.eval o).run P w = .ok (.comm cases blocking shape) w') (b : Frame) (k : List Item) (cs : List Frame) (hb : b.kind ≠ .early) :
    stepG P true (G (b.at a (.inRegion ops (i :: rest) :: k)) cs) w = .comm (G (b.at a (.inRegion ops (i :: rest) :: k)) cs) cases blocking shape w' (listed P b.fn a o w) :=
  stepG_comm ho (by simp [Region.wanted, hg]) hb hr

/-- A region whose first operation is a communication, the others plain. -/
theorem wpN_region_first {id : Nat} {o : Oper} {l : List Oper} (v : Value) (w' : World)
    (hs : ∀ (b : Frame) (k : List Item) (cs : List Frame), b.kind ≠ .early → step P (solo (G (b.at a (.inRegion (o :: l).toArray (0 :: List.range' 1 l.length) :: k)) cs) w) = .next (solo (G ((b.at a (.inRegion (o :: l).toArray (0 :: List.range' 1 l.length) :: k)).finish v) cs) w'))
    (h : wpList P (o :: l).toArray Q l (a.put o.dst v) w') : wpN P (.region id (o :: l).toArray false) Q a w := by
  refine wpN_region ?_
  have e : List.range (o :: l).toArray.size = 0 :: List.range' 1 l.length := by
    rw [List.range_eq_range']; simp [List.range'_succ]
  rw [e]
  exact rest_step o rfl v w' hs (rest_of_list 1 l (fun j => by rw [Nat.add_comm]; simp) h)

theorem calls_of_wpN {f : FuncId} {fn : Func} {c : Code} {args : Array Value} {R : Ending → World → Prop} (hf : P.funcs[f]? = some fn) (hb : fn.body = some c)
    (h : wpN P c (bodyPost P fn R) { tmps := args ++ Array.replicate (fn.ntmps - args.size) undef, defers := [] } w) : Calls P f args w R := by
  intro cs
  let b : Frame := { (default : Frame) with fn := f, kind := .normal }
  have hk : b.kind ≠ .early := by simp [b]
  have henter : Frame.enter P f args .normal = b.at { tmps := args ++ Array.replicate (fn.ntmps - args.size) undef, defers := [] } [.code c] := by simp [Frame.enter, Frame.at, hf, hb, b]
  obtain ⟨e, a', w', hq, harr⟩ := h b [] cs hk
  rw [← henter] at harr
  cases e with
  | normal =>
    obtain ⟨hd, v, hr, hR⟩ := hq
    exact ⟨.returned v, w', _, hR, Steps.trans harr (.one step_end), rfl, rfl, hd, rfl, fn, hf, hr⟩
  | ret =>
    obtain ⟨hd, v, hr, hR⟩ := hq
    obtain ⟨todo, hs⟩ := harr
    exact ⟨.returned v, w', _, hR, hs, rfl, rfl, hd, rfl, fn, hf, hr⟩
  | panic chain =>
    obtain ⟨hd, hR⟩ := hq
    obtain ⟨todo, hs⟩ := harr
    exact ⟨.panicked chain, w', _, hR, hs, rfl, rfl, hd, fn, hf⟩
  | exit id => exact hq.elim
  | goto l => exact hq.elim
  | outgrown => exact ⟨.outgrown, w', b, hq, harr.resolve_left hk, rfl, trivial⟩
end

end Go.Proofs.YthfdgdfnflilfaaGreatDoor
/- Package streams: what a stream is in memory; what only looks at it. -/
namespace Go.Proofs.YthfdgdfnflilfaaGreatDoor
open Go.RowKit Go.Conc

/-- What may have turned: blocks of S, and new ones. -/
structure Fr (S : Nat → Prop) (w w' : World) : Prop where
  os : w'.os = w.os
  tape : w'.tape = w.tape
  output : w'.output = w.output
  size : w.heap.size ≤ w'.heap.size
  block : ∀ k, k < w.heap.size → ¬ S k → w'.heap[k]? = w.heap[k]?

theorem Fr.of_below {S : Nat → Prop} {w w' : World} (h : Below w.heap.size w w') : Fr S w w' := ⟨h.os, h.tape, h.output, h.size, fun k hk _ => h.block k hk⟩
theorem Fr.below {w w' : World} (h : Fr (fun _ => False) w w') : Below w.heap.size w w' := ⟨h.os, h.tape, h.output, h.size, fun k hk => h.block k hk (fun f => f)⟩
theorem Fr.refl (S : Nat → Prop) (w : World) : Fr S w w := ⟨rfl, rfl, rfl, Nat.le_refl _, fun _ _ _ => rfl⟩
theorem Fr.mono {S T : Nat → Prop} {w w' : World} (h : Fr S w w') (hs : ∀ k, k < w.heap.size → S k → T k) : Fr T w w' := ⟨h.os, h.tape, h.output, h.size, fun k hk hn => h.block k hk (fun e => hn (hs k hk e))⟩
theorem Fr.trans {S T : Nat → Prop} {a b c : World} (h : Fr S a b) (k : Fr T b c) (hs : ∀ x, x < a.heap.size → T x → S x) : Fr S a c :=
  ⟨k.os.trans h.os, k.tape.trans h.tape, k.output.trans h.output, Nat.le_trans h.size k.size, fun x hx hn => (k.block x (Nat.lt_of_lt_of_le hx h.size) (fun e => hn (hs x hx e))).trans (h.block x hx hn)⟩
theorem Fr.drewN {S : Nat → Prop} {w w' : World} (h : Fr S w w') (q : Nat) : Fr S w (w'.drewN q) := ⟨h.os, h.tape, h.output, h.size, h.block⟩
theorem Fr.setCell {S : Nat → Prop} {w w' : World} (h : Fr S w w') {p : Addr} (hp : w.heap.size ≤ p.block ∨ S p.block) (v : Value) : Fr S w (w'.setCell p v) :=
  ⟨h.os, h.tape, h.output, by simpa [World.setCell] using h.size, fun k hk hn => (Below.heap_setCell _ _ _ _ (fun e => by subst e; rcases hp with hp | hp; omega; exact hn hp)).trans (h.block k hk hn)⟩
theorem Fr.alloc {S : Nat → Prop} {w w' : World} (h : Fr S w w') (o : Obj) : Fr S w (w'.alloc o) :=
  ⟨h.os, h.tape, h.output, by have := h.size; simp; omega, fun k hk hn => (Below.heap_alloc _ _ _ (by have := h.size; omega)).trans (h.block k hk hn)⟩
theorem Fr.setChan {S : Nat → Prop} {w w' : World} (h : Fr S w w') {c : Nat} (hc : w.heap.size ≤ c ∨ S c) (cap : Nat) (buf : Array Value) (cl : Bool) (s r : Nat) (tm : Bool) : Fr S w (w'.setChan c cap buf cl s r tm) :=
  ⟨h.os, h.tape, h.output, by rw [size_setChan]; exact h.size, fun k hk hn => by
    have hne : c ≠ k := fun e => by subst e; rcases hc with hc | hc; omega; exact hn hc
    rw [← h.block k hk hn]
    simp only [World.setChan]
    rw [Array.getElem?_setIfInBounds_ne hne]⟩
theorem Fr.grown {S : Nat → Prop} {w w1 w' : World} {row : Option Nat} (h : Fr S w w1) (hg : w1.grownBy w' row) (hr : ∀ k, row = some k → w.heap.size ≤ k ∨ S k) : Fr S w w' :=
  ⟨hg.os.trans h.os, hg.tape.trans h.tape, hg.output.trans h.output, Nat.le_trans h.size hg.size, fun k hk hn => (hg.block k (Nat.lt_of_lt_of_le hk h.size) (fun e => by rcases hr k e.symm with h1 | h1; omega; exact hn h1)).trans (h.block k hk hn)⟩

/-- What only a state tells of: the room of a stream that nobody reads. -/
def unusedV : Bool → Option Nat → Nat → Int
  | false, none, r => (r : Int)
  | _, _, _ => 0
@[simp] theorem unusedV_none (r : Nat) : unusedV false none r = (r : Int) := rfl
@[simp] theorem unusedV_src (c : Option Nat) (r : Nat) : unusedV true c r = 0 := by cases c <;> rfl
@[simp] theorem unusedV_some (b : Bool) (c r : Nat) : unusedV b (some c) r = 0 := by cases b <;> rfl

/-- A stream in memory: its struct at block b, its words vw, its channel ch. -/
structure StAt (w : World) (b : Nat) (vw : Value) (ch : Option Nat) (sourced : Bool) (m : Sm) : Prop where
  blk : w.heap[b]? = some (.cells #[.bool sourced, vw, .int .i64 (if sourced then (m.read : Int) else 0), .chan ch, .int .i64 (unusedV sourced ch m.room)] 111 (0, 0))
  own : w.ownsRow 0 3 1 vw m.words.length (intRow m.words)
  le : m.read ≤ m.words.length
  small : m.words.length ≤ 4398046511104
  chan : ∀ c, ch = some c → (∃ s r, w.heap[c]? = some (.chan m.room (intRow (m.words.drop m.read)).toArray false s r false)) ∧ m.words.length - m.read ≤ m.room ∧ m.room ≤ 1000
  nosrc : ∀ c, ch = some c → sourced = false

theorem blk_cell {w : World} {b : Nat} {l : List Value} {t : TypeId} (h : w.heap[b]? = some (.cells l.toArray t (0, 0))) (i : Nat) (v : Value) (hi : l[i]? = some v) : w.cell? ⟨b, i, none⟩ = some v ∧ w.frozen? ⟨b, i, none⟩ = false :=
  ⟨row_cell h hi, row_frozen h i⟩

theorem StAt.cells {w : World} {b : Nat} {vw : Value} {ch : Option Nat} {sourced : Bool} {m : Sm} (h : StAt w b vw ch sourced m) :
    w.cell? ⟨b, 0, none⟩ = some (.bool sourced) ∧ w.cell? ⟨b, 1, none⟩ = some vw ∧ w.cell? ⟨b, 2, none⟩ = some (.int .i64 (if sourced then (m.read : Int) else 0)) ∧ w.cell? ⟨b, 3, none⟩ = some (.chan ch) ∧
      (∀ i, w.frozen? ⟨b, i, none⟩ = false) :=
  ⟨row_cell h.blk rfl, row_cell h.blk rfl, row_cell h.blk rfl, row_cell h.blk rfl, fun i => row_frozen h.blk i⟩

/-- The words' value, written out. -/
theorem own_form {w : World} {vw : Value} {l : List Int} (h : w.ownsRow 0 3 1 vw l.length (intRow l)) : ∃ a cap, vw = .slice a l.length cap ∧ l.length ≤ cap ∧ (∀ i, i < l.length → ∃ g, a = some ⟨g, 0, none⟩ ∧ w.cell? ⟨g, i, none⟩ = some (.int .i64 (l.getD i 0))) := by
  obtain ⟨h1, h2⟩ := h
  rcases h2 with ⟨h3, h4⟩ | ⟨g, cap, cur, hv, hg, hh, hn, hm, hs, ht⟩
  · exact ⟨none, 0, by rw [h3, h4], by omega, fun i hi => by omega⟩
  · refine ⟨some ⟨g, 0, none⟩, cap, hv, hn, fun i hi => ⟨g, rfl, ?_⟩⟩
    have e : (intRow l)[i]? = some (.int .i64 (l.getD i 0)) := by rw [intRow_get _ _ hi, getD_eq _ _ _ hi]
    rw [← ht] at e
    simp only [Nat.mul_one] at e
    rw [List.getElem?_take_of_lt hi] at e
    simp [World.cell?, hh]
    simpa using e

theorem run_equalIn_chan_nil {P : Program} (w : World) (d : Nat) (t : TypeId) {dir : ChanDir} {e : TypeId} (a : Option Nat) (h : P.underlying t = some (.chan dir e)) :
    (Op.equalIn (d + 1) t (.chan a) (.chan none)).run P w = .ok a.isNone w := by
  cases a <;> simp [Op.equalIn, run_underlying h]
theorem run_eql_chan_nil {P : Program} (w : World) (t : TypeId) {dir : ChanDir} {e : TypeId} (a : Option Nat) (h : P.underlying t = some (.chan dir e)) :
    (binOp .eql t (.chan a) (.chan none)).run P w = .ok (.bool a.isNone) w := by
  simp only [binOp]
  simp [Op.equal, Op.maxDepth, run_equalIn_chan_nil w 9999 t a h]
theorem run_neq_chan_nil {P : Program} (w : World) (t : TypeId) {dir : ChanDir} {e : TypeId} (a : Option Nat) (h : P.underlying t = some (.chan dir e)) :
    (binOp .neq t (.chan a) (.chan none)).run P w = .ok (.bool (!a.isNone)) w := by
  simp only [binOp]
  simp [Op.equal, Op.maxDepth, run_equalIn_chan_nil w 9999 t a h]
theorem run_len_nilchan {P : Program} (w : World) (t ty : TypeId) {dir : ChanDir} {e : TypeId} (h : P.underlying t = some (.chan dir e)) :
    (Builtin.len_ #[t] ty #[.chan none]).run P w = .ok (goInt 0) w := by
  simp [Builtin.len_, run_underlying h]
theorem run_cap_nilchan {P : Program} (w : World) (t ty : TypeId) {dir : ChanDir} {e : TypeId} (h : P.underlying t = some (.chan dir e)) :
    (Builtin.cap_ #[t] ty #[.chan none]).run P w = .ok (goInt 0) w := by
  simp [Builtin.cap_, run_underlying h]

set_option maxHeartbeats 400000 in
/-- give: a source's next word. -/
theorem give_calls {w : World} {b : Nat} {vw : Value} {m : Sm} (h : StAt w b vw none true m) :
    Calls Tryz.prog 92 #[.pointer (some ⟨b, 0, none⟩)] w fun e w' =>
      (e = .returned (.tuple #[.int .i64 (m.words.getD m.read 0), .int .i64 0]) ∧ m.read < m.words.length ∧ (∃ q, w' = (w.setCell ⟨b, 2, none⟩ (.int .i64 ((m.read : Int) + 1))).drewN q)) ∨
      (e = .returned (.tuple #[.int .i64 0, .int .i64 2]) ∧ m.read = m.words.length ∧ ∃ q, w' = w.drewN q) := by
  obtain ⟨c0, c1, c2, c3, cf⟩ := h.cells
  obtain ⟨a, cap, rfl, hcap, hw⟩ := own_form h.own
  have hle := h.le
  have hsm := h.small
  have f2 := cf 2
  simp only [if_true] at c2
  clear cf h
  by_cases hlt : m.read < m.words.length
  · obtain ⟨g, rfl, d0⟩ := hw m.read hlt
    have HL := hide hlt
    have hne : (((m.read : Int)) == (m.words.length : Int)) = false := by simp; omega
    have hk0 : (0 : Int) ≤ (m.read : Int) := by omega
    have hk1 : (m.read : Int) < (m.words.length : Int) := by omega
    clear hw
    generalize m.words.getD m.read 0 = x at *
    go_enter Tryz.func92, Tryz.ntmps92
    go_wp2
    go_quiet (fail)
    go_wp2
    go_quiet (fail)
    go_wp2
    go_ret2
    exact Or.inl ⟨rfl, HL.out, _, rfl⟩
  · have HL : Hid (m.read = m.words.length) := by unfold Hid; omega
    have hne : (((m.read : Int)) == (m.words.length : Int)) = true := by simp; omega
    clear hw
    go_enter Tryz.func92, Tryz.ntmps92
    go_wp2
    go_quiet (fail)
    go_wp2
    go_ret2
    exact Or.inr ⟨rfl, HL.out, _, rfl⟩

/-! ### What stays -/
theorem own_of_block {w w' : World} {e : TypeId} {size : Nat} {v : Value} {n : Nat} {xs : List Value} (h : w.ownsRow 0 e size v n xs) (hk : ∀ g, v.ownBlock = some g → w'.heap[g]? = w.heap[g]?) : w'.ownsRow 0 e size v n xs := by
  obtain ⟨h1, h2⟩ := h
  refine ⟨h1, ?_⟩
  rcases h2 with h2 | ⟨g, cap, cur, hv, hg, hh, r⟩
  · exact Or.inl h2
  · exact Or.inr ⟨g, cap, cur, hv, hg, by rw [hk g (by rw [hv]; rfl)]; exact hh, r⟩

theorem own_block {w : World} {e : TypeId} {size : Nat} {v : Value} {n : Nat} {xs : List Value} (h : w.ownsRow 0 e size v n xs) {g : Nat} (hg : v.ownBlock = some g) : ∃ cur, w.heap[g]? = some (.cells cur e (0, 0)) := by
  obtain ⟨_, h2⟩ := h
  rcases h2 with ⟨h2, _⟩ | ⟨g', cap, cur, hv, _, hh, _⟩
  · rw [h2] at hg; cases hg
  · rw [hv] at hg
    have : g' = g := by simpa [Value.ownBlock] using hg
    subst this
    exact ⟨cur, hh⟩

/-- Blocks of two makes are two. -/
theorem ne_of_types {w : World} {a b : Nat} {c c' : Array Value} {s t : TypeId} {f f' : Nat × Nat} (ha : w.heap[a]? = some (.cells c s f)) (hb : w.heap[b]? = some (.cells c' t f')) (hst : s ≠ t) : a ≠ b := by
  intro e; subst e; rw [ha] at hb; injection hb with hb; injection hb with _ h2; exact hst h2
theorem ne_of_chan {w : World} {a b : Nat} {c : Array Value} {s : TypeId} {f : Nat × Nat} {cap : Nat} {buf : Array Value} {cl tm : Bool} {x y : Nat} (ha : w.heap[a]? = some (.cells c s f)) (hb : w.heap[b]? = some (.chan cap buf cl x y tm)) : a ≠ b := by
  intro e; subst e; rw [ha] at hb; injection hb with hb; cases hb

theorem blk_set {w : World} {b : Nat} {l : List Value} {t : TypeId} (h : w.heap[b]? = some (.cells l.toArray t (0, 0))) (i : Nat) (v : Value) : (w.setCell ⟨b, i, none⟩ v).heap[b]? = some (.cells (l.set i v).toArray t (0, 0)) := by
  have hlt : b < w.heap.size := (Array.getElem?_eq_some_iff.1 h).1
  simp only [World.setCell, Array.getElem?_modify]
  rw [h]
  simp

theorem lt_of_blk {w : World} {b : Nat} {o : Obj} (h : w.heap[b]? = some o) : b < w.heap.size := (Array.getElem?_eq_some_iff.1 h).1

theorem StAt.ne_own {w : World} {b : Nat} {vw : Value} {ch : Option Nat} {sourced : Bool} {m : Sm} (h : StAt w b vw ch sourced m) {g : Nat} (hg : vw.ownBlock = some g) : g ≠ b := by
  obtain ⟨cur, hc⟩ := own_block h.own hg
  exact ne_of_types hc h.blk (by decide)
theorem StAt.ne_chan {w : World} {b : Nat} {vw : Value} {ch : Option Nat} {sourced : Bool} {m : Sm} (h : StAt w b vw ch sourced m) {c : Nat} (hc : ch = some c) : b ≠ c := by
  obtain ⟨⟨s, r, h1⟩, _⟩ := h.chan c hc
  exact ne_of_chan h.blk h1
theorem StAt.own_ne_chan {w : World} {b : Nat} {vw : Value} {ch : Option Nat} {sourced : Bool} {m : Sm} (h : StAt w b vw ch sourced m) {c g : Nat} (hc : ch = some c) (hg : vw.ownBlock = some g) : g ≠ c := by
  obtain ⟨⟨s, r, h1⟩, _⟩ := h.chan c hc
  obtain ⟨cur, h2⟩ := own_block h.own hg
  exact ne_of_chan h2 h1

/-- A stream stays where its blocks do. -/
theorem StAt.stays {w w' : World} {b : Nat} {vw : Value} {ch : Option Nat} {sourced : Bool} {m : Sm} (h : StAt w b vw ch sourced m) (hk : ∀ x, x = b ∨ vw.ownBlock = some x ∨ ch = some x → w'.heap[x]? = w.heap[x]?) : StAt w' b vw ch sourced m :=
  ⟨by rw [hk b (Or.inl rfl)]; exact h.blk, own_of_block h.own fun g hg => hk g (Or.inr (Or.inl hg)), h.le, h.small,
    fun c hc => by rw [hk c (Or.inr (Or.inr hc))]; exact h.chan c hc, h.nosrc⟩

theorem StAt.below {w w' : World} {b : Nat} {vw : Value} {ch : Option Nat} {sourced : Bool} {m : Sm} (h : StAt w b vw ch sourced m) (hb : Below w.heap.size w w') : StAt w' b vw ch sourced m := by
  refine h.stays fun x hx => hb.block x ?_
  rcases hx with rfl | hx | hx
  · exact lt_of_blk h.blk
  · obtain ⟨cur, hc⟩ := own_block h.own hx; exact lt_of_blk hc
  · obtain ⟨⟨s, r, h1⟩, _⟩ := h.chan x hx; exact lt_of_blk h1

/-- One word of a source more was read. -/
theorem StAt.given {w : World} {b : Nat} {vw : Value} {m : Sm} (h : StAt w b vw none true m) (hlt : m.read < m.words.length) (q : Nat) :
    StAt ((w.setCell ⟨b, 2, none⟩ (.int .i64 ((m.read : Int) + 1))).drewN q) b vw none true { m with read := m.read + 1 } := by
  refine ⟨?_, ?_, hlt, h.small, fun c hc => (by cases hc), fun c hc => (by cases hc)⟩
  · have := blk_set h.blk 2 (.int .i64 ((m.read : Int) + 1))
    simpa using this
  · exact own_of_block (w := w) h.own fun g hg => Below.heap_setCell _ _ _ _ (h.ne_own hg)

end Go.Proofs.YthfdgdfnflilfaaGreatDoor
/- Package streams: Waiting, Full, Room, Take. -/
namespace Go.Proofs.YthfdgdfnflilfaaGreatDoor
open Go.RowKit Go.Conc

theorem unread_size (m : Sm) : (intRow (m.words.drop m.read)).toArray.size = m.words.length - m.read := by simp [intRow]

set_option maxHeartbeats 400000 in
theorem waiting_calls {w : World} {b : Nat} {vw : Value} {ch : Option Nat} {sourced : Bool} {m : Sm} (h : StAt w b vw ch sourced m) (hr : sourced = true ∨ ch ≠ none) :
    Calls Tryz.prog 96 #[.pointer (some ⟨b, 0, none⟩)] w fun e w' => e = .returned (.bool (!sourced && (m.read == m.words.length))) ∧ w' = w := by
  obtain ⟨c0, c1, c2, c3, cf⟩ := h.cells
  clear cf c1 c2
  cases sourced
  · cases ch with
    | none => simp at hr
    | some c =>
      obtain ⟨⟨s, r, hc⟩, hcap, hroom⟩ := h.chan c rfl
      have hlen := fun ty => run_len_chan (P := Tryz.prog) 109 ty Tryz.underlying109 hc
      rw [unread_size] at hlen
      have hle := h.le
      have HE : Hid ((((m.words.length - m.read : Nat) : Int) == 0) = (m.read == m.words.length)) := by
        unfold Hid
        rw [Bool.eq_iff_iff]
        simp only [beq_iff_eq]
        omega
      generalize m.words.length - m.read = u at *
      clear hc h hr
      go_enter Tryz.func96, Tryz.ntmps96
      go_wp2
      go_ret
      exact ⟨ret_bool (by rw [← HE.out]; simp), rfl⟩
  · go_enter Tryz.func96, Tryz.ntmps96
    go_wp2
    go_ret
    exact ⟨ret_bool (by simp), rfl⟩

set_option maxHeartbeats 400000 in
theorem full_calls {w : World} {b : Nat} {vw : Value} {ch : Option Nat} {sourced : Bool} {m : Sm} (h : StAt w b vw ch sourced m) :
    Calls Tryz.prog 97 #[.pointer (some ⟨b, 0, none⟩)] w fun e w' => e = .returned (.bool (ch.isSome && decide (m.room ≤ m.words.length - m.read))) ∧ ∃ q, w' = w.drewN q := by
  obtain ⟨c0, c1, c2, c3, cf⟩ := h.cells
  clear cf c0 c1 c2
  have hneq := fun (wx : World) (a : Option Nat) => run_neq_chan_nil (P := Tryz.prog) wx 109 a Tryz.underlying109
  cases ch with
  | none =>
    go_enter Tryz.func97, Tryz.ntmps97
    go_wp2
    go_quiet (fail)
    go_wp2
    go_ret
    exact ⟨ret_bool (by simp), _, rfl⟩
  | some c =>
    obtain ⟨⟨s, r, hc⟩, hcap, hroom⟩ := h.chan c rfl
    have hlen := fun (q : Nat) ty => run_len_chan (P := Tryz.prog) (w := w.drewN q) 109 ty Tryz.underlying109 hc
    have hcp := fun (q : Nat) ty => run_cap_chan (P := Tryz.prog) (w := w.drewN q) 109 ty Tryz.underlying109 hc
    simp only [unread_size] at hlen
    have HE : Hid ((((m.words.length - m.read : Nat) : Int) == (m.room : Int)) = decide (m.room ≤ m.words.length - m.read)) := by
      unfold Hid
      rw [Bool.eq_iff_iff]
      simp only [beq_iff_eq, decide_eq_true_eq]
      omega
    generalize m.words.length - m.read = u at *
    clear hc h
    go_enter Tryz.func97, Tryz.ntmps97
    go_wp2
    go_quiet (fail)
    go_wp2
    go_ret
    exact ⟨ret_bool (by rw [← HE.out]; simp), _, rfl⟩

set_option maxHeartbeats 400000 in
theorem sroom_calls {w : World} {b : Nat} {vw : Value} {ch : Option Nat} {sourced : Bool} {m : Sm} (h : StAt w b vw ch sourced m) :
    Calls Tryz.prog 69 #[.pointer (some ⟨b, 0, none⟩)] w fun e w' => e = .returned (.tuple #[.int .i64 (if ch.isSome then (m.room : Int) else 0), .int .i64 (if ch.isSome then ((m.words.length - m.read : Nat) : Int) else 0)]) ∧ ∃ q, w' = w.drewN q := by
  obtain ⟨c0, c1, c2, c3, cf⟩ := h.cells
  clear cf c0 c1 c2
  cases ch with
  | none =>
    have hlen := fun (wx : World) ty => run_len_nilchan (P := Tryz.prog) wx 109 ty Tryz.underlying109
    have hcp := fun (wx : World) ty => run_cap_nilchan (P := Tryz.prog) wx 109 ty Tryz.underlying109
    go_enter Tryz.func69, Tryz.ntmps69
    go_wp2
    go_quiet (fail)
    go_wp2
    go_ret2
    exact ⟨rfl, _, rfl⟩
  | some c =>
    obtain ⟨⟨s, r, hc⟩, hcap, hroom⟩ := h.chan c rfl
    have hlen := fun (q : Nat) ty => run_len_chan (P := Tryz.prog) (w := w.drewN q) 109 ty Tryz.underlying109 hc
    have hcp := fun (q : Nat) ty => run_cap_chan (P := Tryz.prog) (w := w.drewN q) 109 ty Tryz.underlying109 hc
    simp only [unread_size] at hlen
    generalize m.words.length - m.read = u at *
    clear hc h
    go_enter Tryz.func69, Tryz.ntmps69
    go_wp2
    go_quiet (fail)
    go_wp2
    go_ret2
    exact ⟨rfl, _, rfl⟩

end Go.Proofs.YthfdgdfnflilfaaGreatDoor
/- Package streams: Take. -/
namespace Go.Proofs.YthfdgdfnflilfaaGreatDoor
open Go.RowKit Go.Conc

/-- What comes of taking a word. -/
def Took (w : World) (b : Nat) (vw : Value) (ch : Option Nat) (sourced : Bool) (m : Sm) (e : Ending) (w' : World) : Prop :=
  (e = .returned (.tuple #[.int .i64 (m.words.getD m.read 0), .int .i64 0]) ∧ m.read < m.words.length ∧ StAt w' b vw ch sourced { m with read := m.read + 1 } ∧ Fr (fun x => x = b ∨ ch = some x) w w' ∧ w'.heap.size = w.heap.size) ∨
  (e = .returned (.tuple #[.int .i64 0, .int .i64 1]) ∧ sourced = false ∧ m.read = m.words.length ∧ ∃ q, w' = w.drewN q) ∨
  (e = .returned (.tuple #[.int .i64 0, .int .i64 2]) ∧ sourced = true ∧ m.read = m.words.length ∧ ∃ q, w' = w.drewN q)

set_option maxHeartbeats 400000 in
theorem take_src {w : World} {b : Nat} {vw : Value} {m : Sm} (h : StAt w b vw none true m) :
    Calls Tryz.prog 78 #[.pointer (some ⟨b, 0, none⟩)] w fun e w' => Took w b vw none true m e w' := by
  obtain ⟨c0, c1, c2, c3, cf⟩ := h.cells
  have HG := hide (give_calls h)
  clear c1 c2 c3 cf
  go_enter Tryz.func78, Tryz.ntmps78
  go_wp2_with fail
  refine (unhide HG).mono ?_
  rintro e w1 (⟨rfl, hlt, q, rfl⟩ | ⟨rfl, heq, q, rfl⟩)
  · have HS := hide (h.given hlt q)
    have HB : Hid (b < w.heap.size) := lt_of_blk h.blk
    have HL := hide hlt
    clear h HG hlt
    go_wp2
    go_ret2
    refine Or.inl ⟨rfl, HL.out, HS.out, ((Fr.refl _ w).setCell (Or.inr (Or.inl rfl)) _).drewN q, by simp [World.setCell]⟩
  · have HE := hide heq
    clear heq
    go_wp2
    go_ret2
    exact Or.inr (Or.inr ⟨rfl, rfl, HE.out, q, rfl⟩)

theorem heap_setChan_ne (w : World) (c k cap : Nat) (buf : Array Value) (cl : Bool) (s r : Nat) (tm : Bool) (h : c ≠ k) : (w.setChan c cap buf cl s r tm).heap[k]? = w.heap[k]? := by
  simp only [World.setChan]
  rw [Array.getElem?_setIfInBounds_ne h]

/-- The first word is gone. -/
theorem StAt.took {w : World} {b c : Nat} {vw : Value} {m : Sm} (h : StAt w b vw (some c) false m) (hlt : m.read < m.words.length) (s r : Nat) :
    StAt (w.setChan c m.room ((intRow (m.words.drop m.read)).toArray.extract 1 (intRow (m.words.drop m.read)).toArray.size) false s r false) b vw (some c) false { m with read := m.read + 1 } := by
  obtain ⟨⟨s0, r0, hc⟩, hcap, hroom⟩ := h.chan c rfl
  have hcl : c < w.heap.size := lt_of_blk hc
  refine ⟨?_, ?_, hlt, h.small, fun c' hc' => ?_, h.nosrc⟩
  · rw [heap_setChan_ne _ _ _ _ _ _ _ _ _ (h.ne_chan rfl).symm]
    exact h.blk
  · exact own_of_block h.own fun g hg => heap_setChan_ne _ _ _ _ _ _ _ _ _ (h.own_ne_chan rfl hg).symm
  · cases hc'
    refine ⟨⟨s, r, ?_⟩, by dsimp only; omega, hroom⟩
    rw [heap_setChan _ _ _ _ _ _ _ _ hcl]
    congr 2
    simp only [intRow, List.extract_toArray, List.size_toArray, List.length_map, List.length_drop, List.map_drop]
    rw [List.extract_eq_take_drop, List.drop_drop, List.take_of_length_le (by simp; omega)]

set_option maxRecDepth 100000 in
set_option maxHeartbeats 1000000 in
theorem take_chan {w : World} {b c : Nat} {vw : Value} {m : Sm} (h : StAt w b vw (some c) false m) :
    Calls Tryz.prog 78 #[.pointer (some ⟨b, 0, none⟩)] w fun e w' => Took w b vw (some c) false m e w' := by
  obtain ⟨c0, c1, c2, c3, cf⟩ := h.cells
  obtain ⟨⟨s, r, hc⟩, hcap, hroom⟩ := h.chan c rfl
  clear cf c1 c2
  refine calls_of_wpN Tryz.func78 rfl ?_
  simp only [Tryz.ntmps78, List.size_toArray, List.length_cons, List.length_nil, Nat.reduceAdd, Nat.reduceSub, Array.replicate_succ, Array.replicate_zero, List.push_toArray, List.append_toArray, List.nil_append, List.cons_append]
  refine wpN_seq (wpN_of_wp ?_)
  go_wp2
  refine wpN_seq (wpN_of_wp ?_)
  go_wp2
  refine wpN_seq (wpN_of_wp ?_)
  go_wp2
  by_cases hlt : m.read < m.words.length
  · have HT := hide (h.took hlt s (r + 1))
    have HF : Hid (Fr (fun x => x = b ∨ some c = some x) w (w.setChan c m.room ((intRow (m.words.drop m.read)).toArray.extract 1 (intRow (m.words.drop m.read)).toArray.size) false s (r + 1) false)) := (Fr.refl _ w).setChan (Or.inr (Or.inr rfl)) _ _ _ _ _ _
    have HSz : Hid ((w.setChan c m.room ((intRow (m.words.drop m.read)).toArray.extract 1 (intRow (m.words.drop m.read)).toArray.size) false s (r + 1) false).heap.size = w.heap.size) := size_setChan _ _ _ _ _ _ _ _
    have HL := hide hlt
    have e0 : (intRow (m.words.drop m.read)).toArray.getD 0 undef = .int .i64 (m.words.getD m.read 0) := by
      simp [intRow, hlt]
    refine wpN_seq (wpN_region_first _ _ (fun b0 k cs hb => step_lone_select_recv_buf (c := c) (z := .int .i64 0) (comm_of rfl rfl (w' := w) (by simp [go_sem, execOp, rcase, Act.eval]) b0 k cs hb) hc (by rw [unread_size]; omega)) ?_)
    rw [e0]
    clear h hc e0 hlt
    generalize (w.setChan c m.room ((intRow (m.words.drop m.read)).toArray.extract 1 (intRow (m.words.drop m.read)).toArray.size) false s (r + 1) false) = w1 at *
    obtain ⟨x, hx⟩ : ∃ x, x = m.words.getD m.read 0 := ⟨_, rfl⟩
    rw [← hx]
    have HX := hide hx
    clear hx
    go_wp2
    refine wpN_of_wp ?_
    go_wp2
    go_ret2
    exact Or.inl ⟨by rw [← HX.out]; rfl, HL.out, HT.out, HF.out, HSz.out⟩
  · have HE : Hid (m.read = m.words.length) := by have := h.le; unfold Hid; omega
    have hc' : w.heap[c]? = some (.chan m.room #[] false s r false) := by
      rw [hc, List.drop_of_length_le (by rw [HE.out]; exact Nat.le_refl _)]; rfl
    refine wpN_seq (wpN_region_first _ _ (fun b0 k cs hb => step_lone_select_default (c := c) (z := .int .i64 0) (comm_of rfl rfl (w' := w) (by simp [go_sem, execOp, rcase, Act.eval]) b0 k cs hb) hc') ?_)
    clear h hc hc' hlt
    go_wp2
    refine wpN_of_wp ?_
    go_wp2
    go_ret2
    exact Or.inr (Or.inl ⟨rfl, rfl, HE.out, 0, rfl⟩)

end Go.Proofs.YthfdgdfnflilfaaGreatDoor

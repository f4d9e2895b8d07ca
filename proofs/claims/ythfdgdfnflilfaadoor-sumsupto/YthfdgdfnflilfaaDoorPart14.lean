/- Part 14: SumM, SumN, OwnRow, SumO. -/
import Derived.Deep.Cut
import Derived.Test.YthfdgdfnflilfaaDoorPart13
/- The race of Sums, in the model. No program here. -/
namespace Go.Proofs.YthfdgdfnflilfaaDoor
open Go.RowKit Go.Conc

def sumCode0 : List Ins := [⟨1, 1, 0, 4⟩, ⟨4, 1, 1, 1⟩, ⟨2, 1, 2, 0⟩, ⟨9, 0, 0, 0⟩]
def sumCode1 : List Ins := [⟨1, 0, 1, 5⟩, ⟨1, 1, 2, 0⟩, ⟨4, 2, 0, 1⟩, ⟨2, 2, 3, 0⟩, ⟨9, 0, 0, 0⟩]
def sumCode2 : List Ins := [⟨1, 0, 3, 0⟩, ⟨4, 3, 3, 0⟩, ⟨2, 3, 4, 0⟩, ⟨9, 0, 0, 0⟩]
def sumNet (rm a b : List Int) : Net := ⟨rm, [⟨0, a⟩, ⟨1, b⟩], [sumCode0, sumCode1, sumCode2]⟩

def dblAt (a : List Int) (i : Nat) : Int := wrap64 (a.getD i 0 + a.getD i 0)
def addAt (a b : List Int) (i : Nat) : Int := wrap64 (b.getD i 0 + dblAt a i)
def totAt (a b : List Int) : Nat → Int
  | 0 => 0
  | i + 1 => wrap64 (totAt a b i + addAt a b i)

/-- A list's words are told by a rule. -/
def SeqOf (f : Nat → Int) (l : List Int) : Prop := ∀ i, i < l.length → l[i]? = some (f i)

theorem SeqOf.nil (f : Nat → Int) : SeqOf f [] := fun i h => by simp at h
theorem SeqOf.snoc {f : Nat → Int} {l : List Int} {v : Int} (h : SeqOf f l) (hv : v = f l.length) : SeqOf f (l ++ [v]) := fun i hi => by
  rcases Nat.lt_or_ge i l.length with h1 | h1
  · rw [List.getElem?_append_left h1]; exact h i h1
  · have : i = l.length := by simp at hi; omega
    subst this
    simp [hv]

def Q0 (a : List Int) (c n : Nat) (x : Wk) (m : Nat) : Prop :=
  (x.place = 0 ∧ c = n ∧ n ≤ a.length ∧ m = 4 * n + 4) ∨ (x.place = 1 ∧ c = n + 1 ∧ n < a.length ∧ x.r 1 = a.getD n 0 ∧ m = 4 * n + 5) ∨
  (x.place = 2 ∧ c = n + 1 ∧ n < a.length ∧ x.r 1 = dblAt a n ∧ m = 4 * n + 6) ∨ (x.place = 3 ∧ c = n ∧ n ≤ a.length ∧ m = 4 * n + 3) ∨
  (x.place = 4 ∧ c = n ∧ n = a.length ∧ m = 4 * n + 5)

def Q1 (a b : List Int) (c d n : Nat) (x : Wk) (m : Nat) : Prop :=
  (x.place = 0 ∧ c = n ∧ d = n ∧ n ≤ b.length ∧ m = 5 * n + 5) ∨ (x.place = 1 ∧ c = n + 1 ∧ d = n ∧ n < b.length ∧ x.r 0 = b.getD n 0 ∧ m = 5 * n + 6) ∨
  (x.place = 2 ∧ c = n + 1 ∧ d = n + 1 ∧ n < b.length ∧ x.r 0 = b.getD n 0 ∧ x.r 1 = dblAt a n ∧ m = 5 * n + 7) ∨
  (x.place = 3 ∧ c = n + 1 ∧ d = n + 1 ∧ n < b.length ∧ x.r 2 = addAt a b n ∧ m = 5 * n + 8) ∨
  (x.place = 4 ∧ c = n ∧ d = n ∧ n ≤ b.length ∧ m = 5 * n + 4) ∨ (x.place = 5 ∧ c = n ∧ d = n ∧ n = b.length ∧ m = 5 * n + 6)

def Q2 (a b : List Int) (c n : Nat) (x : Wk) (m : Nat) : Prop :=
  (x.place = 0 ∧ c = n ∧ x.r 3 = totAt a b n ∧ m = 4 * n + 4) ∨ (x.place = 1 ∧ c = n + 1 ∧ x.r 3 = totAt a b n ∧ x.r 0 = addAt a b n ∧ m = 4 * n + 5) ∨
  (x.place = 2 ∧ c = n + 1 ∧ x.r 3 = totAt a b (n + 1) ∧ m = 4 * n + 6) ∨ (x.place = 3 ∧ c = n ∧ x.r 3 = totAt a b n ∧ m = 4 * n + 3)

structure SumJ (a b : List Int) (R : Rc) (m0 m1 m2 : Nat) : Prop where
  lenW : R.W.length = 3
  lenS : R.S.length = 5
  w0 : (R.s 0).words = a
  w1 : (R.s 1).words = b
  w2 : SeqOf (dblAt a) (R.s 2).words
  w3 : SeqOf (addAt a b) (R.s 3).words
  w4 : SeqOf (fun i => totAt a b (i + 1)) (R.s 4).words
  q0 : Q0 a (R.s 0).read (R.s 2).words.length (R.w 0) m0
  q1 : Q1 a b (R.s 1).read (R.s 2).read (R.s 3).words.length (R.w 1) m1
  q2 : Q2 a b (R.s 3).read (R.s 4).words.length (R.w 2) m2
  r2 : (R.s 2).read ≤ (R.s 2).words.length
  r3 : (R.s 3).read ≤ (R.s 3).words.length

theorem SumJ.next0 {a b : List Int} {R R' : Rc} {m0 m1 m2 m : Nat} (J : SumJ a b R m0 m1 m2) (hw : R'.W.length = 3) (hs : R'.S.length = 5) (h1 : R'.w 1 = R.w 1) (h2 : R'.w 2 = R.w 2) (s1 : R'.s 1 = R.s 1) (s3 : R'.s 3 = R.s 3) (s4 : R'.s 4 = R.s 4)
    (e0 : (R'.s 0).words = (R.s 0).words) (e2 : (R'.s 2).read = (R.s 2).read) (q : SeqOf (dblAt a) (R'.s 2).words) (le : (R.s 2).words.length ≤ (R'.s 2).words.length) (q0 : Q0 a (R'.s 0).read (R'.s 2).words.length (R'.w 0) m) : SumJ a b R' m m1 m2 :=
  ⟨hw, hs, e0.trans J.w0, by rw [s1]; exact J.w1, q, by rw [s3]; exact J.w3, by rw [s4]; exact J.w4, q0, by rw [s1, s3, h1, e2]; exact J.q1, by rw [s3, s4, h2]; exact J.q2, by rw [e2]; have := J.r2; omega, by rw [s3]; exact J.r3⟩

theorem SumJ.next1 {a b : List Int} {R R' : Rc} {m0 m1 m2 m : Nat} (J : SumJ a b R m0 m1 m2) (hw : R'.W.length = 3) (hs : R'.S.length = 5) (h0 : R'.w 0 = R.w 0) (h2 : R'.w 2 = R.w 2) (s0 : R'.s 0 = R.s 0) (s4 : R'.s 4 = R.s 4)
    (e1 : (R'.s 1).words = (R.s 1).words) (e2 : (R'.s 2).words = (R.s 2).words) (e3 : (R'.s 3).read = (R.s 3).read) (r2 : (R'.s 2).read ≤ (R.s 2).words.length) (q : SeqOf (addAt a b) (R'.s 3).words) (le : (R.s 3).words.length ≤ (R'.s 3).words.length) (q1 : Q1 a b (R'.s 1).read (R'.s 2).read (R'.s 3).words.length (R'.w 1) m) : SumJ a b R' m0 m m2 :=
  ⟨hw, hs, by rw [s0]; exact J.w0, e1.trans J.w1, by rw [e2]; exact J.w2, q, by rw [s4]; exact J.w4, by rw [s0, e2, h0]; exact J.q0, q1, by rw [s4, h2, e3]; exact J.q2, by rw [e2]; exact r2, by rw [e3]; have := J.r3; omega⟩

theorem SumJ.next2 {a b : List Int} {R R' : Rc} {m0 m1 m2 m : Nat} (J : SumJ a b R m0 m1 m2) (hw : R'.W.length = 3) (hs : R'.S.length = 5) (h0 : R'.w 0 = R.w 0) (h1 : R'.w 1 = R.w 1) (s0 : R'.s 0 = R.s 0) (s1 : R'.s 1 = R.s 1) (s2 : R'.s 2 = R.s 2)
    (e3 : (R'.s 3).words = (R.s 3).words) (r3 : (R'.s 3).read ≤ (R.s 3).words.length) (q : SeqOf (fun i => totAt a b (i + 1)) (R'.s 4).words) (q2 : Q2 a b (R'.s 3).read (R'.s 4).words.length (R'.w 2) m) : SumJ a b R' m0 m1 m :=
  ⟨hw, hs, by rw [s0]; exact J.w0, by rw [s1]; exact J.w1, by rw [s2]; exact J.w2, by rw [e3]; exact J.w3, q, by rw [s0, s2, h0]; exact J.q0, by rw [s1, s2, e3, h1]; exact J.q1, q2, by rw [s2]; exact J.r2, by rw [e3]; exact r3⟩

theorem SumJ.grow {a b : List Int} {R : Rc} {m0 m1 m2 : Nat} (J : SumJ a b R m0 m1 m2) (t : Nat) : SumJ a b (growS R t) m0 m1 m2 := by
  have h := grow_s R t
  exact ⟨J.lenW, by simp [growS, J.lenS], by rw [(h 0).1]; exact J.w0, by rw [(h 1).1]; exact J.w1, by rw [(h 2).1]; exact J.w2, by rw [(h 3).1]; exact J.w3, by rw [(h 4).1]; exact J.w4,
    by rw [(h 0).2, (h 2).1]; exact J.q0, by rw [(h 1).2, (h 2).2, (h 3).1]; exact J.q1, by rw [(h 3).2, (h 4).1]; exact J.q2, by rw [(h 2).1, (h 2).2]; exact J.r2, by rw [(h 3).1, (h 3).2]; exact J.r3⟩

theorem SumJ.init {rm a b : List Int} (h : rm.length = 5) (r : List Int) : SumJ a b (initR (sumNet rm a b) r) 4 5 4 := by
  have hs : ∀ s, s < 5 → _ := fun s (hs : s < 5) => initG_s (N := sumNet rm a b) r s (by show s < rm.length; omega)
  have h0 := hs 0 (by decide)
  have h1 := hs 1 (by decide)
  have h2 := hs 2 (by decide)
  have h3 := hs 3 (by decide)
  have h4 := hs 4 (by decide)
  have x0 : (if srcd (sumNet rm a b) 0 then srcWords (sumNet rm a b) 0 else []) = a := by simp [srcd, hasSourceB, srcWords, sumNet]
  have x1 : (if srcd (sumNet rm a b) 1 then srcWords (sumNet rm a b) 1 else []) = b := by simp [srcd, hasSourceB, srcWords, sumNet]
  have x2 : (if srcd (sumNet rm a b) 2 then srcWords (sumNet rm a b) 2 else []) = [] := by simp [srcd, hasSourceB, sumNet]
  have x3 : (if srcd (sumNet rm a b) 3 then srcWords (sumNet rm a b) 3 else []) = [] := by simp [srcd, hasSourceB, sumNet]
  have x4 : (if srcd (sumNet rm a b) 4 then srcWords (sumNet rm a b) 4 else []) = [] := by simp [srcd, hasSourceB, sumNet]
  rw [x0] at h0; rw [x1] at h1; rw [x2] at h2; rw [x3] at h3; rw [x4] at h4
  refine ⟨by simp [initR, sumNet], by simp [initR, sumNet, h], by rw [h0], by rw [h1], by rw [h2]; exact SeqOf.nil _, by rw [h3]; exact SeqOf.nil _, by rw [h4]; exact SeqOf.nil _, ?_, ?_, ?_, by rw [h2]; exact Nat.le_refl _, by rw [h3]; exact Nat.le_refl _⟩
  · rw [h0, h2, initG_w]; exact Or.inl ⟨rfl, rfl, Nat.zero_le _, rfl⟩
  · rw [h1, h2, h3, initG_w]; exact Or.inl ⟨rfl, rfl, rfl, Nat.zero_le _, rfl⟩
  · rw [h3, h4, initG_w]; exact Or.inl ⟨rfl, rfl, rfl, rfl⟩

/-- A race behind a step. -/
theorem step_parts {N : Net} {R : Rc} {k : Nat} {i : Ins} (hi : insAt N k (R.w k) = some i) (hk : k < R.W.length) :
    (doStep N R k).W.length = R.W.length ∧ (doStep N R k).S.length = R.S.length ∧ (doStep N R k).w k = nextW (R.w k) i (R.s i.b.toNat).words[(R.s i.b.toNat).read]? ∧ (∀ j, j ≠ k → (doStep N R k).w j = R.w j) ∧
    ∀ s, s < R.S.length → (doStep N R k).s s = if i.op = 1 ∧ s = i.b.toNat then { R.s s with read := if (R.s s).read < (R.s s).words.length then (R.s s).read + 1 else (R.s s).read }
      else if i.op = 2 ∧ s = i.b.toNat then { R.s s with words := (R.s s).words ++ [(R.w k).r i.a.toNat] } else R.s s := by
  refine ⟨?_, ?_, ?_, fun j hj => doStep_w_ne N R k j hj, fun s hs => ?_⟩
  · rw [doStep_some hi]; simp
  · rw [doStep_some hi]; exact nextS_length _ _ _
  · rw [doStep_some hi]; exact getD_set_self _ _ _ _ hk
  · rw [doStep_some hi]; exact step_s _ _ hs

theorem upd_self (r : Nat → Int) (a : Nat) (v : Int) : upd r a v a = v := by simp [upd]
theorem upd_ne (r : Nat → Int) (a j : Nat) (v : Int) (h : j ≠ a) : upd r a v j = r j := by simp [upd, h]

theorem getD_of_lt (l : List Int) (i : Nat) (h : i < l.length) : l[i]? = some (l.getD i 0) := by simp [List.getD, h]

theorem SumJ.step0 {rm a b : List Int} {R : Rc} {m0 m1 m2 : Nat} (J : SumJ a b R m0 m1 m2) (hst : stateOf (sumNet rm a b) R 0 = 1) : ∃ m, SumJ a b (doStep (sumNet rm a b) R 0) m m1 m2 ∧ m0 + 1 ≤ m := by
  have hk : 0 < R.W.length := by rw [J.lenW]; decide
  have hw0 := J.w0
  have hsq := J.w2
  have h5 := J.lenS
  rcases J.q0 with ⟨hp, hc, hn, hm⟩ | ⟨hp, hc, hn, hr, hm⟩ | ⟨hp, hc, hn, hr, hm⟩ | ⟨hp, hc, hn, hm⟩ | ⟨hp, hc, hn, hm⟩
  · have hi : insAt (sumNet rm a b) 0 (R.w 0) = some ⟨1, 1, 0, 4⟩ := by simp [insAt, codeOf, sumNet, sumCode0, hp]
    obtain ⟨l1, l2, hx, ho, hs⟩ := step_parts hi hk
    have E0 := hs 0 (by omega); have E1 := hs 1 (by omega); have E2 := hs 2 (by omega); have E3 := hs 3 (by omega); have E4 := hs 4 (by omega)
    simp at E0 E1 E2 E3 E4
    rcases Nat.lt_or_ge (R.s 0).read a.length with hlt | hge
    · have hin : (R.s 0).words[(R.s 0).read]? = some (a.getD (R.s 0).read 0) := by rw [hw0]; exact getD_of_lt _ _ hlt
      have hx' : (doStep (sumNet rm a b) R 0).w 0 = ⟨(R.w 0).place + 1, upd (R.w 0).r 1 (a.getD (R.s 0).read 0), wrap64 ((R.w 0).steps + 1)⟩ := by
        rw [hx]; show nextW _ _ (R.s 0).words[(R.s 0).read]? = _; rw [hin]; rfl
      rw [hw0, if_pos hlt] at E0
      refine ⟨4 * (R.s 2).words.length + 5, J.next0 (by rw [l1, J.lenW]) (by rw [l2, h5]) (ho 1 (by decide)) (ho 2 (by decide)) E1 E3 E4 (by rw [E0]; exact hw0.symm) (by rw [E2]) (by rw [E2]; exact hsq) (by rw [E2]; exact Nat.le_refl _) ?_, by omega⟩
      rw [E0, E2, hx']
      exact Or.inr (Or.inl ⟨by dsimp only; omega, by dsimp only; omega, by omega, by dsimp only; rw [upd_self, hc], rfl⟩)
    · have hin : (R.s 0).words[(R.s 0).read]? = none := by rw [hw0]; exact List.getElem?_eq_none hge
      have hx' : (doStep (sumNet rm a b) R 0).w 0 = ⟨4, (R.w 0).r, wrap64 ((R.w 0).steps + 1)⟩ := by
        rw [hx]; show nextW _ _ (R.s 0).words[(R.s 0).read]? = _; rw [hin]; rfl
      rw [hw0, if_neg (by omega)] at E0
      refine ⟨4 * (R.s 2).words.length + 5, J.next0 (by rw [l1, J.lenW]) (by rw [l2, h5]) (ho 1 (by decide)) (ho 2 (by decide)) E1 E3 E4 (by rw [E0]; exact hw0.symm) (by rw [E2]) (by rw [E2]; exact hsq) (by rw [E2]; exact Nat.le_refl _) ?_, by omega⟩
      rw [E0, E2, hx']
      exact Or.inr (Or.inr (Or.inr (Or.inr ⟨rfl, by dsimp only; omega, by omega, rfl⟩)))
  · have hi : insAt (sumNet rm a b) 0 (R.w 0) = some ⟨4, 1, 1, 1⟩ := by simp [insAt, codeOf, sumNet, sumCode0, hp]
    obtain ⟨l1, l2, hx, ho, hs⟩ := step_parts hi hk
    have E0 := hs 0 (by omega); have E1 := hs 1 (by omega); have E2 := hs 2 (by omega); have E3 := hs 3 (by omega); have E4 := hs 4 (by omega)
    simp at E0 E1 E2 E3 E4
    have hx' : (doStep (sumNet rm a b) R 0).w 0 = ⟨(R.w 0).place + 1, upd (R.w 0).r 1 (wrap64 ((R.w 0).r 1 + (R.w 0).r 1)), wrap64 ((R.w 0).steps + 1)⟩ := by rw [hx]; rfl
    refine ⟨4 * (R.s 2).words.length + 6, J.next0 (by rw [l1, J.lenW]) (by rw [l2, h5]) (ho 1 (by decide)) (ho 2 (by decide)) E1 E3 E4 (by rw [E0]) (by rw [E2]) (by rw [E2]; exact hsq) (by rw [E2]; exact Nat.le_refl _) ?_, by omega⟩
    rw [E0, E2, hx']
    exact Or.inr (Or.inr (Or.inl ⟨by dsimp only; omega, hc, hn, by dsimp only; rw [upd_self, hr]; rfl, rfl⟩))
  · have hi : insAt (sumNet rm a b) 0 (R.w 0) = some ⟨2, 1, 2, 0⟩ := by simp [insAt, codeOf, sumNet, sumCode0, hp]
    obtain ⟨l1, l2, hx, ho, hs⟩ := step_parts hi hk
    have E0 := hs 0 (by omega); have E1 := hs 1 (by omega); have E2 := hs 2 (by omega); have E3 := hs 3 (by omega); have E4 := hs 4 (by omega)
    simp at E0 E1 E2 E3 E4
    have hx' : (doStep (sumNet rm a b) R 0).w 0 = ⟨(R.w 0).place + 1, (R.w 0).r, wrap64 ((R.w 0).steps + 1)⟩ := by rw [hx]; rfl
    refine ⟨4 * ((R.s 2).words.length + 1) + 3, J.next0 (by rw [l1, J.lenW]) (by rw [l2, h5]) (ho 1 (by decide)) (ho 2 (by decide)) E1 E3 E4 (by rw [E0]) (by rw [E2]) (by rw [E2]; exact hsq.snoc hr) (by rw [E2]; simp) ?_, by omega⟩
    rw [E0, E2, hx']
    exact Or.inr (Or.inr (Or.inr (Or.inl ⟨by dsimp only; omega, by simp; omega, by simp; omega, by simp⟩)))
  · have hi : insAt (sumNet rm a b) 0 (R.w 0) = some ⟨9, 0, 0, 0⟩ := by simp [insAt, codeOf, sumNet, sumCode0, hp]
    obtain ⟨l1, l2, hx, ho, hs⟩ := step_parts hi hk
    have E0 := hs 0 (by omega); have E1 := hs 1 (by omega); have E2 := hs 2 (by omega); have E3 := hs 3 (by omega); have E4 := hs 4 (by omega)
    simp at E0 E1 E2 E3 E4
    have hx' : (doStep (sumNet rm a b) R 0).w 0 = ⟨0, (R.w 0).r, wrap64 ((R.w 0).steps + 1)⟩ := by rw [hx]; rfl
    refine ⟨4 * (R.s 2).words.length + 4, J.next0 (by rw [l1, J.lenW]) (by rw [l2, h5]) (ho 1 (by decide)) (ho 2 (by decide)) E1 E3 E4 (by rw [E0]) (by rw [E2]) (by rw [E2]; exact hsq) (by rw [E2]; exact Nat.le_refl _) ?_, by omega⟩
    rw [E0, E2, hx']
    exact Or.inl ⟨rfl, hc, hn, rfl⟩
  · exfalso
    have hi : insAt (sumNet rm a b) 0 (R.w 0) = none := by simp [insAt, codeOf, sumNet, sumCode0, hp]
    simp [stateOf, hi] at hst

theorem SumJ.step1 {rm a b : List Int} {R : Rc} {m0 m1 m2 : Nat} (J : SumJ a b R m0 m1 m2) (hst : stateOf (sumNet rm a b) R 1 = 1) : ∃ m, SumJ a b (doStep (sumNet rm a b) R 1) m0 m m2 ∧ m1 + 1 ≤ m := by
  have hk : 1 < R.W.length := by rw [J.lenW]; decide
  have hw1 := J.w1
  have hsq := J.w3
  have h5 := J.lenS
  have hr2 := J.r2
  rcases J.q1 with ⟨hp, hc, hd, hn, hm⟩ | ⟨hp, hc, hd, hn, hr, hm⟩ | ⟨hp, hc, hd, hn, hr, hr', hm⟩ | ⟨hp, hc, hd, hn, hr, hm⟩ | ⟨hp, hc, hd, hn, hm⟩ | ⟨hp, hc, hd, hn, hm⟩
  · have hi : insAt (sumNet rm a b) 1 (R.w 1) = some ⟨1, 0, 1, 5⟩ := by simp [insAt, codeOf, sumNet, sumCode1, hp]
    obtain ⟨l1, l2, hx, ho, hs⟩ := step_parts hi hk
    have E0 := hs 0 (by omega); have E1 := hs 1 (by omega); have E2 := hs 2 (by omega); have E3 := hs 3 (by omega); have E4 := hs 4 (by omega)
    simp at E0 E1 E2 E3 E4
    rcases Nat.lt_or_ge (R.s 1).read b.length with hlt | hge
    · have hin : (R.s 1).words[(R.s 1).read]? = some (b.getD (R.s 1).read 0) := by rw [hw1]; exact getD_of_lt _ _ hlt
      have hx' : (doStep (sumNet rm a b) R 1).w 1 = ⟨(R.w 1).place + 1, upd (R.w 1).r 0 (b.getD (R.s 1).read 0), wrap64 ((R.w 1).steps + 1)⟩ := by
        rw [hx]; show nextW _ _ (R.s 1).words[(R.s 1).read]? = _; rw [hin]; rfl
      rw [hw1, if_pos hlt] at E1
      refine ⟨5 * (R.s 3).words.length + 6, J.next1 (by rw [l1, J.lenW]) (by rw [l2, h5]) (ho 0 (by decide)) (ho 2 (by decide)) E0 E4 (by rw [E1]; exact hw1.symm) (by rw [E2]) (by rw [E3]) (by rw [E2]; exact hr2) (by rw [E3]; exact hsq) (by rw [E3]; exact Nat.le_refl _) ?_, by omega⟩
      rw [E1, E2, E3, hx']
      exact Or.inr (Or.inl ⟨by dsimp only; omega, by dsimp only; omega, hd, by omega, by dsimp only; rw [upd_self, hc], rfl⟩)
    · have hin : (R.s 1).words[(R.s 1).read]? = none := by rw [hw1]; exact List.getElem?_eq_none hge
      have hx' : (doStep (sumNet rm a b) R 1).w 1 = ⟨5, (R.w 1).r, wrap64 ((R.w 1).steps + 1)⟩ := by
        rw [hx]; show nextW _ _ (R.s 1).words[(R.s 1).read]? = _; rw [hin]; rfl
      rw [hw1, if_neg (by omega)] at E1
      refine ⟨5 * (R.s 3).words.length + 6, J.next1 (by rw [l1, J.lenW]) (by rw [l2, h5]) (ho 0 (by decide)) (ho 2 (by decide)) E0 E4 (by rw [E1]; exact hw1.symm) (by rw [E2]) (by rw [E3]) (by rw [E2]; exact hr2) (by rw [E3]; exact hsq) (by rw [E3]; exact Nat.le_refl _) ?_, by omega⟩
      rw [E1, E2, E3, hx']
      exact Or.inr (Or.inr (Or.inr (Or.inr (Or.inr ⟨rfl, by dsimp only; omega, hd, by omega, rfl⟩))))
  · have hi : insAt (sumNet rm a b) 1 (R.w 1) = some ⟨1, 1, 2, 0⟩ := by simp [insAt, codeOf, sumNet, sumCode1, hp]
    obtain ⟨l1, l2, hx, ho, hs⟩ := step_parts hi hk
    have E0 := hs 0 (by omega); have E1 := hs 1 (by omega); have E2 := hs 2 (by omega); have E3 := hs 3 (by omega); have E4 := hs 4 (by omega)
    simp at E0 E1 E2 E3 E4
    have hlt : (R.s 2).read < (R.s 2).words.length := by
      rcases Nat.lt_or_ge (R.s 2).read (R.s 2).words.length with h | h
      · exact h
      · exfalso
        have hq : srcd (sumNet rm a b) 2 = false := by simp [srcd, hasSourceB, sumNet]
        have he : (R.s 2).read = (R.s 2).words.length := by omega
        simp [stateOf, hi, hq, he] at hst
    have hin : (R.s 2).words[(R.s 2).read]? = some (dblAt a (R.s 2).read) := J.w2 _ hlt
    have hx' : (doStep (sumNet rm a b) R 1).w 1 = ⟨(R.w 1).place + 1, upd (R.w 1).r 1 (dblAt a (R.s 2).read), wrap64 ((R.w 1).steps + 1)⟩ := by
      rw [hx]; show nextW _ _ (R.s 2).words[(R.s 2).read]? = _; rw [hin]; rfl
    rw [if_pos hlt] at E2
    refine ⟨5 * (R.s 3).words.length + 7, J.next1 (by rw [l1, J.lenW]) (by rw [l2, h5]) (ho 0 (by decide)) (ho 2 (by decide)) E0 E4 (by rw [E1]) (by rw [E2]) (by rw [E3]) (by rw [E2]; exact hlt) (by rw [E3]; exact hsq) (by rw [E3]; exact Nat.le_refl _) ?_, by omega⟩
    rw [E1, E2, E3, hx']
    exact Or.inr (Or.inr (Or.inl ⟨by dsimp only; omega, hc, by dsimp only; omega, hn, by dsimp only; rw [upd_ne _ _ _ _ (by decide)]; exact hr, by dsimp only; rw [upd_self, hd], rfl⟩))
  · have hi : insAt (sumNet rm a b) 1 (R.w 1) = some ⟨4, 2, 0, 1⟩ := by simp [insAt, codeOf, sumNet, sumCode1, hp]
    obtain ⟨l1, l2, hx, ho, hs⟩ := step_parts hi hk
    have E0 := hs 0 (by omega); have E1 := hs 1 (by omega); have E2 := hs 2 (by omega); have E3 := hs 3 (by omega); have E4 := hs 4 (by omega)
    simp at E0 E1 E2 E3 E4
    have hx' : (doStep (sumNet rm a b) R 1).w 1 = ⟨(R.w 1).place + 1, upd (R.w 1).r 2 (wrap64 ((R.w 1).r 0 + (R.w 1).r 1)), wrap64 ((R.w 1).steps + 1)⟩ := by rw [hx]; rfl
    refine ⟨5 * (R.s 3).words.length + 8, J.next1 (by rw [l1, J.lenW]) (by rw [l2, h5]) (ho 0 (by decide)) (ho 2 (by decide)) E0 E4 (by rw [E1]) (by rw [E2]) (by rw [E3]) (by rw [E2]; exact hr2) (by rw [E3]; exact hsq) (by rw [E3]; exact Nat.le_refl _) ?_, by omega⟩
    rw [E1, E2, E3, hx']
    exact Or.inr (Or.inr (Or.inr (Or.inl ⟨by dsimp only; omega, hc, hd, hn, by dsimp only; rw [upd_self, hr, hr']; rfl, rfl⟩)))
  · have hi : insAt (sumNet rm a b) 1 (R.w 1) = some ⟨2, 2, 3, 0⟩ := by simp [insAt, codeOf, sumNet, sumCode1, hp]
    obtain ⟨l1, l2, hx, ho, hs⟩ := step_parts hi hk
    have E0 := hs 0 (by omega); have E1 := hs 1 (by omega); have E2 := hs 2 (by omega); have E3 := hs 3 (by omega); have E4 := hs 4 (by omega)
    simp at E0 E1 E2 E3 E4
    have hx' : (doStep (sumNet rm a b) R 1).w 1 = ⟨(R.w 1).place + 1, (R.w 1).r, wrap64 ((R.w 1).steps + 1)⟩ := by rw [hx]; rfl
    refine ⟨5 * ((R.s 3).words.length + 1) + 4, J.next1 (by rw [l1, J.lenW]) (by rw [l2, h5]) (ho 0 (by decide)) (ho 2 (by decide)) E0 E4 (by rw [E1]) (by rw [E2]) (by rw [E3]) (by rw [E2]; exact hr2) (by rw [E3]; exact hsq.snoc hr) (by rw [E3]; simp) ?_, by omega⟩
    rw [E1, E2, E3, hx']
    exact Or.inr (Or.inr (Or.inr (Or.inr (Or.inl ⟨by dsimp only; omega, by simp; omega, by simp; omega, by simp; omega, by simp⟩))))
  · have hi : insAt (sumNet rm a b) 1 (R.w 1) = some ⟨9, 0, 0, 0⟩ := by simp [insAt, codeOf, sumNet, sumCode1, hp]
    obtain ⟨l1, l2, hx, ho, hs⟩ := step_parts hi hk
    have E0 := hs 0 (by omega); have E1 := hs 1 (by omega); have E2 := hs 2 (by omega); have E3 := hs 3 (by omega); have E4 := hs 4 (by omega)
    simp at E0 E1 E2 E3 E4
    have hx' : (doStep (sumNet rm a b) R 1).w 1 = ⟨0, (R.w 1).r, wrap64 ((R.w 1).steps + 1)⟩ := by rw [hx]; rfl
    refine ⟨5 * (R.s 3).words.length + 5, J.next1 (by rw [l1, J.lenW]) (by rw [l2, h5]) (ho 0 (by decide)) (ho 2 (by decide)) E0 E4 (by rw [E1]) (by rw [E2]) (by rw [E3]) (by rw [E2]; exact hr2) (by rw [E3]; exact hsq) (by rw [E3]; exact Nat.le_refl _) ?_, by omega⟩
    rw [E1, E2, E3, hx']
    exact Or.inl ⟨rfl, hc, hd, hn, rfl⟩
  · exfalso
    have hi : insAt (sumNet rm a b) 1 (R.w 1) = none := by simp [insAt, codeOf, sumNet, sumCode1, hp]
    simp [stateOf, hi] at hst

theorem SumJ.step2 {rm a b : List Int} {R : Rc} {m0 m1 m2 : Nat} (J : SumJ a b R m0 m1 m2) (hst : stateOf (sumNet rm a b) R 2 = 1) : ∃ m, SumJ a b (doStep (sumNet rm a b) R 2) m0 m1 m ∧ m2 + 1 ≤ m := by
  have hk : 2 < R.W.length := by rw [J.lenW]; decide
  have hsq := J.w4
  have h5 := J.lenS
  have hr3 := J.r3
  rcases J.q2 with ⟨hp, hc, ht, hm⟩ | ⟨hp, hc, ht, hr, hm⟩ | ⟨hp, hc, ht, hm⟩ | ⟨hp, hc, ht, hm⟩
  · have hi : insAt (sumNet rm a b) 2 (R.w 2) = some ⟨1, 0, 3, 0⟩ := by simp [insAt, codeOf, sumNet, sumCode2, hp]
    obtain ⟨l1, l2, hx, ho, hs⟩ := step_parts hi hk
    have E0 := hs 0 (by omega); have E1 := hs 1 (by omega); have E2 := hs 2 (by omega); have E3 := hs 3 (by omega); have E4 := hs 4 (by omega)
    simp at E0 E1 E2 E3 E4
    have hlt : (R.s 3).read < (R.s 3).words.length := by
      rcases Nat.lt_or_ge (R.s 3).read (R.s 3).words.length with h | h
      · exact h
      · exfalso
        have hq : srcd (sumNet rm a b) 3 = false := by simp [srcd, hasSourceB, sumNet]
        have he : (R.s 3).read = (R.s 3).words.length := by omega
        simp [stateOf, hi, hq, he] at hst
    have hin : (R.s 3).words[(R.s 3).read]? = some (addAt a b (R.s 3).read) := J.w3 _ hlt
    have hx' : (doStep (sumNet rm a b) R 2).w 2 = ⟨(R.w 2).place + 1, upd (R.w 2).r 0 (addAt a b (R.s 3).read), wrap64 ((R.w 2).steps + 1)⟩ := by
      rw [hx]; show nextW _ _ (R.s 3).words[(R.s 3).read]? = _; rw [hin]; rfl
    rw [if_pos hlt] at E3
    refine ⟨4 * (R.s 4).words.length + 5, J.next2 (by rw [l1, J.lenW]) (by rw [l2, h5]) (ho 0 (by decide)) (ho 1 (by decide)) E0 E1 E2 (by rw [E3]) (by rw [E3]; exact hlt) (by rw [E4]; exact hsq) ?_, by omega⟩
    rw [E3, E4, hx']
    exact Or.inr (Or.inl ⟨by dsimp only; omega, by dsimp only; omega, by dsimp only; rw [upd_ne _ _ _ _ (by decide)]; exact ht, by dsimp only; rw [upd_self, hc], rfl⟩)
  · have hi : insAt (sumNet rm a b) 2 (R.w 2) = some ⟨4, 3, 3, 0⟩ := by simp [insAt, codeOf, sumNet, sumCode2, hp]
    obtain ⟨l1, l2, hx, ho, hs⟩ := step_parts hi hk
    have E0 := hs 0 (by omega); have E1 := hs 1 (by omega); have E2 := hs 2 (by omega); have E3 := hs 3 (by omega); have E4 := hs 4 (by omega)
    simp at E0 E1 E2 E3 E4
    have hx' : (doStep (sumNet rm a b) R 2).w 2 = ⟨(R.w 2).place + 1, upd (R.w 2).r 3 (wrap64 ((R.w 2).r 3 + (R.w 2).r 0)), wrap64 ((R.w 2).steps + 1)⟩ := by rw [hx]; rfl
    refine ⟨4 * (R.s 4).words.length + 6, J.next2 (by rw [l1, J.lenW]) (by rw [l2, h5]) (ho 0 (by decide)) (ho 1 (by decide)) E0 E1 E2 (by rw [E3]) (by rw [E3]; exact hr3) (by rw [E4]; exact hsq) ?_, by omega⟩
    rw [E3, E4, hx']
    exact Or.inr (Or.inr (Or.inl ⟨by dsimp only; omega, hc, by dsimp only; rw [upd_self, ht, hr]; rfl, rfl⟩))
  · have hi : insAt (sumNet rm a b) 2 (R.w 2) = some ⟨2, 3, 4, 0⟩ := by simp [insAt, codeOf, sumNet, sumCode2, hp]
    obtain ⟨l1, l2, hx, ho, hs⟩ := step_parts hi hk
    have E0 := hs 0 (by omega); have E1 := hs 1 (by omega); have E2 := hs 2 (by omega); have E3 := hs 3 (by omega); have E4 := hs 4 (by omega)
    simp at E0 E1 E2 E3 E4
    have hx' : (doStep (sumNet rm a b) R 2).w 2 = ⟨(R.w 2).place + 1, (R.w 2).r, wrap64 ((R.w 2).steps + 1)⟩ := by rw [hx]; rfl
    refine ⟨4 * ((R.s 4).words.length + 1) + 3, J.next2 (by rw [l1, J.lenW]) (by rw [l2, h5]) (ho 0 (by decide)) (ho 1 (by decide)) E0 E1 E2 (by rw [E3]) (by rw [E3]; exact hr3) (by rw [E4]; exact hsq.snoc ht) ?_, by omega⟩
    rw [E3, E4, hx']
    exact Or.inr (Or.inr (Or.inr ⟨by dsimp only; omega, by simp; omega, by simp; exact ht, by simp⟩))
  · have hi : insAt (sumNet rm a b) 2 (R.w 2) = some ⟨9, 0, 0, 0⟩ := by simp [insAt, codeOf, sumNet, sumCode2, hp]
    obtain ⟨l1, l2, hx, ho, hs⟩ := step_parts hi hk
    have E0 := hs 0 (by omega); have E1 := hs 1 (by omega); have E2 := hs 2 (by omega); have E3 := hs 3 (by omega); have E4 := hs 4 (by omega)
    simp at E0 E1 E2 E3 E4
    have hx' : (doStep (sumNet rm a b) R 2).w 2 = ⟨0, (R.w 2).r, wrap64 ((R.w 2).steps + 1)⟩ := by rw [hx]; rfl
    refine ⟨4 * (R.s 4).words.length + 4, J.next2 (by rw [l1, J.lenW]) (by rw [l2, h5]) (ho 0 (by decide)) (ho 1 (by decide)) E0 E1 E2 (by rw [E3]) (by rw [E3]; exact hr3) (by rw [E4]; exact hsq) ?_, by omega⟩
    rw [E3, E4, hx']
    exact Or.inl ⟨rfl, hc, ht, rfl⟩

theorem SumJ.step {rm a b : List Int} {R : Rc} {m0 m1 m2 k : Nat} (J : SumJ a b R m0 m1 m2) (hk : k < 3) (hst : stateOf (sumNet rm a b) R k = 1) : ∃ n0 n1 n2, SumJ a b (doStep (sumNet rm a b) R k) n0 n1 n2 ∧ m0 + m1 + m2 + 1 ≤ n0 + n1 + n2 := by
  have : k = 0 ∨ k = 1 ∨ k = 2 := by omega
  rcases this with rfl | rfl | rfl
  · obtain ⟨m, h, hm⟩ := J.step0 hst; exact ⟨_, _, _, h, by omega⟩
  · obtain ⟨m, h, hm⟩ := J.step1 hst; exact ⟨_, _, _, h, by omega⟩
  · obtain ⟨m, h, hm⟩ := J.step2 hst; exact ⟨_, _, _, h, by omega⟩

theorem sumJ_run {rm a b : List Int} (h : rm.length = 5) (r : List Int) : ∀ es, ∃ m0 m1 m2, SumJ a b (grun (sumNet rm a b) r es).1 m0 m1 m2
  | [] => ⟨_, _, _, SumJ.init h r⟩
  | e :: es => by
    obtain ⟨m0, m1, m2, J⟩ := sumJ_run h r es
    cases e with
    | inr s => exact ⟨_, _, _, J.grow s⟩
    | inl k =>
      simp only [grun, ev]
      split
      · rename_i hs
        obtain ⟨n0, n1, n2, J', -⟩ := J.step hs.1 hs.2
        exact ⟨_, _, _, J'⟩
      · exact ⟨_, _, _, J⟩

theorem sumJ_star {rm a b : List Int} {m : Nat} {x y : Nat × Rc} (h : Star (FStep (sumNet rm a b) m) x y) : ∀ {m0 m1 m2 : Nat}, SumJ a b x.2 m0 m1 m2 → ∃ n0 n1 n2, SumJ a b y.2 n0 n1 n2 ∧ m0 + m1 + m2 + y.1 ≤ n0 + n1 + n2 + x.1 := by
  induction h with
  | refl => exact fun J => ⟨_, _, _, J, Nat.le_refl _⟩
  | head h1 _ ih =>
    intro m0 m1 m2 J
    cases h1 with
    | @step d S k k1 k2 =>
      have hk : k < 3 := List.mem_range.1 (List.mem_of_find?_eq_some k2)
      have hs := List.find?_some k2
      obtain ⟨n0, n1, n2, J', hl⟩ := J.step hk (by simpa using hs)
      obtain ⟨p0, p1, p2, J'', hl'⟩ := ih J'
      exact ⟨_, _, _, J'', by dsimp only at hl' ⊢; omega⟩
    | grow k1 k2 k3 => exact ih (J.grow _)

theorem SumJ.most {a b : List Int} {R : Rc} {m0 m1 m2 : Nat} (J : SumJ a b R m0 m1 m2) (ha : a.length ≤ 50) (hb : b.length ≤ 50) : m0 + m1 + m2 ≤ 700 := by
  have h2 := J.r2
  have h3 := J.r3
  rcases J.q0 with ⟨-, hc, hn, hm⟩ | ⟨-, hc, hn, -, hm⟩ | ⟨-, hc, hn, -, hm⟩ | ⟨-, hc, hn, hm⟩ | ⟨-, hc, hn, hm⟩ <;>
  rcases J.q1 with ⟨-, hc1, hd1, hn1, hm1⟩ | ⟨-, hc1, hd1, hn1, -, hm1⟩ | ⟨-, hc1, hd1, hn1, -, -, hm1⟩ | ⟨-, hc1, hd1, hn1, -, hm1⟩ | ⟨-, hc1, hd1, hn1, hm1⟩ | ⟨-, hc1, hd1, hn1, hm1⟩ <;>
  rcases J.q2 with ⟨-, hc2, -, hm2⟩ | ⟨-, hc2, -, -, hm2⟩ | ⟨-, hc2, -, hm2⟩ | ⟨-, hc2, -, hm2⟩ <;> omega

/-- Where nobody can go on. -/
theorem SumJ.stops {rm a b : List Int} {R : Rc} {m0 m1 m2 : Nat} (J : SumJ a b R m0 m1 m2) (hr2 : 1 ≤ (R.s 2).room) (hr3 : 1 ≤ (R.s 3).room) (h40 : (R.s 2).room ≤ 40) (hh : (R.s 2).words.length - (R.s 2).read ≤ (R.s 2).room)
    (hf : firstGo (sumNet rm a b) R 3 = none) (hlen : rm.length = 5) {x e : Int} (hg : Grows (sumNet rm a b) R x e none) :
    (R.s 4).words.length = min a.length b.length ∧ e = if b.length + 40 < a.length then 4 else 3 := by
  have hs : ∀ k, k < 3 → stateOf (sumNet rm a b) R k ≠ 1 := fun k hk e => by
    have := List.find?_eq_none.1 hf k (List.mem_range.2 hk)
    simp [e] at this
  have g0 := hs 0 (by decide)
  have g1 := hs 1 (by decide)
  have g2 := hs 2 (by decide)
  have u2 : used (sumNet rm a b) 2 = true := by rfl
  have u3 : used (sumNet rm a b) 3 = true := by rfl
  have u4 : used (sumNet rm a b) 4 = false := by rfl
  have v0 : srcd (sumNet rm a b) 0 = true := by rfl
  have v1 : srcd (sumNet rm a b) 1 = true := by rfl
  have v2 : srcd (sumNet rm a b) 2 = false := by rfl
  have v3 : srcd (sumNet rm a b) 3 = false := by rfl
  have l2 := J.r2
  have l3 := J.r3
  -- worker 2
  have k2 : (R.s 3).read = (R.s 3).words.length ∧ (R.s 3).read = (R.s 4).words.length ∧ stateOf (sumNet rm a b) R 2 = 2 := by
    rcases J.q2 with ⟨hp, hc, -, -⟩ | ⟨hp, -, -, -⟩ | ⟨hp, -, -, -⟩ | ⟨hp, -, -, -⟩
    · have hi : insAt (sumNet rm a b) 2 (R.w 2) = some ⟨1, 0, 3, 0⟩ := by simp [insAt, codeOf, sumNet, sumCode2, hp]
      by_cases he : (R.s 3).read = (R.s 3).words.length
      · exact ⟨he, hc, by simp [stateOf, hi, v3, he]⟩
      · exact absurd (by simp [stateOf, hi, v3, he]) g2
    · have hi : insAt (sumNet rm a b) 2 (R.w 2) = some ⟨4, 3, 3, 0⟩ := by simp [insAt, codeOf, sumNet, sumCode2, hp]
      exact absurd (by simp [stateOf, hi]) g2
    · have hi : insAt (sumNet rm a b) 2 (R.w 2) = some ⟨2, 3, 4, 0⟩ := by simp [insAt, codeOf, sumNet, sumCode2, hp]
      exact absurd (by simp [stateOf, hi, u4]) g2
    · have hi : insAt (sumNet rm a b) 2 (R.w 2) = some ⟨9, 0, 0, 0⟩ := by simp [insAt, codeOf, sumNet, sumCode2, hp]
      exact absurd (by simp [stateOf, hi]) g2
  obtain ⟨k2a, k2b, k2c⟩ := k2
  -- worker 1
  have k1 : ((R.s 2).read = (R.s 2).words.length ∧ (R.s 2).read = (R.s 3).words.length ∧ (R.s 3).words.length < b.length ∧ stateOf (sumNet rm a b) R 1 = 2) ∨ ((R.s 2).read = (R.s 3).words.length ∧ (R.s 3).words.length = b.length ∧ stateOf (sumNet rm a b) R 1 = 4) := by
    rcases J.q1 with ⟨hp, -⟩ | ⟨hp, hc, hd, hn, -⟩ | ⟨hp, -⟩ | ⟨hp, -⟩ | ⟨hp, -⟩ | ⟨hp, hc, hd, hn, -⟩
    · have hi : insAt (sumNet rm a b) 1 (R.w 1) = some ⟨1, 0, 1, 5⟩ := by simp [insAt, codeOf, sumNet, sumCode1, hp]
      exact absurd (by simp [stateOf, hi, v1]) g1
    · have hi : insAt (sumNet rm a b) 1 (R.w 1) = some ⟨1, 1, 2, 0⟩ := by simp [insAt, codeOf, sumNet, sumCode1, hp]
      by_cases he : (R.s 2).read = (R.s 2).words.length
      · exact Or.inl ⟨he, hd, hn, by simp [stateOf, hi, v2, he]⟩
      · exact absurd (by simp [stateOf, hi, v2, he]) g1
    · have hi : insAt (sumNet rm a b) 1 (R.w 1) = some ⟨4, 2, 0, 1⟩ := by simp [insAt, codeOf, sumNet, sumCode1, hp]
      exact absurd (by simp [stateOf, hi]) g1
    · have hi : insAt (sumNet rm a b) 1 (R.w 1) = some ⟨2, 2, 3, 0⟩ := by simp [insAt, codeOf, sumNet, sumCode1, hp]
      have hx : ¬ (R.s 3).room ≤ (R.s 3).words.length - (R.s 3).read := by omega
      exact absurd (by simp [stateOf, hi, u3, hx]) g1
    · have hi : insAt (sumNet rm a b) 1 (R.w 1) = some ⟨9, 0, 0, 0⟩ := by simp [insAt, codeOf, sumNet, sumCode1, hp]
      exact absurd (by simp [stateOf, hi]) g1
    · have hi : insAt (sumNet rm a b) 1 (R.w 1) = none := by simp [insAt, codeOf, sumNet, sumCode1, hp]
      exact Or.inr ⟨hd, hn, by simp [stateOf, hi]⟩
  -- worker 0
  have k0 : ((R.s 2).words.length < a.length ∧ (R.s 2).room ≤ (R.s 2).words.length - (R.s 2).read ∧ stateOf (sumNet rm a b) R 0 = 3 ∧ insAt (sumNet rm a b) 0 (R.w 0) = some ⟨2, 1, 2, 0⟩) ∨ ((R.s 2).words.length = a.length ∧ stateOf (sumNet rm a b) R 0 = 4) := by
    rcases J.q0 with ⟨hp, -⟩ | ⟨hp, -⟩ | ⟨hp, hc, hn, -⟩ | ⟨hp, -⟩ | ⟨hp, hc, hn, -⟩
    · have hi : insAt (sumNet rm a b) 0 (R.w 0) = some ⟨1, 1, 0, 4⟩ := by simp [insAt, codeOf, sumNet, sumCode0, hp]
      exact absurd (by simp [stateOf, hi, v0]) g0
    · have hi : insAt (sumNet rm a b) 0 (R.w 0) = some ⟨4, 1, 1, 1⟩ := by simp [insAt, codeOf, sumNet, sumCode0, hp]
      exact absurd (by simp [stateOf, hi]) g0
    · have hi : insAt (sumNet rm a b) 0 (R.w 0) = some ⟨2, 1, 2, 0⟩ := by simp [insAt, codeOf, sumNet, sumCode0, hp]
      by_cases hx : (R.s 2).room ≤ (R.s 2).words.length - (R.s 2).read
      · exact Or.inl ⟨hn, hx, by simp [stateOf, hi, u2, hx], hi⟩
      · exact absurd (by simp [stateOf, hi, u2, hx]) g0
    · have hi : insAt (sumNet rm a b) 0 (R.w 0) = some ⟨9, 0, 0, 0⟩ := by simp [insAt, codeOf, sumNet, sumCode0, hp]
      exact absurd (by simp [stateOf, hi]) g0
    · have hi : insAt (sumNet rm a b) 0 (R.w 0) = none := by simp [insAt, codeOf, sumNet, sumCode0, hp]
      exact Or.inr ⟨hn, by simp [stateOf, hi]⟩
  have s1 : stateOf (sumNet rm a b) R 1 ≠ 3 := by rcases k1 with h | h <;> omega
  have hneed : ∀ t : Nat, needsB (sumNet rm a b) R t 3 = wantsB (sumNet rm a b) R t 0 := fun t => by
    have w1 : wantsB (sumNet rm a b) R t 1 = false := by simp [wantsB, s1]
    have w2 : wantsB (sumNet rm a b) R t 2 = false := by simp [wantsB, k2c]
    show (List.range 3).any _ = _
    simp [List.range_succ, w1, w2]
  rcases k0 with ⟨c1, c2, c3, c4⟩ | ⟨c1, c2⟩
  · -- worker 0 waits to write
    have hw : ∀ t : Nat, wantsB (sumNet rm a b) R t 0 = decide (t = 2) := fun t => by
      simp only [wantsB, c3, c4]
      by_cases ht : t = 2
      · subst ht; rfl
      · simp only [ht, decide_false]
        simp; omega
    have he : e = 4 ∧ (R.s 2).room = 40 := by
      cases hg with
      | goes h =>
        obtain ⟨k, hk, hk2⟩ := List.any_eq_true.1 h
        exact absurd (by simpa using hk2) (hs k (List.mem_range.1 hk))
      | none h =>
        have := h 2 (by show 2 < rm.length; omega)
        rw [show needsB (sumNet rm a b) R (2 : Nat) (sumNet rm a b).workers.length = needsB (sumNet rm a b) R (2 : Nat) 3 from rfl, hneed, hw] at this
        simp at this
      | @full t h1 h2 h3 =>
        have := h2.2.1
        rw [show needsB (sumNet rm a b) R t (sumNet rm a b).workers.length = needsB (sumNet rm a b) R t 3 from rfl, hneed, hw] at this
        have ht : t = 2 := by simpa using this
        subst ht
        exact ⟨rfl, h3⟩
    rcases k1 with ⟨d1, d2, d3, -⟩ | ⟨d1, d2, -⟩
    · omega
    · refine ⟨by omega, ?_⟩
      rw [if_pos (by omega)]; exact he.1
  · have he : e = 3 := by
      cases hg with
      | goes h => rfl
      | none h => rfl
      | @full t h1 h2 h3 =>
        have := h2.2.1
        rw [show needsB (sumNet rm a b) R t (sumNet rm a b).workers.length = needsB (sumNet rm a b) R t 3 from rfl, hneed] at this
        simp [wantsB, c2] at this
    refine ⟨by rcases k1 with h | h <;> omega, ?_⟩
    rw [if_neg (by rcases k1 with h | h <;> omega)]; exact he

theorem sumNet_valid {a b : List Int} (ha : a.length ≤ 50) (hb : b.length ≤ 50) : validB (sumNet [1, 1, 1, 1, 1] a b) = true := by
  simp only [validB, Bool.and_eq_true]
  refine ⟨⟨⟨show validStreamsB [1, 1, 1, 1, 1] = true by decide, ?_⟩, show validWorkersB [sumCode0, sumCode1, sumCode2] ((5 : Nat) : Int) = true by decide⟩, ?_⟩
  · simp [validSourcesB, sumNet, List.range_succ, inB, hasSourceB, ha, hb]
  · rfl

theorem sumNet_fits {rm a b : List Int} (ha : ∀ x ∈ a, Fits64 x) (hb : ∀ x ∈ b, Fits64 x) : NetFits (sumNet rm a b) := by
  refine ⟨fun k hk i hi => ?_, fun s hs x hx => ?_⟩
  · have : k = 0 ∨ k = 1 ∨ k = 2 := by have : k < 3 := hk; omega
    rcases this with rfl | rfl | rfl <;> simp [codeOf, sumNet, sumCode0, sumCode1, sumCode2] at hi <;> (rcases hi with rfl | rfl | rfl | rfl | rfl <;> exact ⟨by decide, by decide⟩)
  · simp [sumNet] at hs
    rcases hs with rfl | rfl
    · exact ha x hx
    · exact hb x hx

theorem tot_step (a b : List Int) (i : Nat) : wrap64 (wrap64 (wrap64 (totAt a b i + a.getD i 0) + a.getD i 0) + b.getD i 0) = totAt a b (i + 1) := by
  simp only [totAt, addAt, dblAt]
  generalize totAt a b i = t
  generalize a.getD i 0 = x
  generalize b.getD i 0 = y
  unfold wrap64
  omega

end Go.Proofs.YthfdgdfnflilfaaDoor
/- Sums: what its calls come to. -/
namespace Go.Proofs.YthfdgdfnflilfaaDoor
open Go.RowKit Go.Conc

theorem sum_flow {A : Nat → Prop} {p : Nat} {rm a b : List Int} {S : Rc} {c : Nat} {w : World} (ha : Has A p (sumNet rm a b) S w) (hg : Good (sumNet rm a b) S c) (hc : c ≤ 100000000) (hf : NetFits (sumNet rm a b)) (hlen : rm.length = 5) (la : a.length ≤ 50) (lb : b.length ≤ 50) :
    Calls Tryd.prog 12 #[.pointer (some ⟨p, 0, none⟩), .int .i64 5000] w fun e w' => ∃ (d : Nat) (T : Rc), e = .returned (.tuple #[.int .i64 (d : Nat), .int .i64 (if b.length + 40 < a.length then 4 else 3)]) ∧
      Has A p (sumNet rm a b) T w' ∧ (T.s 4).words.length = min a.length b.length ∧ SeqOf (fun i => totAt a b (i + 1)) (T.s 4).words ∧ Keeps A w w' := by
  have hv := (has_len ha).2.2
  refine (has_flow ha hg.room (fun s hs => by have := hg.words s hs; omega) 5000 (by decide)).mono fun e w' ⟨d, r, T, q1, q2, q3, q4⟩ => ?_
  obtain ⟨es, he, -⟩ := hg.run
  obtain ⟨m0, m1, m2, J⟩ := sumJ_run (a := a) (b := b) hlen (sumNet rm a b).streams es
  rw [he] at J
  obtain ⟨n0, n1, n2, J', hl⟩ := sumJ_star q1.1 J
  have hm := J'.most la lb
  have hd := (flowEnd_le q1).1
  have hgT := good_flow hv hf q1.1 hd hg
  rcases q1.2 with ⟨e1, -⟩ | ⟨-, e2, x, e3⟩
  · dsimp only at hl; omega
  · have hs : (sumNet rm a b).streams.length = 5 := hlen
    have g2 := hgT.grew 2 (by omega)
    have g3 := hgT.grew 3 (by omega)
    have k2 : heldB (sumNet rm a b) 2 = true := rfl
    have k3 : heldB (sumNet rm a b) 3 = true := rfl
    rw [if_pos k2] at g2
    rw [if_pos k3] at g3
    have v2 := valid_room hv 2 (by omega)
    have v3 := valid_room hv 3 (by omega)
    rw [getD_eq _ _ _ (by omega)] at g2 g3
    have hh : (T.s 2).words.length - (T.s 2).read ≤ (T.s 2).room := by
      obtain ⟨L, rfl, hra, -⟩ := q3.ex
      have hst := hra.env.at' 2 (by omega)
      have hsome := hra.ch_iff (s := 2) (by omega)
      rw [k2] at hsome
      obtain ⟨c', hc'⟩ := Option.isSome_iff_exists.1 hsome
      exact (hst.chan c' hc').2.1
    obtain ⟨r1, r2⟩ := J'.stops (by dsimp only at g2 ⊢; omega) (by dsimp only at g3 ⊢; omega) (hgT.room 2 (by omega)) hh e2 hlen e3
    exact ⟨d, T, by rw [q2, r2], q3, r1, J'.w4, q4⟩

theorem sum_calls {w : World} {vs vr vw v2 v3 : Value} {a b rooms l : List Int} (hn : NetAt w (.agg #[vs, vr, vw]) (sumNet [1, 1, 1, 1, 1] a b)) (hr : IntsAt w v2 rooms) (hl : IntsAt w v3 l)
    (fr : ∀ x ∈ rooms, InR x) (fl : ∀ x ∈ l, InR x) (ll : l.length ≤ 1048576) (fa : ∀ x ∈ a, Fits64 x) (fb : ∀ x ∈ b, Fits64 x) (la : a.length ≤ 50) (lb : b.length ≤ 50) :
    Calls Tryd.prog 9 #[.agg #[vs, vr, vw], v2] w fun e w1 => ∃ a1 c1, e = .returned (.agg #[.slice a1 5 c1, vr, vw]) ∧ Below w.heap.size w w1 ∧
    ∀ wx, Below w1.heap.size w1 wx → Calls Tryd.prog 10 #[.agg #[.slice a1 5 c1, vr, vw]] wx fun e w2 => ∃ p, e = .returned (.tuple #[.pointer (some ⟨p, 0, none⟩), .int .i64 0]) ∧ Below wx.heap.size wx w2 ∧
    Calls Tryd.prog 11 #[.pointer (some ⟨p, 0, none⟩), .agg #[.slice a1 5 c1, vr, vw], v3] w2 fun e w3 => ∃ p', e = .returned (.pointer (some ⟨p', 0, none⟩)) ∧ Below wx.heap.size wx w3 ∧
    Calls Tryd.prog 12 #[.pointer (some ⟨p', 0, none⟩), .int .i64 5000] w3 fun e w4 => ∃ d : Nat, e = .returned (.tuple #[.int .i64 (d : Nat), .int .i64 (if b.length + 40 < a.length then 4 else 3)]) ∧ Below wx.heap.size wx w4 ∧
    Calls Tryd.prog 13 #[.pointer (some ⟨p', 0, none⟩), .int .i64 4] w4 fun e w5 => ∃ a' c', e = .returned (.tuple #[.slice a' (min a.length b.length : Nat) c', .int .i64 0]) ∧ Below wx.heap.size wx w5 ∧
      ∀ wr, Below w5.heap.size w5 wr → ∀ i, i < min a.length b.length → ∃ g, a' = some ⟨g, 0, none⟩ ∧ wr.cell? ⟨g, i, none⟩ = some (.int .i64 (totAt a b (i + 1))) := by
  have hv := sumNet_valid la lb
  have hvM := roomy_valid hv rooms
  have hfM : NetFits (roomyN (sumNet [1, 1, 1, 1, 1] a b) rooms) := roomy_fits (sumNet_fits fa fb) rooms
  have hM : roomyN (sumNet [1, 1, 1, 1, 1] a b) rooms = sumNet (roomsOf [1, 1, 1, 1, 1] rooms) a b := rfl
  have hlen : (roomsOf [1, 1, 1, 1, 1] rooms).length = 5 := roomsOf_length _ _
  refine (roomy_calls hn hr fr (show (5 : Nat) ≤ 8 by decide)).mono fun e w1 ⟨a1, c1, q1, q2, q3⟩ => ⟨a1, c1, q1, q3, fun wx hx => ?_⟩
  have hwx : Below w.heap.size w wx := q3.trans (hx.mono q3.size)
  have ho : wx.ownsRow w.heap.size 3 1 (.slice a1 5 c1) 5 (intRow (roomsOf [1, 1, 1, 1, 1] rooms)) := own_of_blockB q2 fun g hg => by
    obtain ⟨cur, hc⟩ := own_blockB q2 hg
    exact hx.block g (lt_of_blk hc)
  have hnx : NetAt wx (.agg #[.slice a1 5 c1, vr, vw]) (roomyN (sumNet [1, 1, 1, 1, 1] a b) rooms) := net_roomy (hn.below hwx) (show (5 : Nat) ≤ 8 by decide) ho
  refine (has_new hnx hvM).mono fun e w2 ⟨p, r1, r2, r3⟩ => ⟨p, r1, r3, ?_⟩
  have hkb : ∀ wy, Keeps (fun b => b < wx.heap.size) w2 wy → Below wx.heap.size wx wy := fun wy hk => r3.trans (hk.below r3.size fun b hb => hb)
  refine (goes_calls r2 (Good.init hvM hfM) hfM (fun wy hk => hnx.below (hkb wy hk)) (fun wy hk => (hl.below hwx).below (hkb wy hk)) fl (by omega)).mono fun e w3 ⟨p', S, s1, s2, s3, _, s5⟩ => ⟨p', s1, hkb _ s5, ?_⟩
  rw [hM] at s2 s3 hfM
  refine (sum_flow s2 s3 (by omega) hfM hlen la lb).mono fun e w4 ⟨d, T, t1, t2, t3, t4, t5⟩ => ⟨d, t1, hkb _ (s5.trans t5), ?_⟩
  have hh := has_history t2 4 (by show 4 < (roomsOf [1, 1, 1, 1, 1] rooms).length; omega)
  have e4 : histOf (srcd (sumNet (roomsOf [1, 1, 1, 1, 1] rooms) a b) 4) (T.s 4) = (T.s 4).words := rfl
  rw [e4] at hh
  refine hh.mono fun e w5 ⟨a', c', u1, u2, u3⟩ => ⟨a', c', by rw [u1, t3], (hkb _ (s5.trans t5)).trans (u3.mono (hkb _ (s5.trans t5)).size), fun wr hwr i hi => ?_⟩
  obtain ⟨g, g1, -, g3⟩ := own_get u2 i (by omega)
  refine ⟨g, g1, ?_⟩
  have hg : (T.s 4).words.getD i 0 = totAt a b (i + 1) := by
    have := t4 i (by omega)
    simp [List.getD, this]
  rw [hg] at g3
  exact (hwr.cell (p := ⟨g, i, none⟩) (lt_of_cell g3)).trans g3

end Go.Proofs.YthfdgdfnflilfaaDoor
/- What lies in a row that is owned. -/
namespace Go.Proofs.YthfdgdfnflilfaaDoor
open Go.RowKit Go.Conc

theorem own_row_get {w : World} {base n : Nat} {t : TypeId} {v : Value} {vals : List Value} (h : w.ownsRow base t 1 v n vals) : ∃ a cap, v = .slice a n cap ∧ n ≤ cap ∧ ∀ i (hi : i < vals.length), ∃ g, a = some ⟨g, 0, none⟩ ∧ w.cell? ⟨g, i, none⟩ = some vals[i] := by
  obtain ⟨h1, h2⟩ := h
  rcases h2 with ⟨rfl, rfl⟩ | ⟨g, cap, cur, rfl, hg, hh, hn, hm, hs, ht⟩
  · exact ⟨none, 0, rfl, Nat.le_refl _, fun i hi => by omega⟩
  · refine ⟨_, cap, rfl, hn, fun i hi => ⟨g, rfl, ?_⟩⟩
    have e : vals[i]? = some vals[i] := List.getElem?_eq_getElem hi
    generalize vals[i] = x at e ⊢
    rw [← ht, Nat.mul_one, List.getElem?_take_of_lt (by omega)] at e
    simpa [World.cell?, hh] using e

end Go.Proofs.YthfdgdfnflilfaaDoor
/- Sums: its net, as it is written out in memory. -/
namespace Go.Proofs.YthfdgdfnflilfaaDoor
open Go.RowKit Go.Conc

theorem Tryd.infoSI : (Tryd.prog.info? 32).map (fun i => (i.zero, i.size, i.bytes)) = some (some (.slice none 0 0), 1, 24) := by kernel_rfl

/-- The net, of which some workers are there. -/
structure Fill (w1 : World) (n0 : Nat) (rm sr : List Value) (cs : List (List Ins)) (v : Value) (vals : List Value) (wr : World) : Prop where
  b0 : wr.heap[n0]? = some (.cells rm.toArray 3 (0, 0))
  b1 : wr.heap[n0 + 1]? = some (.cells sr.toArray 25 (0, 0))
  b2 : wr.heap[n0 + 1 + 1]? = some (.cells #[.slice (some ⟨n0, 0, none⟩) 5 5, .slice (some ⟨n0 + 1, 0, none⟩) 2 2, v] 29 (0, 0))
  row : wr.ownsRow (n0 + 3) 32 1 v cs.length vals
  code : ∀ i (h : i < cs.length), ∃ g, vals[i]? = some (.slice (some ⟨g, 0, none⟩) cs[i].length cs[i].length) ∧ wr.heap[g]? = some (.cells (codeRow cs[i]).toArray 31 (0, 0))
  below : Below n0 w1 wr
  size : n0 + 3 ≤ wr.heap.size

theorem Fill.next {w1 wr w2 : World} {n0 : Nat} {rm sr : List Value} {cs : List (List Ins)} {v : Value} {vals : List Value} (h : Fill w1 n0 rm sr cs v vals wr) (code : List Ins) {g gcap : Nat} (o : Obj)
    (ho : w2.ownsRow (n0 + 3) 32 1 (.slice (some ⟨g, 0, none⟩) (cs.length + 1) gcap) (cs.length + 1) (vals ++ [.slice (some ⟨wr.heap.size, 0, none⟩) code.length code.length]))
    (hg : ((wr.alloc (.cells (codeRow code).toArray 31)).alloc o).grownBy w2 v.ownBlock) :
    (w2.heap[n0 + 1 + 1]? = some (.cells #[.slice (some ⟨n0, 0, none⟩) 5 5, .slice (some ⟨n0 + 1, 0, none⟩) 2 2, v] 29 (0, 0))) ∧
    Fill w1 n0 rm sr (cs ++ [code]) (.slice (some ⟨g, 0, none⟩) (cs.length + 1) gcap) (vals ++ [.slice (some ⟨wr.heap.size, 0, none⟩) code.length code.length]) (w2.setCell ⟨n0 + 1 + 1, 2, none⟩ (.slice (some ⟨g, 0, none⟩) (cs.length + 1) gcap)) := by
  have hsz := h.size
  have hkeep : ∀ k, k < wr.heap.size → v.ownBlock ≠ some k → w2.heap[k]? = wr.heap[k]? := fun k hk hne => by
    rw [hg.block k (by simp; omega) (fun e => hne e.symm), Below.heap_alloc _ _ _ (by simp; omega), Below.heap_alloc _ _ _ hk]
  have hbase : ∀ k, v.ownBlock = some k → n0 + 3 ≤ k := fun k hk => own_baseB h.row hk
  have hlow : ∀ k, k < n0 + 3 → w2.heap[k]? = wr.heap[k]? := fun k hk => hkeep k (by omega) fun e => by have := hbase k e; omega
  have hcode : w2.heap[wr.heap.size]? = some (.cells (codeRow code).toArray 31 (0, 0)) := by
    rw [hg.block _ (by simp; omega) (fun e => ?_), Below.heap_alloc _ _ _ (by simp)]
    · exact heap_alloc_new _ _
    · obtain ⟨cur, hc⟩ := own_blockB h.row e.symm
      have := lt_of_blk hc
      omega
  have e2 := (hlow (n0 + 1 + 1) (by omega)).trans h.b2
  have hgg : n0 + 3 ≤ g := own_baseB ho rfl
  have hset : ∀ k, k ≠ n0 + 1 + 1 → (w2.setCell ⟨n0 + 1 + 1, 2, none⟩ (.slice (some ⟨g, 0, none⟩) (cs.length + 1) gcap)).heap[k]? = w2.heap[k]? := fun k hk => heap_setCell_other _ _ _ _ hk
  refine ⟨e2, ⟨by rw [hset _ (by omega), hlow _ (by omega)]; exact h.b0, by rw [hset _ (by omega), hlow _ (by omega)]; exact h.b1, ?_, ?_, fun i hi => ?_, ?_, ?_⟩⟩
  · exact blk_set (l := [_, _, _]) e2 2 _
  · rw [List.length_append]
    exact own_of_blockB ho fun k hk => hset k (by have := own_baseB ho hk; omega)
  · rcases Nat.lt_or_ge i cs.length with h1 | h1
    · obtain ⟨g', q1, q2⟩ := h.code i h1
      have hl : i < vals.length := (List.getElem?_eq_some_iff.1 q1).1
      rw [List.getElem_append_left h1]
      refine ⟨g', by rw [List.getElem?_append_left hl]; exact q1, ?_⟩
      have hne : v.ownBlock ≠ some g' := fun e => by
        obtain ⟨cur, hc⟩ := own_blockB h.row e
        exact absurd rfl (ne_of_types hc q2 (by decide))
      rw [hset g' (ne_of_types q2 h.b2 (by decide)), hkeep g' (lt_of_blk q2) hne]
      exact q2
    · have : i = cs.length := by simp at hi; omega
      subst this
      have hl : vals.length = cs.length := by have := h.row.1; omega
      refine ⟨wr.heap.size, ?_, ?_⟩
      · rw [List.getElem?_append_right (by omega), hl]; simp
      · rw [hset _ (by omega)]
        simpa using hcode
  · refine Below.setCell (h.below.trans ⟨hg.os, hg.tape, hg.output, Nat.le_trans (by simp; omega) hg.size, fun k hk => ?_⟩) (by show n0 ≤ n0 + 1 + 1; omega) _
    exact hlow k (by omega)
  · have := hg.size
    simp at this ⊢
    omega

theorem codes_at {w : World} {g : Nat} {c : List Ins} (h : w.heap[g]? = some (.cells (codeRow c).toArray 31 (0, 0))) (hl : c.length ≤ 1000) : CodeAt w (.slice (some ⟨g, 0, none⟩) c.length c.length) c := by
  refine ⟨_, _, rfl, by omega, Nat.le_refl _, Or.inr ⟨g, 0, rfl, fun i hi j hj => ?_⟩⟩
  have := codeRow_get c i hi j hj
  dsimp only
  rw [getD_eq _ _ _ hi, Nat.zero_add]
  exact row_cell h this

theorem Fill.net {w1 wr : World} {n0 : Nat} {v va vb : Value} {vals : List Value} {a b : List Int} (h : Fill w1 n0 (intRow [1, 1, 1, 1, 1]) [.int .i64 0, va, .int .i64 1, vb] [sumCode0, sumCode1, sumCode2] v vals wr) (ha : IntsAt wr va a) (hb : IntsAt wr vb b) :
    NetAt wr (.agg #[.slice (some ⟨n0, 0, none⟩) 5 5, .slice (some ⟨n0 + 1, 0, none⟩) 2 2, v]) (sumNet [1, 1, 1, 1, 1] a b) := by
  refine ⟨_, _, _, rfl, ⟨some ⟨n0, 0, none⟩, 5, rfl, show (5 : Nat) ≤ 140737488355328 by decide, show (5 : Nat) ≤ 5 by decide, Or.inr ⟨n0, 0, rfl, fun i hi j hj => ?_⟩⟩, ⟨fun i => if i = 0 then va else vb, ⟨some ⟨n0 + 1, 0, none⟩, 2, rfl, show (2 : Nat) ≤ 140737488355328 by decide, show (2 : Nat) ≤ 2 by decide, Or.inr ⟨n0 + 1, 0, rfl, fun i hi j hj => ?_⟩⟩, fun i hi => ?_⟩, ?_⟩
  · have hi' : i < 5 := hi
    have hc : (i = 0 ∨ i = 1 ∨ i = 2 ∨ i = 3 ∨ i = 4) ∧ j = 0 := by omega
    obtain ⟨rfl | rfl | rfl | rfl | rfl, rfl⟩ := hc <;> exact row_cell h.b0 rfl
  · have hi' : i < 2 := hi
    have hc : (i = 0 ∨ i = 1) ∧ (j = 0 ∨ j = 1) := by omega
    obtain ⟨rfl | rfl, rfl | rfl⟩ := hc <;> exact row_cell h.b1 rfl
  · have hi' : i < 2 := hi
    have hc : i = 0 ∨ i = 1 := by omega
    rcases hc with rfl | rfl
    · exact ha
    · exact hb
  · obtain ⟨av, cap, rfl, hcap, hg⟩ := own_row_get h.row
    have hl : vals.length = 3 := by have := h.row.1; simpa using this
    have code : ∀ i (hi : i < 3), CodeAt wr (vals.getD i (.bool false)) ([sumCode0, sumCode1, sumCode2][i]) := fun i hi => by
      obtain ⟨g, q1, q2⟩ := h.code i hi
      have : vals.getD i (.bool false) = .slice (some ⟨g, 0, none⟩) ([sumCode0, sumCode1, sumCode2][i]).length ([sumCode0, sumCode1, sumCode2][i]).length := by simp [List.getD, q1]
      rw [this]
      refine codes_at q2 ?_
      have hc : i = 0 ∨ i = 1 ∨ i = 2 := by omega
      rcases hc with rfl | rfl | rfl <;> simp [sumCode0, sumCode1, sumCode2]
    refine ⟨fun i => vals.getD i (.bool false), ⟨av, cap, rfl, by simp [sumNet], hcap, ?_⟩, fun i hi => code i hi⟩
    obtain ⟨g, rfl, -⟩ := hg 0 (by omega)
    refine Or.inr ⟨g, 0, rfl, fun i hi j hj => ?_⟩
    have hi' : i < 3 := hi
    obtain ⟨g', e, hcell⟩ := hg i (by omega)
    cases e
    have : j = 0 := by omega
    subst this
    have hiv : i < vals.length := by omega
    simpa [List.getD, hiv] using hcell

theorem IntsAt.take {w : World} {a : Option Addr} {cap : Nat} {l : List Int} (h : IntsAt w (.slice a l.length cap) l) (k : Nat) (hk : k ≤ l.length) : IntsAt w (.slice a k cap) (l.take k) := by
  have hl : (l.take k).length = k := by simp; omega
  unfold IntsAt
  rw [hl]
  refine (Sl.take h k hk).congr fun i hi j hj => ?_
  have : (l.take k).getD i 0 = l.getD i 0 := by simp [List.getD, hi]
  rw [this]

end Go.Proofs.YthfdgdfnflilfaaDoor

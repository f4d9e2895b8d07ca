/- Part 6: Model2, Race1, Make1, Make2, Lent2. -/
import Derived.StillTailTactics
import Derived.Test.YthfdgdfnflilfaaGreatDoorPart5
/- No schedule and no room changes what flows (Kahn): of two races each worker's road is the beginning of the other's. -/
namespace Go.Proofs.YthfdgdfnflilfaaGreatDoor
open Go.RowKit

def Cmp {α : Type} (a b : List α) : Prop := a <+: b ∨ b <+: a

theorem Cmp.symm {α : Type} {a b : List α} (h : Cmp a b) : Cmp b a := Or.symm h
theorem Cmp.refl {α : Type} (a : List α) : Cmp a a := Or.inl (List.prefix_refl a)

theorem Cmp.get {α : Type} {a b : List α} (h : Cmp a b) {j : Nat} {x y : α} (hx : a[j]? = some x) (hy : b[j]? = some y) : x = y := by
  rcases h with ⟨t, rfl⟩ | ⟨t, rfl⟩
  · rw [List.getElem?_append_left (List.getElem?_eq_some_iff.1 hx).1, hx] at hy
    exact Option.some.inj hy
  · rw [List.getElem?_append_left (List.getElem?_eq_some_iff.1 hy).1, hy] at hx
    exact (Option.some.inj hx).symm

theorem Cmp.eq {α : Type} {a b : List α} (h : Cmp a b) (hl : a.length = b.length) : a = b := by
  rcases h with h | h
  · exact h.eq_of_length hl
  · exact (h.eq_of_length hl.symm).symm

theorem Cmp.le {α : Type} {a b : List α} (h : Cmp a b) (hl : a.length ≤ b.length) : a <+: b := by
  rcases h with h | h
  · exact h
  · have := h.length_le
    rw [h.eq_of_length (by omega)]
    exact List.prefix_refl _

theorem Cmp.take {α : Type} (l : List α) (m n : Nat) : Cmp (l.take m) (l.take n) := by
  rcases Nat.le_total m n with h | h
  · exact Or.inl (List.take_prefix_take_left h)
  · exact Or.inr (List.take_prefix_take_left h)

theorem Cmp.init {α : Type} {a b : List α} {x y : α} (h : Cmp (a ++ [x]) (b ++ [y])) : Cmp a b := by
  rcases h with h | h
  · refine Or.inl (List.prefix_of_prefix_length_le ((List.prefix_append a [x]).trans h) (List.prefix_append b [y]) ?_)
    have := h.length_le; simp at this; exact this
  · refine Or.inr (List.prefix_of_prefix_length_le ((List.prefix_append b [y]).trans h) (List.prefix_append a [x]) ?_)
    have := h.length_le; simp at this; exact this

theorem outW_prefix {N : Net} {k s : Nat} {a b : List Wk} (h : a <+: b) : outW N k s a <+: outW N k s b := by
  obtain ⟨t, rfl⟩ := h
  exact ⟨outW N k s t, by simp [outW]⟩

theorem full_length (G : Rc × (Nat → List Wk)) (k : Nat) : (full G k).length = (G.2 k).length + 1 := by simp [full]

theorem words_cmp {N : Net} {A B : Rc × (Nat → List Wk)} (gA : GI N A) (gB : GI N B) (h : ∀ k, k < N.workers.length → Cmp (full A k) (full B k)) (s : Nat) (hs : s < N.streams.length) (hq : srcd N s = false) :
    Cmp (A.1.s s).words (B.1.s s).words := by
  by_cases hw : ∃ k, k < N.workers.length ∧ usesB (codeOf N k) 2 s = true
  · obtain ⟨k, hk, hu⟩ := hw
    rw [gA.wr k s hk hs hu, gB.wr k s hk hs hu]
    rcases (h k hk).init with h | h
    · exact Or.inl (outW_prefix h)
    · exact Or.inr (outW_prefix h)
  · have hn : ∀ k, k < N.workers.length → usesB (codeOf N k) 2 s = false := by
      intro k hk
      cases hu : usesB (codeOf N k) 2 s
      · rfl
      · exact absurd ⟨k, hk, hu⟩ hw
    rw [gA.nowr s hs hq hn, gB.nowr s hs hq hn]
    exact Cmp.refl _

theorem full_head {N : Net} (rooms : List Int) (k : Nat) (hk : k < N.workers.length) : ∀ es, (full (grun N rooms es) k)[0]? = some ⟨0, fun _ => 0, 0⟩
  | [] => by simp [full, grun, initR, Rc.w, List.getD, hk]
  | e :: es => by
    have ih := full_head rooms k hk es
    generalize hG : grun N rooms es = G at ih
    simp only [grun, hG]
    cases e with
    | inr s => exact ih
    | inl j =>
      simp only [ev]
      split
      · by_cases hj : k = j
        · subst hj
          simp only [full, if_true]
          rw [List.getElem?_append_left (by simp)]
          exact ih
        · simp only [full, if_neg hj]
          cases ht : G.2 k with
          | nil =>
            simp only [full, ht, List.nil_append] at ih ⊢
            rw [← ih]
            have : (doStep N G.1 j).w k = G.1.w k := by
              simp only [doStep]
              split
              · rfl
              · exact getD_set_ne _ _ _ _ _ (fun e => hj e.symm)
            rw [this]
          | cons x t =>
            simp only [full, ht, List.cons_append, List.getElem?_cons_zero] at ih ⊢
            exact ih
      · exact ih

theorem doStep_w_ne (N : Net) (R : Rc) (j k : Nat) (h : k ≠ j) : (doStep N R j).w k = R.w k := by
  simp only [doStep]
  split
  · rfl
  · exact getD_set_ne _ _ _ _ _ (fun e => h e.symm)

theorem agree {N : Net} (ok : Ok N) (r1 r2 : List Int) (es2 : List (Nat ⊕ Nat)) : ∀ es1, ∀ k, k < N.workers.length → Cmp (full (grun N r1 es1) k) (full (grun N r2 es2) k)
  | [], k, hk => by
    have h2 := full_head r2 k hk es2
    refine Or.inl ?_
    cases hf : full (grun N r2 es2) k with
    | nil => rw [hf] at h2; simp at h2
    | cons x t =>
      rw [hf] at h2
      simp at h2
      subst h2
      refine ⟨t, ?_⟩
      simp [full, grun, initR, Rc.w, List.getD, hk]
  | e :: es, k, hk => by
    have ih := agree ok r1 r2 es2 es
    have gA := gi_run ok r1 es
    have gB := gi_run ok r2 es2
    generalize hA : grun N r1 es = A at ih gA
    generalize hB : grun N r2 es2 = B at ih gB ⊢
    simp only [grun, hA]
    cases e with
    | inr s => exact ih k hk
    | inl j =>
      simp only [ev]
      split
      · rename_i hst
        by_cases hj : k = j
        · subst hj
          have hc := ih k hk
          cases hi : insAt N k (A.1.w k) with
          | none => have h1 := hst.2; simp [stateOf, hi] at h1
          | some i =>
            have hmem : i ∈ codeOf N k := List.mem_of_getElem? hi
            have hb := (ok.ins k hk i hmem).2.2
            have hu := uses_of_ins hi
            have hfull : full (doStep N A.1 k, fun j => if j = k then A.2 k ++ [A.1.w k] else A.2 j) k = full A k ++ [nextW (A.1.w k) i (A.1.s i.b.toNat).words[(A.1.s i.b.toNat).read]?] := by
              simp only [full, if_true]
              rw [doStep_some hi]
              congr 2
              exact getD_set_self _ _ _ _ (by rw [gA.lenW]; exact hk)
            rw [hfull]
            rcases hc with hc | hc
            · obtain ⟨t, ht⟩ := hc
              cases t with
              | nil => rw [List.append_nil] at ht; rw [← ht]; exact Or.inr (List.prefix_append _ _)
              | cons y rest =>
                have hlen : (B.2 k).length = (A.2 k).length + 1 + rest.length := by
                  have := congrArg List.length ht
                  simp [full] at this
                  omega
                have hjlt : (A.2 k).length < (B.2 k).length := by omega
                obtain ⟨i', h1, h2, h3⟩ := gB.tr5 k hk (A.2 k).length hjlt
                have hat : (B.2 k)[(A.2 k).length] = A.1.w k := by
                  have e1 : (full B k)[(A.2 k).length]? = some (B.2 k)[(A.2 k).length] := by
                    simp only [full]; rw [List.getElem?_append_left hjlt]; exact List.getElem?_eq_getElem hjlt
                  rw [← ht, List.getElem?_append_left (by rw [full_length]; omega)] at e1
                  simp [full] at e1
                  exact e1.symm
                have htk : (B.2 k).take (A.2 k).length = A.2 k := by
                  have e1 : (full B k).take (A.2 k).length = (B.2 k).take (A.2 k).length := by
                    simp only [full]; rw [List.take_append_of_le_length (by omega)]
                  rw [← e1, ← ht]
                  simp [full]
                have hy : (full B k)[(A.2 k).length + 1]? = some y := by
                  rw [← ht, List.getElem?_append_right (by rw [full_length]; omega), full_length]
                  simp
                rw [hat] at h1
                rw [hi] at h1
                cases h1
                rw [hy, hat, htk] at h2
                have h2 := Option.some.inj h2
                rw [htk] at h3
                have hyw : y = nextW (A.1.w k) i (A.1.s i.b.toNat).words[(A.1.s i.b.toNat).read]? := by
                  rw [h2]
                  by_cases ho : i.op = 1
                  · have hbb := hb (Or.inl ho)
                    have hlt' : i.b.toNat < N.streams.length := by omega
                    have hbe : i.b = ((i.b.toNat : Nat) : Int) := by omega
                    have hu1 : usesB (codeOf N k) 1 (i.b.toNat : Nat) = true := by rw [ho] at hu; rw [← hbe]; exact hu
                    have old := gA.rd k i.b.toNat hk hlt' hu1
                    congr 1
                    cases hq : srcd N i.b.toNat
                    · rw [hq] at old
                      simp only [Bool.false_eq_true, if_false] at old
                      rw [← old] at h3 ⊢
                      have hlB := h3 ho hq
                      have hlA : (A.1.s i.b.toNat).read < (A.1.s i.b.toNat).words.length := by
                        have hle := gA.le _ hlt'
                        rcases Nat.lt_or_ge (A.1.s i.b.toNat).read (A.1.s i.b.toNat).words.length with hl | hg
                        · exact hl
                        · exfalso
                          have heq : (A.1.s i.b.toNat).read = (A.1.s i.b.toNat).words.length := by omega
                          have hs2 := hst.2
                          simp only [stateOf, hi] at hs2
                          rw [if_pos ⟨ho, hq, heq⟩] at hs2
                          cases hs2
                      have hcw := words_cmp gA gB ih _ hlt' hq
                      rw [List.getElem?_eq_getElem hlB, List.getElem?_eq_getElem hlA]
                      congr 1
                      exact (hcw.get (List.getElem?_eq_getElem hlA) (List.getElem?_eq_getElem hlB)).symm
                    · rw [hq] at old
                      simp only [if_true] at old
                      rw [old, gA.src _ hlt' hq, gB.src _ hlt' hq]
                      by_cases hle : inN N k i.b.toNat (A.2 k) ≤ (srcWords N i.b.toNat).length
                      · rw [Nat.min_eq_left hle]
                      · rw [Nat.min_eq_right (by omega), List.getElem?_eq_none (Nat.le_refl _), List.getElem?_eq_none (by omega)]
                  · exact nextW_congr _ _ _ _ ho
                rw [← hyw]
                exact Or.inl ⟨rest, by rw [← ht]; simp⟩
            · exact Or.inr (hc.trans (List.prefix_append _ _))
        · have hfull : full (doStep N A.1 j, fun j' => if j' = j then A.2 j ++ [A.1.w j] else A.2 j') k = full A k := by
            simp only [full, if_neg hj]
            rw [doStep_w_ne _ _ _ _ hj]
          rw [hfull]
          exact ih k hk
      · exact ih k hk

/-- The history of a stream. -/
def hist (N : Net) (R : Rc) (s : Nat) : List Int := if srcd N s then (R.s s).words.take (R.s s).read else (R.s s).words

/-- P9. -/
theorem hist_cmp {N : Net} (ok : Ok N) (r1 r2 : List Int) (es1 es2 : List (Nat ⊕ Nat)) (s : Nat) (hs : s < N.streams.length) :
    Cmp (hist N (grun N r1 es1).1 s) (hist N (grun N r2 es2).1 s) := by
  have gA := gi_run ok r1 es1
  have gB := gi_run ok r2 es2
  have h := agree ok r1 r2 es2 es1
  simp only [hist]
  cases hq : srcd N s
  · exact words_cmp gA gB h s hs hq
  · simp only [if_true]
    rw [gA.src s hs hq, gB.src s hs hq]
    exact Cmp.take _ _ _

/-- P10, by true counts. -/
theorem local_eq {N : Net} (ok : Ok N) (r1 r2 : List Int) (es1 es2 : List (Nat ⊕ Nat)) (k : Nat) (hk : k < N.workers.length) (hc : ((grun N r1 es1).2 k).length = ((grun N r2 es2).2 k).length) :
    (grun N r1 es1).1.w k = (grun N r2 es2).1.w k := by
  have h := (agree ok r1 r2 es2 es1 k hk).eq (by simp [full, hc])
  have := congrArg (fun l => l.getLast?) h
  simpa [full] using this

/-- Nobody can go on, and nobody waits to write. -/
def Stuck (N : Net) (R : Rc) : Prop := ∀ k, k < N.workers.length → stateOf N R k = 2 ∨ stateOf N R k = 4

theorem state_two {N : Net} {R : Rc} {k : Nat} {i : Ins} (hi : insAt N k (R.w k) = some i) (h : stateOf N R k = 2 ∨ stateOf N R k = 4) :
    i.op = 1 ∧ srcd N i.b.toNat = false ∧ (R.s i.b.toNat).read = (R.s i.b.toNat).words.length := by
  simp only [stateOf, hi] at h
  by_cases hc : i.op = 1 ∧ srcd N i.b.toNat = false ∧ (R.s i.b.toNat).read = (R.s i.b.toNat).words.length
  · exact hc
  · rw [if_neg hc] at h
    split at h <;> omega

theorem stuck_le {N : Net} (ok : Ok N) (r1 r2 : List Int) (es1 : List (Nat ⊕ Nat)) (hst : Stuck N (grun N r1 es1).1) : ∀ es2, ∀ k, k < N.workers.length → ((grun N r2 es2).2 k).length ≤ ((grun N r1 es1).2 k).length
  | [], k, hk => by simp [grun]
  | e :: es, k, hk => by
    have ih := stuck_le ok r1 r2 es1 hst es
    have gA := gi_run ok r1 es1
    have gB := gi_run ok r2 es
    have hag := agree ok r1 r2 es es1
    generalize hA : grun N r1 es1 = A at *
    generalize hB : grun N r2 es = B at *
    simp only [grun, hB]
    cases e with
    | inr s => exact ih k hk
    | inl j =>
      simp only [ev]
      split
      · rename_i hs1
        by_cases hj : k = j
        · subst hj
          simp only [if_true, List.length_append, List.length_cons, List.length_nil]
          have hle := ih k hk
          rcases Nat.lt_or_ge (B.2 k).length (A.2 k).length with hl | hg
          · omega
          · exfalso
            have heq : full A k = full B k := (hag k hk).eq (by simp [full]; omega)
            have htr : A.2 k = B.2 k := by
              have := congrArg List.dropLast heq
              simpa [full] using this
            have hww : A.1.w k = B.1.w k := by
              have := congrArg (fun l => l.getLast?) heq
              simpa [full] using this
            cases hi : insAt N k (B.1.w k) with
            | none => have := hs1.2; simp [stateOf, hi] at this
            | some i =>
              have hiA : insAt N k (A.1.w k) = some i := by rw [hww]; exact hi
              obtain ⟨ho, hq, hrd⟩ := state_two hiA (hst k hk)
              have hmem : i ∈ codeOf N k := List.mem_of_getElem? hi
              have hbb := (ok.ins k hk i hmem).2.2 (Or.inl ho)
              have hlt' : i.b.toNat < N.streams.length := by omega
              have hbe : i.b = ((i.b.toNat : Nat) : Int) := by omega
              have hu := uses_of_ins hi
              have hu1 : usesB (codeOf N k) 1 (i.b.toNat : Nat) = true := by rw [ho] at hu; rw [← hbe]; exact hu
              have oA := gA.rd k i.b.toNat hk hlt' hu1
              have oB := gB.rd k i.b.toNat hk hlt' hu1
              rw [hq] at oA oB
              simp only [Bool.false_eq_true, if_false] at oA oB
              rw [htr] at oA
              have hlB : (B.1.s i.b.toNat).read < (B.1.s i.b.toNat).words.length := by
                have hle := gB.le _ hlt'
                rcases Nat.lt_or_ge (B.1.s i.b.toNat).read (B.1.s i.b.toNat).words.length with hl | hg
                · exact hl
                · exfalso
                  have heq : (B.1.s i.b.toNat).read = (B.1.s i.b.toNat).words.length := by omega
                  have hs2 := hs1.2
                  simp only [stateOf, hi] at hs2
                  rw [if_pos ⟨ho, hq, heq⟩] at hs2
                  cases hs2
              have hwl : (B.1.s i.b.toNat).words.length ≤ (A.1.s i.b.toNat).words.length := by
                by_cases hw : ∃ k', k' < N.workers.length ∧ usesB (codeOf N k') 2 i.b.toNat = true
                · obtain ⟨k', hk', hu'⟩ := hw
                  rw [gA.wr k' _ hk' hlt' hu', gB.wr k' _ hk' hlt' hu']
                  exact (outW_prefix (((hag k' hk').init.symm).le (ih k' hk'))).length_le
                · have hn : ∀ k, k < N.workers.length → usesB (codeOf N k) 2 i.b.toNat = false := by
                    intro k' hk'
                    cases hu' : usesB (codeOf N k') 2 i.b.toNat
                    · rfl
                    · exact absurd ⟨k', hk', hu'⟩ hw
                  rw [gB.nowr _ hlt' hq hn]
                  exact Nat.zero_le _
              omega
        · simp only [if_neg hj]
          exact ih k hk
      · exact ih k hk

/-- P11. -/
theorem settled_eq {N : Net} (ok : Ok N) (r1 r2 : List Int) (es1 es2 : List (Nat ⊕ Nat)) (h1 : Stuck N (grun N r1 es1).1) (h2 : Stuck N (grun N r2 es2).1) :
    (∀ k, k < N.workers.length → (grun N r1 es1).1.w k = (grun N r2 es2).1.w k) ∧ (∀ s, s < N.streams.length → hist N (grun N r1 es1).1 s = hist N (grun N r2 es2).1 s) := by
  have l1 := stuck_le ok r1 r2 es1 h1 es2
  have l2 := stuck_le ok r2 r1 es2 h2 es1
  have gA := gi_run ok r1 es1
  have gB := gi_run ok r2 es2
  have hag := agree ok r1 r2 es2 es1
  have hfull : ∀ k, k < N.workers.length → full (grun N r1 es1) k = full (grun N r2 es2) k := fun k hk =>
    (hag k hk).eq (by have := l1 k hk; have := l2 k hk; simp only [full_length]; omega)
  have htr : ∀ k, k < N.workers.length → (grun N r1 es1).2 k = (grun N r2 es2).2 k := fun k hk => by
    have := congrArg List.dropLast (hfull k hk)
    simpa [full] using this
  refine ⟨fun k hk => ?_, fun s hs => ?_⟩
  · have := congrArg (fun l => l.getLast?) (hfull k hk)
    simpa [full] using this
  · simp only [hist]
    cases hq : srcd N s
    · simp only [Bool.false_eq_true, if_false]
      by_cases hw : ∃ k', k' < N.workers.length ∧ usesB (codeOf N k') 2 s = true
      · obtain ⟨k', hk', hu'⟩ := hw
        rw [gA.wr k' _ hk' hs hu', gB.wr k' _ hk' hs hu', htr k' hk']
      · have hn : ∀ k, k < N.workers.length → usesB (codeOf N k) 2 s = false := by
          intro k' hk'
          cases hu' : usesB (codeOf N k') 2 s
          · rfl
          · exact absurd ⟨k', hk', hu'⟩ hw
        rw [gA.nowr _ hs hq hn, gB.nowr _ hs hq hn]
    · simp only [if_true]
      rw [gA.src s hs hq, gB.src s hs hq]
      by_cases hr : ∃ k', k' < N.workers.length ∧ usesB (codeOf N k') 1 s = true
      · obtain ⟨k', hk', hu'⟩ := hr
        rw [gA.rd k' _ hk' hs hu', gB.rd k' _ hk' hs hu', htr k' hk']
      · have hn : ∀ k, k < N.workers.length → usesB (codeOf N k) 1 s = false := by
          intro k' hk'
          cases hu' : usesB (codeOf N k') 1 s
          · rfl
          · exact absurd ⟨k', hk', hu'⟩ hr
        rw [gA.nord _ hs hn, gB.nord _ hs hn]

end Go.Proofs.YthfdgdfnflilfaaGreatDoor
/- A race in memory, and what a net that is one gives. -/
namespace Go.Proofs.YthfdgdfnflilfaaGreatDoor
open Go.RowKit Go.Conc

/-! ### Nets that are nets -/
theorem valid_code {N : Net} (h : validB N = true) {k : Nat} (hk : k < N.workers.length) : validCodeB (codeOf N k) N.streams.length = true := by
  simp only [validB, validWorkersB, Bool.and_eq_true] at h
  have := List.all_eq_true.1 h.1.2.2 (codeOf N k) (by unfold codeOf; rw [getD_eq _ _ _ hk]; exact List.getElem_mem hk)
  exact this
theorem valid_ins {N : Net} (h : validB N = true) {k : Nat} (hk : k < N.workers.length) {i : Ins} (hi : i ∈ codeOf N k) : opsValid i (codeOf N k).length N.streams.length = true := by
  have h1 := valid_code h hk
  simp only [validCodeB, Bool.and_eq_true] at h1
  exact List.all_eq_true.1 h1.2 i hi
theorem valid_len {N : Net} (h : validB N = true) {k : Nat} (hk : k < N.workers.length) : 1 ≤ (codeOf N k).length ∧ (codeOf N k).length ≤ 20 := by
  have h1 := valid_code h hk
  simp only [validCodeB, Bool.and_eq_true, decide_eq_true_eq] at h1
  exact ⟨h1.1.1, h1.1.2⟩
theorem valid_ends {N : Net} (h : validB N = true) {s : Nat} (hs : s < N.streams.length) : usersN N.workers 2 s + (if hasSourceB N.sources s then 1 else 0) ≤ 1 ∧ usersN N.workers 1 s ≤ 1 := by
  simp only [validB, validEndsB, Bool.and_eq_true] at h
  have := List.all_eq_true.1 h.2 s (List.mem_range.2 hs)
  simpa using this
theorem valid_counts {N : Net} (h : validB N = true) : 1 ≤ N.streams.length ∧ N.streams.length ≤ 8 ∧ 1 ≤ N.workers.length ∧ N.workers.length ≤ 6 := by
  simp only [validB, validStreamsB, validWorkersB, Bool.and_eq_true, decide_eq_true_eq] at h
  exact ⟨h.1.1.1.1.1, h.1.1.1.1.2, h.1.2.1.1, h.1.2.1.2⟩

theorem codeOf_out {N : Net} {k : Nat} (h : ¬ k < N.workers.length) : codeOf N k = [] := by
  simp only [codeOf, List.getD]; rw [List.getElem?_eq_none (by omega)]; rfl

/-- Two workers that use a stream are two. -/
theorem two_users (l : List (List Ins)) (op s : Int) : ∀ (j k : Nat) (hj : j < l.length) (hk : k < l.length), j < k → usesB l[j] op s = true → usesB l[k] op s = true → 2 ≤ usersN l op s := by
  induction l with
  | nil => intro j k hj; simp at hj
  | cons c l ih =>
    intro j k hj hk hjk h1 h2
    cases k with
    | zero => omega
    | succ k =>
      have hk' : k < l.length := by simpa using hk
      have h2' : usesB l[k] op s = true := by simpa using h2
      cases j with
      | zero =>
        have h1' : usesB c op s = true := by simpa using h1
        have : 0 < usersN l op s := List.countP_pos_iff.2 ⟨l[k], List.getElem_mem hk', h2'⟩
        simp only [usersN, List.countP_cons, h1', if_true] at this ⊢
        omega
      | succ j =>
        have := ih j k (by simpa using hj) hk' (by omega) (by simpa using h1) h2'
        simp only [usersN, List.countP_cons] at this ⊢
        omega

theorem user_unique {N : Net} {op : Int} {s : Nat} (hu : usersN N.workers op s ≤ 1) {k k' : Nat} (h1 : usesB (codeOf N k) op s = true) (h2 : usesB (codeOf N k') op s = true) : k = k' := by
  have hk : k < N.workers.length := by
    rcases Nat.lt_or_ge k N.workers.length with h | h
    · exact h
    · rw [codeOf_out (by omega)] at h1; cases h1
  have hk' : k' < N.workers.length := by
    rcases Nat.lt_or_ge k' N.workers.length with h | h
    · exact h
    · rw [codeOf_out (by omega)] at h2; cases h2
  unfold codeOf at h1 h2
  rw [getD_eq _ _ _ hk] at h1
  rw [getD_eq _ _ _ hk'] at h2
  rcases Nat.lt_trichotomy k k' with h | h | h
  · have := two_users N.workers op s k k' hk hk' h h1 h2; omega
  · exact h
  · have := two_users N.workers op s k' k hk' hk h h2 h1; omega

theorem uses_pos {N : Net} {op : Int} {s : Nat} {k : Nat} (h1 : usesB (codeOf N k) op s = true) : 0 < usersN N.workers op s := by
  have hk : k < N.workers.length := by
    rcases Nat.lt_or_ge k N.workers.length with h | h
    · exact h
    · rw [codeOf_out (by omega)] at h1; cases h1
  unfold codeOf at h1
  rw [getD_eq _ _ _ hk] at h1
  exact List.countP_pos_iff.2 ⟨N.workers[k], List.getElem_mem hk, h1⟩

theorem stream_of_uses {N : Net} (h : validB N = true) {k : Nat} {op : Int} (ho : op = 1 ∨ op = 2) {s : Nat} (h1 : usesB (codeOf N k) op s = true) : s < N.streams.length := by
  have hk : k < N.workers.length := by
    rcases Nat.lt_or_ge k N.workers.length with h | h
    · exact h
    · rw [codeOf_out (by omega)] at h1; cases h1
  obtain ⟨i, hi, hp⟩ := List.any_eq_true.1 h1
  simp only [Bool.and_eq_true, beq_iff_eq] at hp
  have := valid_stream (valid_ins h hk hi) (by rw [hp.1]; exact ho)
  rw [hp.2] at this
  omega

theorem uses_nat {N : Net} (h : validB N = true) {k : Nat} {op : Int} (ho : op = 1 ∨ op = 2) {s : Int} (h1 : usesB (codeOf N k) op s = true) : ∃ s' : Nat, s = s' := by
  have hk : k < N.workers.length := by
    rcases Nat.lt_or_ge k N.workers.length with h | h
    · exact h
    · rw [codeOf_out (by omega)] at h1; cases h1
  obtain ⟨i, hi, hp⟩ := List.any_eq_true.1 h1
  simp only [Bool.and_eq_true, beq_iff_eq] at hp
  have := valid_stream (valid_ins h hk hi) (by rw [hp.1]; exact ho)
  rw [hp.2] at this
  exact Int.eq_ofNat_of_zero_le this.1

theorem valid_ok {N : Net} (h : validB N = true) : Ok N := by
  refine ⟨fun k hk i hi => ?_, fun s k k' h1 h2 => ?_, fun s k k' h1 h2 => ?_, fun s k hq => ?_⟩
  · have hv := valid_ins h hk hi
    exact ⟨(valid_op hv).1, (valid_op hv).2, fun ho => valid_stream hv ho⟩
  · obtain ⟨s', rfl⟩ := uses_nat h (Or.inr rfl) h1
    have hs := stream_of_uses h (Or.inr rfl) h1
    exact user_unique (by have := (valid_ends h hs).1; omega) h1 h2
  · obtain ⟨s', rfl⟩ := uses_nat h (Or.inl rfl) h1
    have hs := stream_of_uses h (Or.inl rfl) h1
    exact user_unique (valid_ends h hs).2 h1 h2
  · cases hu : usesB (codeOf N k) 2 s
    · rfl
    · have hs := stream_of_uses h (Or.inr rfl) hu
      have h1 := (valid_ends h hs).1
      have h2 := uses_pos hu
      have hq' : hasSourceB N.sources s = true := hq
      rw [hq'] at h1
      simp at h1
      omega

/-! ### A race in memory -/
structure Lay where
  p : Nat
  vS : Value
  vW : Value
  st : Nat → Nat
  VW : Nat → Value
  CH : Nat → Option Nat
  wb : Nat → Nat
  VC : Nat → Value

structure RaceAt (L : Lay) (w : World) (N : Net) (R : Rc) : Prop where
  blk : w.heap[L.p]? = some (.cells #[L.vS, L.vW] 74 (0, 0))
  env : Env w L.vS N.streams.length L.st L.VW L.CH (srcd N) R.s
  rowW : ∃ g cap, L.vW = .slice (some ⟨g, 0, none⟩) N.workers.length cap ∧ ∃ cs : List Value, w.heap[g]? = some (.cells cs.toArray 107 (0, 0)) ∧ ∀ i, i < N.workers.length → cs[i]? = some (.pointer (some ⟨L.wb i, 0, none⟩))
  wk : ∀ k, k < N.workers.length → WkAt w (L.wb k) (L.VC k) (codeOf N k) (R.w k)
  ch : ∀ s, s < N.streams.length → srcd N s = false → ((L.CH s).isSome = true ↔ used N s = true)
  injS : ∀ s t, s < N.streams.length → t < N.streams.length → s ≠ t → L.st s ≠ L.st t ∧ (∀ g, (L.VW s).ownBlock = some g → (L.VW t).ownBlock ≠ some g) ∧ (∀ c, L.CH s = some c → L.CH t ≠ some c)
  injW : ∀ j k, j < N.workers.length → k < N.workers.length → j ≠ k → L.wb j ≠ L.wb k
  lenW : R.W.length = N.workers.length
  lenS : R.S.length = N.streams.length
  ok : validB N = true

/-- The blocks of a race. -/
def Foot (L : Lay) (N : Net) (k : Nat) : Prop :=
  k = L.p ∨ L.vS.ownBlock = some k ∨ L.vW.ownBlock = some k ∨ (∃ s, s < N.streams.length ∧ (k = L.st s ∨ (L.VW s).ownBlock = some k ∨ L.CH s = some k)) ∨ (∃ j, j < N.workers.length ∧ (k = L.wb j ∨ (L.VC j).ownBlock = some k))

theorem RaceAt.codeOk {L : Lay} {w : World} {N : Net} {R : Rc} (h : RaceAt L w N R) {k : Nat} (hk : k < N.workers.length) : CodeOk (codeOf N k) N.streams.length L.CH (srcd N) := by
  refine ⟨fun i hi => valid_ins h.ok hk hi, fun i hi ho => ?_, fun i hi ho => ?_⟩
  · have hv := valid_stream (valid_ins h.ok hk hi) (Or.inl ho)
    have hs : i.b.toNat < N.streams.length := by omega
    cases hq : srcd N i.b.toNat
    · refine Or.inr fun hn => ?_
      have hu : used N i.b.toNat = true := by
        have : usesB (codeOf N k) 1 (i.b.toNat : Nat) = true := List.any_eq_true.2 ⟨i, hi, by simp [ho]; omega⟩
        simp only [used, decide_eq_true_eq]; exact uses_pos this
      have := (h.ch _ hs hq).2 hu
      rw [hn] at this; cases this
    · exact Or.inl rfl
  · have hv := valid_stream (valid_ins h.ok hk hi) (Or.inr ho)
    have hu : usesB (codeOf N k) 2 (i.b.toNat : Nat) = true := List.any_eq_true.2 ⟨i, hi, by simp [ho]; omega⟩
    cases hq : srcd N i.b.toNat
    · rfl
    · rw [(valid_ok h.ok).src _ k hq] at hu; cases hu

/-- What a worker would say is what the model says. -/
theorem RaceAt.state {L : Lay} {w : World} {N : Net} {R : Rc} (h : RaceAt L w N R) {k : Nat} (hk : k < N.workers.length) : stateL (codeOf N k) (R.w k) L.CH (srcd N) R.s = stateOf N R k := by
  simp only [stateL, stateOf, insAt]
  cases hi : (codeOf N k)[(R.w k).place]? with
  | none => rfl
  | some i =>
    dsimp only
    have hm : i ∈ codeOf N k := List.mem_of_getElem? hi
    by_cases ho : i.op = 2
    · have hq := (h.codeOk hk).wr i hm ho
      have hv := valid_stream (valid_ins h.ok hk hm) (Or.inr ho)
      have e := h.ch i.b.toNat (by omega) hq
      by_cases hu : used N i.b.toNat = true
      · simp only [e.2 hu, hu]
      · have : ¬ (L.CH i.b.toNat).isSome = true := fun hc => hu (e.1 hc)
        simp only [this, hu]
    · simp only [ho, false_and]

theorem RaceAt.cells {L : Lay} {w : World} {N : Net} {R : Rc} (h : RaceAt L w N R) : w.cell? ⟨L.p, 0, none⟩ = some L.vS ∧ w.cell? ⟨L.p, 1, none⟩ = some L.vW := ⟨row_cell h.blk rfl, row_cell h.blk rfl⟩

end Go.Proofs.YthfdgdfnflilfaaGreatDoor
/- What makes streams and workers: Unread, WithRoom, FromSource, workers.New. -/
namespace Go.Proofs.YthfdgdfnflilfaaGreatDoor
open Go.RowKit Go.Conc

/-- A stream that is new. -/
def NewSt (w : World) (src : Bool) (m : Sm) (some' : Bool) (e : Ending) (w' : World) : Prop :=
  ∃ b vw ch, e = .returned (.pointer (some ⟨b, 0, none⟩)) ∧ StAt w' b vw ch src m ∧ Below w.heap.size w w' ∧ w.heap.size ≤ b ∧ (∀ g, vw.ownBlock = some g → w.heap.size ≤ g) ∧ (∀ c, ch = some c → w.heap.size ≤ c) ∧ ch.isSome = some'

set_option maxHeartbeats 1000000 in
theorem unread_calls (w : World) (r : Nat) : Calls Tryz.prog 55 #[.int .i64 r] w fun e w' => NewSt w false ⟨[], 0, r⟩ false e w' := by
  go_enter Tryz.func55, Tryz.ntmps55
  go_wp2
  go_ret
  refine ⟨w.heap.size, .slice none 0 0, none, rfl, ⟨heap_alloc_new _ _, ⟨rfl, Or.inl ⟨rfl, rfl⟩⟩, Nat.le_refl _, by simp, fun c hc => (by cases hc), fun c hc => (by cases hc)⟩, (Below.refl _ _).alloc (Nat.le_refl _) _, Nat.le_refl _, fun g hg => (by cases hg), fun c hc => (by cases hc), rfl⟩

set_option maxHeartbeats 1000000 in
theorem withRoom_calls (w : World) (r : Nat) (hr : r ≤ 1000) : Calls Tryz.prog 54 #[.int .i64 r] w fun e w' => NewSt w false ⟨[], 0, r⟩ true e w' := by
  obtain ⟨i0, hi, hi8⟩ := Tryz.infoInt
  have hmk := fun (wx : World) => run_makeChan (P := Tryz.prog) (w := wx) (t := 109) Tryz.underlying109 hi .i64 r (by omega) (by rw [hi8]; omega)
  go_enter Tryz.func54, Tryz.ntmps54
  go_wp2
  go_ret
  have hb1 : Below w.heap.size w (w.alloc (.chan r #[] false 0 0 false)) := (Below.refl _ _).alloc (Nat.le_refl _) _
  refine ⟨w.heap.size + 1, .slice none 0 0, some w.heap.size, rfl, ⟨?_, ⟨rfl, Or.inl ⟨rfl, rfl⟩⟩, Nat.le_refl _, by simp, fun c hc => ?_, fun c hc => rfl⟩, hb1.alloc hb1.size _, Nat.le_succ _, fun g hg => (by cases hg), fun c hc => (by cases hc; exact Nat.le_refl _), rfl⟩
  · have := heap_alloc_new (w.alloc (.chan r #[] false 0 0 false)) (.cells #[.bool false, .slice none 0 0, .int .i64 0, .chan (some w.heap.size), .int .i64 0] 111)
    simpa using this
  · cases hc
    refine ⟨⟨0, 0, ?_⟩, by simp, hr⟩
    rw [Below.heap_alloc _ _ _ (by simp)]
    exact heap_alloc_new _ _

set_option maxHeartbeats 1000000 in
theorem fromSource_calls {w : World} {v : Value} {l : List Int} (hv : IntsAt w v l) (hl : l.length ≤ 1048576) (r : Nat) : Calls Tryz.prog 56 #[v] w fun e w' => NewSt w true ⟨l, 0, r⟩ false e w' := by
  obtain ⟨i0, hi, hz0, hz1, hz2⟩ := info_parts Tryz.info3
  obtain ⟨a, cap, rfl, -, -, -⟩ := hv.openD
  have HN : Hid (0 < l.length → ∃ ad : Addr, a = some ad ∧ ∀ j u, (intRow l)[j]? = some u → w.cell? (ad.add j) = some u) := fun h0 => by
    obtain ⟨ad, hg, -, hx⟩ := ints_cells hv h0
    exact ⟨ad, hg, fun j u hj => hx w (Below.refl _ _) j u hj⟩
  have HL : Hid ((intRow l).length = l.length * 1) := by rw [intRow_length]; simp [Hid]
  have h1 := intRow_one l
  have h63 : l.length ≤ maxLen := by unfold maxLen; omega
  have hby : l.length * 8 ≤ 140737488355328 := by omega
  have HF : Hid (∀ (a' : Option Addr) (c' : Nat) (w1 : World), w1.ownsRow w.heap.size 3 1 (.slice a' l.length c') l.length (intRow l) → Below w.heap.size w w1 → NewSt w true ⟨l, 0, r⟩ false (.returned (.pointer (some ⟨w1.heap.size, 0, none⟩))) (w1.alloc (.cells #[.bool true, .slice a' l.length c', .int .i64 0, .chan none, .int .i64 0] 111))) := fun a' c' w1 ho hb => by
    refine ⟨w1.heap.size, .slice a' l.length c', none, rfl, ⟨heap_alloc_new _ _, ?_, Nat.zero_le _, by dsimp only; omega, fun c hc => (by cases hc), fun c hc => (by cases hc)⟩, hb.alloc hb.size _, hb.size, fun g hg => ?_, fun c hc => (by cases hc), rfl⟩
    · have ho0 : w1.ownsRow 0 3 1 (.slice a' l.length c') l.length (intRow l) := by
        rcases ho with ⟨q1, q2 | ⟨g, cap, cur, q2, q3, q4⟩⟩
        · exact ⟨q1, Or.inl q2⟩
        · exact ⟨q1, Or.inr ⟨g, cap, cur, q2, Nat.zero_le _, q4⟩⟩
      exact ho0.alloc _
    · rcases ho with ⟨q1, q2 | ⟨g', cap, cur, q2, q3, q4⟩⟩
      · rw [q2.1] at hg; cases hg
      · rw [q2] at hg; cases hg; exact q3
  clear hv
  generalize l.length = n at *
  generalize intRow l = ws at *
  go_enter Tryz.func56, Tryz.ntmps56
  go_wp2_with (at_builtin; refine wpList_append_fresh rfl _ (.tmp 3) 22 rfl 3 i0 (.int .i64 0) 1 8 Tryz.underlying22 hi hz0 hz1 hz2 rfl (by decide) a n cap ws rfl rfl HL.out HN.out h1 h63 hby ?_)
  intro a' c' w1 hown hb
  have HR := hide (HF.out _ _ _ hown hb)
  clear hown hb
  go_wp2
  go_ret
  exact HR.out

end Go.Proofs.YthfdgdfnflilfaaGreatDoor
/- What makes workers: workers.New, newWorkers. -/
namespace Go.Proofs.YthfdgdfnflilfaaGreatDoor
open Go.RowKit Go.Conc

theorem Tryz.infoIns : (Tryz.prog.info? 44).map (fun i => (i.zero, i.size, i.bytes)) = some (some (.agg #[.int .i64 0, .int .i64 0, .int .i64 0, .int .i64 0]), 4, 32) := by kernel_rfl

theorem codeRow_one (l : List Ins) : ∀ u ∈ codeRow l, u.oneCell' = true := by
  intro u hu
  simp only [codeRow, List.mem_flatMap] at hu
  obtain ⟨x, -, hx⟩ := hu
  simp only [List.mem_cons, List.not_mem_nil, or_false] at hx
  rcases hx with rfl | rfl | rfl | rfl <;> rfl

theorem code_cells {w : World} {a : Option Addr} {l : List Ins} {n cap : Nat} (h : CodeAt w (.slice a n cap) l) (h0 : 0 < l.length) : ∃ ad : Addr, a = some ad ∧ ad.spot = none ∧ ∀ j u, (codeRow l)[j]? = some u → w.cell? (ad.add j) = some u := by
  obtain ⟨a', cap', hv, hn, hcap, hc⟩ := h
  cases hv
  rcases hc with hz | ⟨b, off, ha, hc⟩
  · omega
  · refine ⟨⟨b, off, none⟩, ha, rfl, fun j u hj => ?_⟩
    have hjl : j < l.length * 4 := by
      have := (List.getElem?_eq_some_iff.1 hj).1
      rw [codeRow_length] at this; exact this
    have hd : j / 4 < l.length := by omega
    have e := codeRow_get l (j / 4) hd (j % 4) (by omega)
    have ej : j / 4 * 4 + j % 4 = j := by omega
    rw [ej, hj] at e
    have := hc (j / 4) hd (j % 4) (by omega)
    rw [addr_add]
    rw [Nat.add_assoc, ej] at this
    rw [this, e]; dsimp only; rw [getD_eq _ _ _ hd]

/-- A worker that is new. -/
def NewWk (w : World) (code : List Ins) (e : Ending) (w' : World) : Prop :=
  ∃ b vc, e = .returned (.pointer (some ⟨b, 0, none⟩)) ∧ WkAt w' b vc code ⟨0, fun _ => 0, 0⟩ ∧ Below w.heap.size w w' ∧ w.heap.size ≤ b ∧ (∀ g, vc.ownBlock = some g → w.heap.size ≤ g)

set_option maxHeartbeats 1000000 in
theorem wnew_calls {w : World} {v : Value} {code : List Ins} (hv : CodeAt w v code) (hl : code.length ≤ 20) : Calls Tryz.prog 57 #[v] w fun e w' => NewWk w code e w' := by
  obtain ⟨i0, hi, hz0, hz1, hz2⟩ := info_parts Tryz.infoIns
  obtain ⟨a, cap, rfl⟩ := hv.form
  have HN : Hid (0 < code.length → ∃ ad : Addr, a = some ad ∧ ∀ j u, (codeRow code)[j]? = some u → w.cell? (ad.add j) = some u) := fun h0 => by
    obtain ⟨ad, hg, -, hx⟩ := code_cells hv h0
    exact ⟨ad, hg, hx⟩
  have HL : Hid ((codeRow code).length = code.length * 4) := codeRow_length code
  have h1 := codeRow_one code
  have h63 : code.length ≤ maxLen := by unfold maxLen; omega
  have hby : code.length * 32 ≤ 140737488355328 := by omega
  have HF : Hid (∀ (a' : Option Addr) (c' : Nat) (w1 : World), w1.ownsRow w.heap.size 44 4 (.slice a' code.length c') code.length (codeRow code) → Below w.heap.size w w1 → NewWk w code (.returned (.pointer (some ⟨w1.heap.size, 0, none⟩))) (w1.alloc (.cells #[.slice a' code.length c', .int .i64 0, .int .i64 0, .int .i64 0, .int .i64 0, .int .i64 0, .int .i64 0] 139))) := fun a' c' w1 ho hb => by
    refine ⟨w1.heap.size, .slice a' code.length c', rfl, ⟨heap_alloc_new _ _, ?_, Nat.zero_le _, hl⟩, hb.alloc hb.size _, hb.size, fun g hg => ?_⟩
    · have ho0 : w1.ownsRow 0 44 4 (.slice a' code.length c') code.length (codeRow code) := by
        rcases ho with ⟨q1, q2 | ⟨g, cap, cur, q2, q3, q4⟩⟩
        · exact ⟨q1, Or.inl q2⟩
        · exact ⟨q1, Or.inr ⟨g, cap, cur, q2, Nat.zero_le _, q4⟩⟩
      exact ho0.alloc _
    · rcases ho with ⟨q1, q2 | ⟨g', cap, cur, q2, q3, q4⟩⟩
      · rw [q2.1] at hg; cases hg
      · rw [q2] at hg; cases hg; exact q3
  clear hv hl
  generalize code.length = n at *
  generalize codeRow code = ws at *
  go_enter Tryz.func57, Tryz.ntmps57
  go_wp2_with (at_builtin; refine wpList_append_fresh rfl _ (.tmp 3) 45 rfl 44 i0 (.agg #[.int .i64 0, .int .i64 0, .int .i64 0, .int .i64 0]) 4 32 Tryz.underlying45 hi hz0 hz1 hz2 rfl (by decide) a n cap ws rfl rfl HL.out HN.out h1 h63 hby ?_)
  intro a' c' w1 hown hb
  have HR := hide (HF.out _ _ _ hown hb)
  clear hown hb
  go_wp2
  go_ret
  exact HR.out

end Go.Proofs.YthfdgdfnflilfaaGreatDoor
/- Nets that are lent: what lies in memory. -/
namespace Go.Proofs.YthfdgdfnflilfaaGreatDoor
open Go.RowKit Go.Conc

/-- A list that is lent, whole: with the place behind it. -/
def ownV (g len : Nat) : Value := .slice (some ⟨g, 0, none⟩) (len + 1) (len + 1)

/-- Numbers that are lent: their block, and how they are handed in. -/
structure Lentd (w : World) (g : Nat) (u : Value) (l : List Int) : Prop where
  blk : w.heap[g]? = some (.cells (intRow (l ++ [78])).toArray 3 (0, 0))
  val : u = .slice (some ⟨g, 0, none⟩) l.length (l.length + 1) ∨ l = [] ∧ u = .slice none 0 0

theorem Lentd.frame {w w' : World} {g : Nat} {u : Value} {l : List Int} (h : Lentd w g u l) (hk : w'.heap[g]? = w.heap[g]?) : Lentd w' g u l := ⟨hk.trans h.blk, h.val⟩

theorem Lentd.ints {w : World} {g : Nat} {u : Value} {l : List Int} (h : Lentd w g u l) (hl : l.length ≤ 1048576) : IntsAt w u l := by
  rcases h.val with hu | ⟨rfl, rfl⟩
  · refine ⟨_, _, hu, by omega, by omega, ?_⟩
    rcases Nat.eq_zero_or_pos l.length with h0 | h0
    · exact Or.inl h0
    · refine Or.inr ⟨g, 0, rfl, fun i hi j hj => ?_⟩
      have : j = 0 := by omega
      subst this
      refine row_cell h.blk ?_
      dsimp only
      rw [getD_eq _ _ _ hi]
      simp only [Nat.zero_add, Nat.mul_one, Nat.add_zero, intRow, List.map_append]
      rw [List.getElem?_append_left (by simpa using hi)]
      simp [hi]
  · exact ⟨none, 0, rfl, by simp, by simp, Or.inl rfl⟩

theorem lent_ints {l : List Int} {v : Value} {w : World} (hv : IntsAt w v l) (hl : l.length ≤ 1048576) :
    Calls Tryz.prog 22 #[v] w fun e w' => ∃ ia ic, e = .returned (.tuple #[ownV w.heap.size l.length, .slice ia l.length ic]) ∧ Lentd w' w.heap.size (.slice ia l.length ic) l ∧ Below w.heap.size w w' := by
  refine (lentInts_calls hv hl).mono fun e w' ⟨h1, h2, h3⟩ => ?_
  rcases h1 with h1 | ⟨rfl, h1⟩
  · exact ⟨_, _, h1, ⟨h2, Or.inl rfl⟩, h3⟩
  · exact ⟨none, 0, h1, ⟨h2, Or.inr ⟨rfl, rfl⟩⟩, h3⟩

/-- The block of lent sources, i of which are there. -/
structure SrcRow (w : World) (g : Nat) (ss : List Src) (IA : Nat → Option Addr) (IC : Nat → Nat) (i : Nat) : Prop where
  ex : ∃ cs : List Value, w.heap[g]? = some (.cells cs.toArray 42 (0, 0)) ∧ cs.length = (ss.length + 1) * 2 ∧
    (∀ t, t < i → cs[t * 2]? = some (.int .i64 (ss.getD t ⟨0, []⟩).stream) ∧ cs[t * 2 + 1]? = some (.slice (IA t) (ss.getD t ⟨0, []⟩).words.length (IC t))) ∧
    (∀ t, i ≤ t → t < ss.length → ∃ x : Int, cs[t * 2]? = some (.int .i64 x) ∧ cs[t * 2 + 1]? = some (.slice none 0 0)) ∧ cs[ss.length * 2]? = some (.int .i64 79) ∧ cs[ss.length * 2 + 1]? = some (.slice none 0 0)

theorem SrcRow.frame {w w' : World} {g : Nat} {ss : List Src} {IA : Nat → Option Addr} {IC : Nat → Nat} {i : Nat} (h : SrcRow w g ss IA IC i) (hk : w'.heap[g]? = w.heap[g]?) : SrcRow w' g ss IA IC i := by
  obtain ⟨cs, h1, h2⟩ := h.ex
  exact ⟨cs, hk.trans h1, h2⟩

theorem SrcRow.next {w : World} {g : Nat} {ss : List Src} {IA : Nat → Option Addr} {IC : Nat → Nat} {i : Nat} (h : SrcRow w g ss IA IC i) (hi : i < ss.length) (ia : Option Addr) (ic : Nat) :
    SrcRow ((w.setCell ⟨g, i * 2, none⟩ (.int .i64 (ss.getD i ⟨0, []⟩).stream)).setCell ⟨g, i * 2 + 1, none⟩ (.slice ia (ss.getD i ⟨0, []⟩).words.length ic)) g ss (fun t => if t = i then ia else IA t) (fun t => if t = i then ic else IC t) (i + 1) := by
  obtain ⟨cs, h1, h2, h3, h4, h5, h6⟩ := h.ex
  refine ⟨_, blk_set (blk_set h1 _ _) _ _, by simp [h2], fun t ht => ?_, fun t ht1 ht2 => ?_, ?_, ?_⟩
  · by_cases e : t = i
    · subst e
      simp only [if_true]
      refine ⟨?_, ?_⟩
      · rw [List.getElem?_set_ne (by omega), List.getElem?_set_self (by rw [h2]; omega)]
      · rw [List.getElem?_set_self (by simp; rw [h2]; omega)]
    · simp only [e, if_false]
      rw [List.getElem?_set_ne (by omega), List.getElem?_set_ne (by omega), List.getElem?_set_ne (by omega), List.getElem?_set_ne (by omega)]
      exact h3 t (by omega)
  · rw [List.getElem?_set_ne (by omega), List.getElem?_set_ne (by omega), List.getElem?_set_ne (by omega), List.getElem?_set_ne (by omega)]
    exact h4 t (by omega) ht2
  · rw [List.getElem?_set_ne (by omega), List.getElem?_set_ne (by omega)]; exact h5
  · rw [List.getElem?_set_ne (by omega), List.getElem?_set_ne (by omega)]; exact h6

/-- The block of lent workers, i of which are there. -/
structure WkRow (w : World) (g : Nat) (ws : List (List Ins)) (C : Nat → Nat) (i : Nat) : Prop where
  ex : ∃ cs : List Value, w.heap[g]? = some (.cells cs.toArray 45 (0, 0)) ∧ cs.length = ws.length + 1 ∧
    (∀ t, t < i → cs[t]? = some (.slice (some ⟨C t, 0, none⟩) (ws.getD t []).length ((ws.getD t []).length + 1))) ∧ (∀ t, i ≤ t → t ≤ ws.length → cs[t]? = some (.slice none 0 0))

theorem WkRow.frame {w w' : World} {g : Nat} {ws : List (List Ins)} {C : Nat → Nat} {i : Nat} (h : WkRow w g ws C i) (hk : w'.heap[g]? = w.heap[g]?) : WkRow w' g ws C i := by
  obtain ⟨cs, h1, h2⟩ := h.ex
  exact ⟨cs, hk.trans h1, h2⟩

theorem WkRow.next {w : World} {g : Nat} {ws : List (List Ins)} {C : Nat → Nat} {i : Nat} (h : WkRow w g ws C i) (hi : i < ws.length) (c : Nat) :
    WkRow (w.setCell ⟨g, i, none⟩ (.slice (some ⟨c, 0, none⟩) (ws.getD i []).length ((ws.getD i []).length + 1))) g ws (fun t => if t = i then c else C t) (i + 1) := by
  obtain ⟨cs, h1, h2, h3, h4⟩ := h.ex
  refine ⟨_, blk_set h1 _ _, by simp [h2], fun t ht => ?_, fun t ht1 ht2 => ?_⟩
  · by_cases e : t = i
    · subst e
      simp only [if_true]
      rw [List.getElem?_set_self (by omega)]
    · simp only [e, if_false]
      rw [List.getElem?_set_ne (by omega)]
      exact h3 t (by omega)
  · rw [List.getElem?_set_ne (by omega)]
    exact h4 t (by omega) ht2

/-- Where a loan lies. -/
structure LoanL where
  q : Nat
  gs : Nat
  gr : Nat
  gw : Nat
  rooms : Value
  G : Nat → Nat
  IA : Nat → Option Addr
  IC : Nat → Nat
  vW : Value
  C : Nat → Nat
  vC : Value

def wordsOf (n : Net) (t : Nat) : List Int := (n.sources.getD t ⟨0, []⟩).words

/-- The row of the words' lists, and the lists. -/
structure WordsAt (B : Nat) (w : World) (n : Net) (gs : Nat) (G : Nat → Nat) (IA : Nat → Option Addr) (IC : Nat → Nat) (vW : Value) (i : Nat) : Prop where
  row : w.ownsRow B 22 1 vW i ((List.range i).map fun t => ownV (G t) (wordsOf n t).length)
  words : ∀ t, t < i → Lentd w (G t) (.slice (IA t) (wordsOf n t).length (IC t)) (wordsOf n t)
  inj : ∀ s t, s < t → t < i → G s ≠ G t
  ne : ∀ t, t < i → gs ≠ G t
  ge : ∀ t, t < i → B ≤ G t

theorem WordsAt.frame {B : Nat} {w w' : World} {n : Net} {gs : Nat} {G : Nat → Nat} {IA : Nat → Option Addr} {IC : Nat → Nat} {vW : Value} {i : Nat} (h : WordsAt B w n gs G IA IC vW i) (hr : ∀ g, vW.ownBlock = some g → w'.heap[g]? = w.heap[g]?) (hw : ∀ t, t < i → w'.heap[G t]? = w.heap[G t]?) : WordsAt B w' n gs G IA IC vW i :=
  ⟨own_of_blockB h.row hr, fun t ht => (h.words t ht).frame (hw t ht), h.inj, h.ne, h.ge⟩

theorem map_range_snoc {α : Type} (f g : Nat → α) (i : Nat) (x : α) (h : ∀ t, t < i → g t = f t) (hx : g i = x) : (List.range (i + 1)).map g = (List.range i).map f ++ [x] := by
  rw [List.range_succ, List.map_append]
  congr 1
  · exact List.map_congr_left fun t ht => h t (List.mem_range.1 ht)
  · simp [hx]

/-- The row of the programs' lists, and the lists. -/
structure CodesAt (B : Nat) (w : World) (ws : List (List Ins)) (C : Nat → Nat) (vC : Value) (i : Nat) : Prop where
  row : w.ownsRow B 45 1 vC i ((List.range i).map fun t => ownV (C t) (ws.getD t []).length)
  codes : ∀ t, t < i → w.heap[C t]? = some (.cells (codeRow (ws.getD t [] ++ [⟨80, 0, 0, 0⟩])).toArray 44 (0, 0))
  inj : ∀ s t, s < t → t < i → C s ≠ C t
  ge : ∀ t, t < i → B ≤ C t

theorem CodesAt.frame {B : Nat} {w w' : World} {ws : List (List Ins)} {C : Nat → Nat} {vC : Value} {i : Nat} (h : CodesAt B w ws C vC i) (hr : ∀ g, vC.ownBlock = some g → w'.heap[g]? = w.heap[g]?) (hw : ∀ t, t < i → w'.heap[C t]? = w.heap[C t]?) : CodesAt B w' ws C vC i :=
  ⟨own_of_blockB h.row hr, fun t ht => (hw t ht).trans (h.codes t ht), h.inj, h.ge⟩

end Go.Proofs.YthfdgdfnflilfaaGreatDoor

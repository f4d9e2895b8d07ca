/- Part 8: Race1, Race2, Workers7, Race3. -/
import Derived.Test.YthfdgdfnflilfaaPart7
/- A race in memory, and what a net that is one gives. -/
namespace Go.Proofs.Ythfdgdfnflilfaa
open Go.RowKit Go.Conc

/-! ### Nets that are nets -/
theorem valid_code {N : Net} (h : validB N = true) {k : Nat} (hk : k < N.workers.length) : validCodeB (codeOf N k) N.streams.length = true := by
  simp only [validB, validWorkersB, Bool.and_eq_true] at h
  have := List.all_eq_true.1 h.1.2.2 (codeOf N k) (by unfold codeOf; rw [getD_eq _ _ _ hk]; exact List.getElem_mem hk)
  exact this
theorem valid_ins {N : Net} (h : validB N = true) {k : Nat} (hk : k < N.workers.length) {i : Ins} (hi : i ∈ codeOf N k) : opsValid i (codeOf N k).length N.streams.length = true := by
  have h1 := valid_code h hk
  simp only [validCodeB, Bool.and_eq_true] at h1
  exact List.all_eq_true.1 h1.2 i hi
theorem valid_len {N : Net} (h : validB N = true) {k : Nat} (hk : k < N.workers.length) : 1 ≤ (codeOf N k).length ∧ (codeOf N k).length ≤ 20 := by
  have h1 := valid_code h hk
  simp only [validCodeB, Bool.and_eq_true, decide_eq_true_eq] at h1
  exact ⟨h1.1.1, h1.1.2⟩
theorem valid_ends {N : Net} (h : validB N = true) {s : Nat} (hs : s < N.streams.length) : usersN N.workers 2 s + (if hasSourceB N.sources s then 1 else 0) ≤ 1 ∧ usersN N.workers 1 s ≤ 1 := by
  simp only [validB, validEndsB, Bool.and_eq_true] at h
  have := List.all_eq_true.1 h.2 s (List.mem_range.2 hs)
  simpa using this
theorem valid_counts {N : Net} (h : validB N = true) : 1 ≤ N.streams.length ∧ N.streams.length ≤ 8 ∧ 1 ≤ N.workers.length ∧ N.workers.length ≤ 6 := by
  simp only [validB, validStreamsB, validWorkersB, Bool.and_eq_true, decide_eq_true_eq] at h
  exact ⟨h.1.1.1.1.1, h.1.1.1.1.2, h.1.2.1.1, h.1.2.1.2⟩

theorem codeOf_out {N : Net} {k : Nat} (h : ¬ k < N.workers.length) : codeOf N k = [] := by
  simp only [codeOf, List.getD]; rw [List.getElem?_eq_none (by omega)]; rfl

/-- Two workers that use a stream are two. -/
theorem two_users (l : List (List Ins)) (op s : Int) : ∀ (j k : Nat) (hj : j < l.length) (hk : k < l.length), j < k → usesB l[j] op s = true → usesB l[k] op s = true → 2 ≤ usersN l op s := by
  induction l with
  | nil => intro j k hj; simp at hj
  | cons c l ih =>
    intro j k hj hk hjk h1 h2
    cases k with
    | zero => omega
    | succ k =>
      have hk' : k < l.length := by simpa using hk
      have h2' : usesB l[k] op s = true := by simpa using h2
      cases j with
      | zero =>
        have h1' : usesB c op s = true := by simpa using h1
        have : 0 < usersN l op s := List.countP_pos_iff.2 ⟨l[k], List.getElem_mem hk', h2'⟩
        simp only [usersN, List.countP_cons, h1', if_true] at this ⊢
        omega
      | succ j =>
        have := ih j k (by simpa using hj) hk' (by omega) (by simpa using h1) h2'
        simp only [usersN, List.countP_cons] at this ⊢
        omega

theorem user_unique {N : Net} {op : Int} {s : Nat} (hu : usersN N.workers op s ≤ 1) {k k' : Nat} (h1 : usesB (codeOf N k) op s = true) (h2 : usesB (codeOf N k') op s = true) : k = k' := by
  have hk : k < N.workers.length := by
    rcases Nat.lt_or_ge k N.workers.length with h | h
    · exact h
    · rw [codeOf_out (by omega)] at h1; cases h1
  have hk' : k' < N.workers.length := by
    rcases Nat.lt_or_ge k' N.workers.length with h | h
    · exact h
    · rw [codeOf_out (by omega)] at h2; cases h2
  unfold codeOf at h1 h2
  rw [getD_eq _ _ _ hk] at h1
  rw [getD_eq _ _ _ hk'] at h2
  rcases Nat.lt_trichotomy k k' with h | h | h
  · have := two_users N.workers op s k k' hk hk' h h1 h2; omega
  · exact h
  · have := two_users N.workers op s k' k hk' hk h h2 h1; omega

theorem uses_pos {N : Net} {op : Int} {s : Nat} {k : Nat} (h1 : usesB (codeOf N k) op s = true) : 0 < usersN N.workers op s := by
  have hk : k < N.workers.length := by
    rcases Nat.lt_or_ge k N.workers.length with h | h
    · exact h
    · rw [codeOf_out (by omega)] at h1; cases h1
  unfold codeOf at h1
  rw [getD_eq _ _ _ hk] at h1
  exact List.countP_pos_iff.2 ⟨N.workers[k], List.getElem_mem hk, h1⟩

theorem stream_of_uses {N : Net} (h : validB N = true) {k : Nat} {op : Int} (ho : op = 1 ∨ op = 2) {s : Nat} (h1 : usesB (codeOf N k) op s = true) : s < N.streams.length := by
  have hk : k < N.workers.length := by
    rcases Nat.lt_or_ge k N.workers.length with h | h
    · exact h
    · rw [codeOf_out (by omega)] at h1; cases h1
  obtain ⟨i, hi, hp⟩ := List.any_eq_true.1 h1
  simp only [Bool.and_eq_true, beq_iff_eq] at hp
  have := valid_stream (valid_ins h hk hi) (by rw [hp.1]; exact ho)
  rw [hp.2] at this
  omega

theorem uses_nat {N : Net} (h : validB N = true) {k : Nat} {op : Int} (ho : op = 1 ∨ op = 2) {s : Int} (h1 : usesB (codeOf N k) op s = true) : ∃ s' : Nat, s = s' := by
  have hk : k < N.workers.length := by
    rcases Nat.lt_or_ge k N.workers.length with h | h
    · exact h
    · rw [codeOf_out (by omega)] at h1; cases h1
  obtain ⟨i, hi, hp⟩ := List.any_eq_true.1 h1
  simp only [Bool.and_eq_true, beq_iff_eq] at hp
  have := valid_stream (valid_ins h hk hi) (by rw [hp.1]; exact ho)
  rw [hp.2] at this
  exact Int.eq_ofNat_of_zero_le this.1

theorem valid_ok {N : Net} (h : validB N = true) : Ok N := by
  refine ⟨fun k hk i hi => ?_, fun s k k' h1 h2 => ?_, fun s k k' h1 h2 => ?_, fun s k hq => ?_⟩
  · have hv := valid_ins h hk hi
    exact ⟨(valid_op hv).1, (valid_op hv).2, fun ho => valid_stream hv ho⟩
  · obtain ⟨s', rfl⟩ := uses_nat h (Or.inr rfl) h1
    have hs := stream_of_uses h (Or.inr rfl) h1
    exact user_unique (by have := (valid_ends h hs).1; omega) h1 h2
  · obtain ⟨s', rfl⟩ := uses_nat h (Or.inl rfl) h1
    have hs := stream_of_uses h (Or.inl rfl) h1
    exact user_unique (valid_ends h hs).2 h1 h2
  · cases hu : usesB (codeOf N k) 2 s
    · rfl
    · have hs := stream_of_uses h (Or.inr rfl) hu
      have h1 := (valid_ends h hs).1
      have h2 := uses_pos hu
      have hq' : hasSourceB N.sources s = true := hq
      rw [hq'] at h1
      simp at h1
      omega

/-! ### A race in memory -/
structure Lay where
  p : Nat
  vS : Value
  vW : Value
  st : Nat → Nat
  VW : Nat → Value
  CH : Nat → Option Nat
  wb : Nat → Nat
  VC : Nat → Value

structure RaceAt (L : Lay) (w : World) (N : Net) (R : Rc) : Prop where
  blk : w.heap[L.p]? = some (.cells #[L.vS, L.vW] 79 (0, 0))
  env : Env w L.vS N.streams.length L.st L.VW L.CH (srcd N) R.s
  rowW : ∃ g cap, L.vW = .slice (some ⟨g, 0, none⟩) N.workers.length cap ∧ ∃ cs : List Value, w.heap[g]? = some (.cells cs.toArray 81 (0, 0)) ∧ ∀ i, i < N.workers.length → cs[i]? = some (.pointer (some ⟨L.wb i, 0, none⟩))
  wk : ∀ k, k < N.workers.length → WkAt w (L.wb k) (L.VC k) (codeOf N k) (R.w k)
  ch : ∀ s, s < N.streams.length → srcd N s = false → ((L.CH s).isSome = true ↔ used N s = true)
  injS : ∀ s t, s < N.streams.length → t < N.streams.length → s ≠ t → L.st s ≠ L.st t ∧ (∀ g, (L.VW s).ownBlock = some g → (L.VW t).ownBlock ≠ some g) ∧ (∀ c, L.CH s = some c → L.CH t ≠ some c)
  injW : ∀ j k, j < N.workers.length → k < N.workers.length → j ≠ k → L.wb j ≠ L.wb k
  lenW : R.W.length = N.workers.length
  lenS : R.S.length = N.streams.length
  ok : validB N = true

/-- The blocks of a race. -/
def Foot (L : Lay) (N : Net) (k : Nat) : Prop :=
  k = L.p ∨ L.vS.ownBlock = some k ∨ L.vW.ownBlock = some k ∨ (∃ s, s < N.streams.length ∧ (k = L.st s ∨ (L.VW s).ownBlock = some k ∨ L.CH s = some k)) ∨ (∃ j, j < N.workers.length ∧ (k = L.wb j ∨ (L.VC j).ownBlock = some k))

theorem RaceAt.codeOk {L : Lay} {w : World} {N : Net} {R : Rc} (h : RaceAt L w N R) {k : Nat} (hk : k < N.workers.length) : CodeOk (codeOf N k) N.streams.length L.CH (srcd N) := by
  refine ⟨fun i hi => valid_ins h.ok hk hi, fun i hi ho => ?_, fun i hi ho => ?_⟩
  · have hv := valid_stream (valid_ins h.ok hk hi) (Or.inl ho)
    have hs : i.b.toNat < N.streams.length := by omega
    cases hq : srcd N i.b.toNat
    · refine Or.inr fun hn => ?_
      have hu : used N i.b.toNat = true := by
        have : usesB (codeOf N k) 1 (i.b.toNat : Nat) = true := List.any_eq_true.2 ⟨i, hi, by simp [ho]; omega⟩
        simp only [used, decide_eq_true_eq]; exact uses_pos this
      have := (h.ch _ hs hq).2 hu
      rw [hn] at this; cases this
    · exact Or.inl rfl
  · have hv := valid_stream (valid_ins h.ok hk hi) (Or.inr ho)
    have hu : usesB (codeOf N k) 2 (i.b.toNat : Nat) = true := List.any_eq_true.2 ⟨i, hi, by simp [ho]; omega⟩
    cases hq : srcd N i.b.toNat
    · rfl
    · rw [(valid_ok h.ok).src _ k hq] at hu; cases hu

/-- What a worker would say is what the model says. -/
theorem RaceAt.state {L : Lay} {w : World} {N : Net} {R : Rc} (h : RaceAt L w N R) {k : Nat} (hk : k < N.workers.length) : stateL (codeOf N k) (R.w k) L.CH (srcd N) R.s = stateOf N R k := by
  simp only [stateL, stateOf, insAt]
  cases hi : (codeOf N k)[(R.w k).place]? with
  | none => rfl
  | some i =>
    dsimp only
    have hm : i ∈ codeOf N k := List.mem_of_getElem? hi
    by_cases ho : i.op = 2
    · have hq := (h.codeOk hk).wr i hm ho
      have hv := valid_stream (valid_ins h.ok hk hm) (Or.inr ho)
      have e := h.ch i.b.toNat (by omega) hq
      by_cases hu : used N i.b.toNat = true
      · simp only [e.2 hu, hu]
      · have : ¬ (L.CH i.b.toNat).isSome = true := fun hc => hu (e.1 hc)
        simp only [this, hu]
    · simp only [ho, false_and]

theorem RaceAt.cells {L : Lay} {w : World} {N : Net} {R : Rc} (h : RaceAt L w N R) : w.cell? ⟨L.p, 0, none⟩ = some L.vS ∧ w.cell? ⟨L.p, 1, none⟩ = some L.vW := ⟨row_cell h.blk rfl, row_cell h.blk rfl⟩

end Go.Proofs.Ythfdgdfnflilfaa
/- A race in memory: what stays behind a step of one worker. -/
namespace Go.Proofs.Ythfdgdfnflilfaa
open Go.RowKit Go.Conc

theorem RaceAt.below {L : Lay} {w w' : World} {N : Net} {R : Rc} (h : RaceAt L w N R) (hb : Below w.heap.size w w') : RaceAt L w' N R := by
  obtain ⟨g, cap, hv, cs, hg, hcs⟩ := h.rowW
  exact ⟨by rw [hb.block _ (lt_of_blk h.blk)]; exact h.blk, h.env.below hb, ⟨g, cap, hv, cs, by rw [hb.block _ (lt_of_blk hg)]; exact hg, hcs⟩, fun k hk => (h.wk k hk).below hb, h.ch, h.injS, h.injW, h.lenW, h.lenS, h.ok⟩

/-- A chan is no cells. -/
theorem chan_ne_cells {w : World} {a b : Nat} {c : Array Value} {s : TypeId} {f : Nat × Nat} {cap : Nat} {buf : Array Value} {cl tm : Bool} {x y : Nat} (hb : w.heap[b]? = some (.chan cap buf cl x y tm)) (ha : w.heap[a]? = some (.cells c s f)) : b ≠ a := fun e => ne_of_chan ha hb e.symm

theorem RaceAt.upd {L : Lay} {w w' : World} {N : Net} {R : Rc} (h : RaceAt L w N R) {k s : Nat} (hk : k < N.workers.length) (hs : s < N.streams.length) {vw' : Value} {y : Wk} {m' : Sm}
    (hw' : WkAt w' (L.wb k) (L.VC k) (codeOf N k) y) (hst : StAt w' (L.st s) vw' (L.CH s) (srcd N s) m')
    (hvw : ∀ g, vw'.ownBlock = some g → (L.VW s).ownBlock = some g ∨ w.heap.size ≤ g)
    (hf : Fr (fun x => x = L.wb k ∨ x = L.st s ∨ (L.VW s).ownBlock = some x ∨ L.CH s = some x) w w') :
    RaceAt { L with VW := fun t => if t = s then vw' else L.VW t } w' N ⟨R.W.set k y, R.S.set s m'⟩ := by
  have hwb := (h.wk k hk).blk
  have hsA := h.env.at' s hs
  have hsb := hsA.blk
  have kept : ∀ z, z < w.heap.size → z ≠ L.wb k → z ≠ L.st s → (∀ g, (L.VW s).ownBlock = some g → z ≠ g) → (∀ c, L.CH s = some c → z ≠ c) → w'.heap[z]? = w.heap[z]? := fun z hz e1 e2 e3 e4 =>
    hf.block z hz (fun hh => hh.elim e1 (fun hh => hh.elim e2 (fun hh => hh.elim (fun hh => e3 z hh rfl) (fun hh => e4 z hh rfl))))
  -- a block of cells of another make
  have keptC : ∀ (z : Nat) (c : Array Value) (t : TypeId) (f : Nat × Nat), w.heap[z]? = some (.cells c t f) → t ≠ 113 → t ≠ 117 → t ≠ 3 → w'.heap[z]? = w.heap[z]? := fun z c t f hz e1 e2 e3 =>
    kept z (lt_of_blk hz) (ne_of_types hz hwb e1) (ne_of_types hz hsb e2)
      (fun g hg => by obtain ⟨cur, hc⟩ := own_block hsA.own hg; exact ne_of_types hz hc e3)
      (fun c' hc' => by obtain ⟨⟨a, r, h1⟩, _⟩ := hsA.chan c' hc'; exact ne_of_chan hz h1)
  obtain ⟨⟨ga, gcap, hva, csa, hga, hcsa⟩, hsm⟩ := h.env.along
  obtain ⟨gw, wcap, hvw', csw, hgw, hcsw⟩ := h.rowW
  -- another stream
  have other : ∀ t, t < N.streams.length → t ≠ s → StAt w' (L.st t) (L.VW t) (L.CH t) (srcd N t) (R.s t) := fun t ht hne => by
    have hT := h.env.at' t ht
    obtain ⟨i1, i2, i3⟩ := h.injS t s ht hs hne
    refine hT.stays fun z hz => ?_
    rcases hz with rfl | hz | hz
    · exact kept _ (lt_of_blk hT.blk) (ne_of_types hT.blk hwb (by decide)) i1
        (fun g hg => by obtain ⟨cur, hc⟩ := own_block hsA.own hg; exact ne_of_types hT.blk hc (by decide))
        (fun c hc => by obtain ⟨⟨a, r, h1⟩, _⟩ := hsA.chan c hc; exact ne_of_chan hT.blk h1)
    · obtain ⟨cur, hcur⟩ := own_block hT.own hz
      exact kept _ (lt_of_blk hcur) (ne_of_types hcur hwb (by decide)) (ne_of_types hcur hsb (by decide))
        (fun g hg e => by subst e; exact i2 z hz hg)
        (fun c hc => by obtain ⟨⟨a, r, h1⟩, _⟩ := hsA.chan c hc; exact ne_of_chan hcur h1)
    · obtain ⟨⟨a, r, h1⟩, _⟩ := hT.chan z hz
      exact kept _ (lt_of_blk h1) (chan_ne_cells h1 hwb) (chan_ne_cells h1 hsb)
        (fun g hg => by obtain ⟨cur, hc⟩ := own_block hsA.own hg; exact chan_ne_cells h1 hc)
        (fun c hc e => by subst e; exact i3 z hz hc)
  have hls : s < R.S.length := by rw [h.lenS]; exact hs
  have hlk : k < R.W.length := by rw [h.lenW]; exact hk
  refine ⟨?_, ⟨⟨⟨ga, gcap, hva, csa, ?_, hcsa⟩, hsm⟩, fun t ht => ?_⟩, ⟨gw, wcap, hvw', csw, ?_, hcsw⟩, fun j hj => ?_, h.ch, fun t u ht hu hne => ?_, h.injW, by simp [h.lenW], by simp [h.lenS], h.ok⟩
  · rw [keptC _ _ _ _ h.blk (by decide) (by decide) (by decide)]; exact h.blk
  · rw [keptC _ _ _ _ hga (by decide) (by decide) (by decide)]; exact hga
  · dsimp only
    by_cases e : t = s
    · subst e
      rw [if_pos rfl]
      have : (⟨R.W.set k y, R.S.set t m'⟩ : Rc).s t = m' := getD_set_self _ _ _ _ hls
      rw [this]; exact hst
    · rw [if_neg e]
      have : (⟨R.W.set k y, R.S.set s m'⟩ : Rc).s t = R.s t := getD_set_ne _ _ _ _ _ (fun e' => e e'.symm)
      rw [this]; exact other t ht e
  · rw [keptC _ _ _ _ hgw (by decide) (by decide) (by decide)]; exact hgw
  · by_cases e : j = k
    · subst e
      have : (⟨R.W.set j y, R.S.set s m'⟩ : Rc).w j = y := getD_set_self _ _ _ _ hlk
      rw [this]; exact hw'
    · have : (⟨R.W.set k y, R.S.set s m'⟩ : Rc).w j = R.w j := getD_set_ne _ _ _ _ _ (fun e' => e e'.symm)
      rw [this]
      have hJ := h.wk j hj
      refine hJ.stays fun z hz => ?_
      rcases hz with rfl | hz
      · exact kept _ (lt_of_blk hJ.blk) (h.injW j k hj hk e) (ne_of_types hJ.blk hsb (by decide))
          (fun g hg => by obtain ⟨cur, hc⟩ := own_block hsA.own hg; exact ne_of_types hJ.blk hc (by decide))
          (fun c hc => by obtain ⟨⟨a, r, h1⟩, _⟩ := hsA.chan c hc; exact ne_of_chan hJ.blk h1)
      · obtain ⟨cur, hcur⟩ := own_block hJ.own hz
        exact keptC _ _ _ _ hcur (by decide) (by decide) (by decide)
  · obtain ⟨i1, i2, i3⟩ := h.injS t u ht hu hne
    refine ⟨i1, fun g hg hg' => ?_, i3⟩
    dsimp only at hg hg'
    by_cases e : t = s
    · subst e
      rw [if_pos rfl] at hg
      rw [if_neg (fun e' => hne e'.symm)] at hg'
      rcases hvw g hg with h1 | h1
      · exact i2 g h1 hg'
      · obtain ⟨cur, hc⟩ := own_block (h.env.at' u hu).own hg'
        have := lt_of_blk hc; omega
    · rw [if_neg e] at hg
      by_cases e2 : u = s
      · subst e2
        rw [if_pos rfl] at hg'
        rcases hvw g hg' with h1 | h1
        · exact i2 g hg h1
        · obtain ⟨cur, hc⟩ := own_block (h.env.at' t ht).own hg
          have := lt_of_blk hc; omega
      · rw [if_neg e2] at hg'
        exact i2 g hg hg'

/-- A step of one worker that turns no stream. -/
theorem RaceAt.alone {L : Lay} {w w' : World} {N : Net} {R : Rc} (h : RaceAt L w N R) {k : Nat} (hk : k < N.workers.length) {y : Wk}
    (hw' : WkAt w' (L.wb k) (L.VC k) (codeOf N k) y) (hf : Fr (fun x => x = L.wb k) w w') : RaceAt L w' N ⟨R.W.set k y, R.S⟩ := by
  have hs : 0 < N.streams.length := (valid_counts h.ok).1
  have hwb := (h.wk k hk).blk
  have hS := h.env.at' 0 hs
  have hst : StAt w' (L.st 0) (L.VW 0) (L.CH 0) (srcd N 0) (R.s 0) := hS.stays fun z hz => by
    refine hf.block z ?_ ?_
    · rcases hz with rfl | hz | hz
      · exact lt_of_blk hS.blk
      · obtain ⟨cur, hc⟩ := own_block hS.own hz; exact lt_of_blk hc
      · obtain ⟨⟨a, r, h1⟩, _⟩ := hS.chan z hz; exact lt_of_blk h1
    · rcases hz with rfl | hz | hz
      · exact ne_of_types hS.blk hwb (by decide)
      · obtain ⟨cur, hc⟩ := own_block hS.own hz; exact ne_of_types hc hwb (by decide)
      · obtain ⟨⟨a, r, h1⟩, _⟩ := hS.chan z hz; exact chan_ne_cells h1 hwb
  have := h.upd hk hs hw' hst (fun g hg => Or.inl hg) (hf.mono fun x _ hx => Or.inl hx)
  have e1 : (fun t => if t = 0 then L.VW 0 else L.VW t) = L.VW := by funext t; split <;> simp_all
  have e2 : R.S.set 0 (R.s 0) = R.S := by
    have hl : 0 < R.S.length := by rw [h.lenS]; exact hs
    have : R.s 0 = R.S[0] := getD_eq _ _ _ hl
    rw [this]; exact List.set_getElem_self hl
  rw [e1, e2] at this
  exact this

end Go.Proofs.Ythfdgdfnflilfaa
/- Package workers: Step: READ. (Made by mkw7.py.) -/
namespace Go.Proofs.Ythfdgdfnflilfaa
open Go.RowKit Go.Conc

theorem take_calls {w : World} {b : Nat} {vw : Value} {ch : Option Nat} {sourced : Bool} {m : Sm} (h : StAt w b vw ch sourced m) (hr : sourced = true ∨ ch ≠ none) :
    Calls Try.prog 52 #[.pointer (some ⟨b, 0, none⟩)] w fun e w' => Took w b vw ch sourced m e w' := by
  cases ch with
  | none =>
    cases sourced
    · simp at hr
    · exact take_src h
  | some c =>
    have := h.nosrc c rfl
    subst this
    exact take_chan h

/-- What comes of an instruction that reads. -/
def StepRead (w : World) (b : Nat) (vc : Value) (code : List Ins) (x : Wk) (i : Ins) (st : Nat → Nat) (VW : Nat → Value) (CH : Nat → Option Nat) (SRC : Nat → Bool) (M : Nat → Sm) (e : Ending) (w' : World) : Prop :=
  (e = .returned (.int .i64 2) ∧ SRC i.b.toNat = false ∧ (M i.b.toNat).read = (M i.b.toNat).words.length ∧ Below w.heap.size w w') ∨
  (e = .returned (.int .i64 1) ∧ ¬ (SRC i.b.toNat = false ∧ (M i.b.toNat).read = (M i.b.toNat).words.length) ∧ WkAt w' b vc code (nextW x i (M i.b.toNat).words[(M i.b.toNat).read]?) ∧
    StAt w' (st i.b.toNat) (VW i.b.toNat) (CH i.b.toNat) (SRC i.b.toNat) { M i.b.toNat with read := if (M i.b.toNat).read < (M i.b.toNat).words.length then (M i.b.toNat).read + 1 else (M i.b.toNat).read } ∧
    Fr (fun k => k = b ∨ k = st i.b.toNat ∨ CH i.b.toNat = some k) w w')

set_option maxRecDepth 100000 in
set_option maxHeartbeats 2000000 in
theorem wstep_read {w : World} {b : Nat} {vc va : Value} {code : List Ins} {x : Wk} {n : Nat} {st : Nat → Nat} (hw : WkAt w b vc code x) {VW : Nat → Value} {CH : Nat → Option Nat} {SRC : Nat → Bool} {M : Nat → Sm} (he : Env w va n st VW CH SRC M) (i : Ins) (hi : code[x.place]? = some i) (hok : opsValid i code.length n = true) (ho : i.op = 1) (hrd : SRC i.b.toNat = true ∨ CH i.b.toNat ≠ none) :
    Calls Try.prog 28 #[.pointer (some ⟨b, 0, none⟩), va] w fun e w' => StepRead w b vc code x i st VW CH SRC M e w' := by
  obtain ⟨c0, c1, -, -, -, -, -, -⟩ := hw.cells
  obtain ⟨a, cap, hvc, hcap, hcode⟩ := code_form hw.own
  have hle := hw.le
  have hsm := hw.small
  have hlt : x.place < code.length := (List.getElem?_eq_some_iff.1 hi).1
  have hie : code[x.place] = i := (List.getElem?_eq_some_iff.1 hi).2
  obtain ⟨g, ha', d0, d1, d2, d3⟩ := hcode x.place hlt
  rw [hie] at d0 d1 d2 d3
  have HE := hide he
  obtain ⟨ga, gcap, rfl, hgl, hal⟩ := along_at he.along
  have HAL := hide hal
  clear hal
  have HOK := hide hok
  obtain ⟨op, ia, ib, ic⟩ := i
  dsimp only at *
  have hrg := valid_reg hok (by dsimp only; omega)
  have hstm := valid_stream hok (by dsimp only; omega)
  dsimp only at hrg hstm
  subst ho
  obtain ⟨hr0, hr1⟩ := hrg
  obtain ⟨ka, rfl⟩ := Int.eq_ofNat_of_zero_le hr0
  obtain ⟨hb0, hb1⟩ := hstm
  obtain ⟨kb, rfl⟩ := Int.eq_ofNat_of_zero_le hb0
  have hka : ka < 4 := by omega
  have hkb : kb < n := by omega
  
  simp only [Int.toNat_natCast] at hrd
  have HW := hide hw
  have hd0 : decide ((code.length : Int) ≤ (x.place : Int)) = false := by simp; omega
  have hp0 : (0 : Int) ≤ (x.place : Int) := by omega
  have hp1 : (x.place : Int) < (code.length : Int) := by omega
  rw [hvc, ha'] at c0
  have wrp : IntKind.i64.wrap ((x.place : Int) + 1) = (x.place : Int) + 1 := by rw [IntKind.wrap_i64]; omega
  have HLT := hide hlt
  clear hcode hok hi hie hle hw he
  go_enter Try.func28, Try.ntmps28
  go_wp2
  refine wp_scope_ahead 3 ?_
  generalize hJ : jumpQ Try.prog _ _ 3 = J
  have HJ := hide hJ
  clear hJ
  go_wp2
  go_quiet (fail)
  go_wp2
  obtain ⟨w1, hw1⟩ : ∃ w1, w1 = w.drewN nq := ⟨_, rfl⟩
  rw [← hw1]
  have hcell : ∀ p, w1.cell? p = w.cell? p := fun p => by rw [hw1]; rfl
  rw [← hcell] at c0 c1 d0 d1 d2 d3
  clear hcell
  have hbl : Below w.heap.size w w1 := by rw [hw1]; exact below_drewN (Below.refl _ _) _
  clear hw1
  have n0 := World.new_ne w1 _ c0
  have n2 := World.new_ne w1 _ d0
  go_region_held3 (fun w' => w'.cell? ⟨b, 0, none⟩ = some (.slice (some ⟨g, 0, none⟩) code.length cap) ∧ w'.cell? ⟨b, 1, none⟩ = some (.int .i64 x.place) ∧ w'.cell? ⟨g, x.place * 4, none⟩ = some (.int .i64 1) ∧ w'.cell? ⟨g, x.place * 4 + 1, none⟩ = some (.int .i64 ka) ∧ w'.cell? ⟨g, x.place * 4 + 2, none⟩ = some (.int .i64 kb) ∧ w'.cell? ⟨g, x.place * 4 + 3, none⟩ = some (.int .i64 ic)) (go_keep) (fail)
  clear wrp
  have hbl2 : Below w.heap.size w (w1.alloc (.cells #[.int .i64 1, .int .i64 ka, .int .i64 kb, .int .i64 ic] 56)).drew := (hbl.alloc hbl.size _).drew
  have a0 : (w1.alloc (.cells #[.int .i64 1, .int .i64 ka, .int .i64 kb, .int .i64 ic] 56)).drew.cell? ⟨w1.heap.size, 0, none⟩ = some (.int .i64 1) := by simp [go_sem]
  have a1 : (w1.alloc (.cells #[.int .i64 1, .int .i64 ka, .int .i64 kb, .int .i64 ic] 56)).drew.cell? ⟨w1.heap.size, 1, none⟩ = some (.int .i64 ka) := by simp [go_sem]
  have a2 : (w1.alloc (.cells #[.int .i64 1, .int .i64 ka, .int .i64 kb, .int .i64 ic] 56)).drew.cell? ⟨w1.heap.size, 2, none⟩ = some (.int .i64 kb) := by simp [go_sem]
  have a3 : (w1.alloc (.cells #[.int .i64 1, .int .i64 ka, .int .i64 kb, .int .i64 ic] 56)).drew.cell? ⟨w1.heap.size, 3, none⟩ = some (.int .i64 ic) := by simp [go_sem]
  have HNE : Hid (b ≠ w1.heap.size) := fun e => n0 e.symm
  have HAB : Hid ((w1.alloc (.cells #[.int .i64 1, .int .i64 ka, .int .i64 kb, .int .i64 ic] 56)).drew.heap[w1.heap.size]? = some (.cells #[.int .i64 1, .int .i64 ka, .int .i64 kb, .int .i64 ic] 56 (0, 0))) := heap_alloc_new _ _
  have HS12 : Hid (w1.heap.size < (w1.alloc (.cells #[.int .i64 1, .int .i64 ka, .int .i64 kb, .int .i64 ic] 56)).drew.heap.size) := by unfold Hid; simp
  generalize (w1.alloc (.cells #[.int .i64 1, .int .i64 ka, .int .i64 kb, .int .i64 ic] 56)).drew = w2 at *
  clear c0 c1 d0 d1 d2 d3 n0 n2
  have hw2 := HW.out.below hbl2
  obtain ⟨c0, c1, c2, c3, c4, c5, c6, cf⟩ := hw2.cells
  have f1 := cf 1
  have f6 := cf 6
  have HCF := hide cf
  have HF2 : Hid (Fr (fun k => k = b) w w2) := Fr.of_below hbl2
  have HW2 := hide hw2
  clear cf hw2
  go_wp2
  refine wp_goto ?_
  show J (.goto 0) _ _
  rw [← HJ.out]
  refine ⟨_, rfl, ?_⟩
  clear HJ
  generalize hJ1 : jumpQ Try.prog _ _ 2 = J1
  have HJ1 := hide hJ1
  clear hJ1
  have da := HAL.out w2 hbl2 kb hkb
  have HT := hide (((unhide HE).at' kb hkb).below hbl2)
  go_wp2_with fail
  refine (take_calls HT.out hrd).mono ?_
  have hsb := HT.out.blk
  have hst2 : st kb < w2.heap.size := lt_of_blk hsb
  have nb1 : b ≠ st kb := ne_of_types HW2.out.blk hsb (by decide)
  have nb2 : ∀ c, CH kb = some c → b ≠ c := fun c hc => by
    obtain ⟨⟨s, r, h1⟩, _⟩ := HT.out.chan c hc
    exact ne_of_chan HW2.out.blk h1
  have na1 : w1.heap.size ≠ st kb := ne_of_types HAB.out hsb (by decide)
  have na2 : ∀ c, CH kb = some c → w1.heap.size ≠ c := fun c hc => by
    obtain ⟨⟨s, r, h1⟩, _⟩ := HT.out.chan c hc
    exact ne_of_chan HAB.out h1
  have no1 : ∀ y, vc.ownBlock = some y → y ≠ st kb := fun y hy => by
    obtain ⟨cur, h1⟩ := own_block HW2.out.own hy
    exact ne_of_types h1 hsb (by decide)
  have no2 : ∀ y, vc.ownBlock = some y → ∀ c, CH kb = some c → y ≠ c := fun y hy c hc => by
    obtain ⟨cur, h1⟩ := own_block HW2.out.own hy
    obtain ⟨⟨s, r, h2⟩, _⟩ := HT.out.chan c hc
    exact ne_of_chan h1 h2
  have HNB := hide (And.intro nb1 nb2)
  have HNA := hide (And.intro na1 na2)
  have HNO := hide (And.intro no1 no2)
  clear nb1 nb2 na1 na2 no1 no2 hst2 hsb
  rintro e w3 (⟨rfl, hlt3, hst3, hfr3, hsz3⟩ | ⟨rfl, h0, heq, q, rfl⟩ | ⟨rfl, h1, heq, q, rfl⟩)
  · have hw3 : WkAt w3 b vc code x := HW2.out.stays fun y hy => by
      rcases hy with rfl | hy
      · exact hfr3.block _ (lt_of_blk HW2.out.blk) (fun h => h.elim HNB.out.1 (fun h2 => HNB.out.2 _ h2 rfl))
      · obtain ⟨cur, h1⟩ := own_block HW2.out.own hy
        exact hfr3.block _ (lt_of_blk h1) (fun h => h.elim (HNO.out.1 y hy) (fun h2 => HNO.out.2 y hy _ h2 rfl))
    have hab3 : w3.heap[w1.heap.size]? = some (.cells #[.int .i64 1, .int .i64 ka, .int .i64 kb, .int .i64 ic] 56 (0, 0)) := by
      rw [hfr3.block _ (lt_of_blk HAB.out) (fun h => h.elim HNA.out.1 (fun h2 => HNA.out.2 _ h2 rfl))]; exact HAB.out
    have z1 : w3.cell? ⟨w1.heap.size, 1, none⟩ = some (.int .i64 ka) := row_cell hab3 rfl
    have cr := hw3.regCell ka hka
    have fr := row_frozen hw3.blk (2 + ka)
    have HST3 := hide hst3
    have HFR3 : Hid (Fr (fun k => k = b ∨ k = st kb ∨ CH kb = some k) w w3) := (Fr.of_below hbl2).trans hfr3 (fun y _ h => Or.inr h)
    have HW3 := hide hw3
    have HLT3 := hide hlt3
    have HSTB : Hid (st kb ≠ b) := fun e => HNB.out.1 e.symm
    have nb : b ≠ w1.heap.size := HNE.out
    have hk0 : (0 : Int) ≤ (ka : Int) := by omega
    have hk1 : (ka : Int) < 4 := by omega
    obtain ⟨v, hv⟩ : ∃ v, v = (M kb).words.getD (M kb).read 0 := ⟨_, rfl⟩
    rw [← hv]
    have HNX : Hid (nextW x ⟨1, ka, kb, ic⟩ (M kb).words[(M kb).read]? = ⟨x.place + 1, upd x.r ka v, wrap64 (x.steps + 1)⟩) := by
      unfold Hid; rw [List.getElem?_eq_getElem hlt3, hv, getD_eq _ _ _ hlt3]; simp [nextW]
    clear hv hst3 hfr3 hw3 hlt3 hab3 c0 c1 c2 c3 c4 c5 c6 f1 f6 a0 a1 a2 a3 da hsz3
    go_wp2
    go_region_held3 (fun w' => w'.cell? ⟨w1.heap.size, 1, none⟩ = some (.int .i64 ka)) (go_keep) (fail)
    have HW4 : Hid (WkAt (w3.setCell ⟨b, 2 + ka, none⟩ (.int .i64 v)).drew b vc code ⟨x.place, upd x.r ka v, x.steps⟩) := (HW3.out.reg ka hka v).below ((Below.refl _ _).drew)
    have HFR4 : Hid (Fr (fun k => k = b ∨ k = st kb ∨ CH kb = some k) w (w3.setCell ⟨b, 2 + ka, none⟩ (.int .i64 v)).drew) := (Fr.setCell (S := fun k => k = b ∨ k = st kb ∨ CH kb = some k) HFR3.out (p := ⟨b, 2 + ka, none⟩) (Or.inr (Or.inl rfl)) _).drewN 1
    have HST4 : Hid (∀ y, y ≠ b → (w3.setCell ⟨b, 2 + ka, none⟩ (.int .i64 v)).drew.heap[y]? = w3.heap[y]?) := fun y hy => Below.heap_setCell _ _ _ _ hy
    clear cr fr z1
    generalize (w3.setCell ⟨b, 2 + ka, none⟩ (.int .i64 v)).drew = w4 at *
    obtain ⟨c0, c1, c2, c3, c4, c5, c6, cf⟩ := HW4.out.cells
    have f1 := cf 1
    have f6 := cf 6
    clear cf
    go_wp2
    refine wp_goto ?_
    show J1 (.goto 6) _ _
    rw [← HJ1.out]
    refine ⟨_, rfl, ?_⟩
    clear HJ1
    generalize hJ2 : jumpQ Try.prog _ _ 1 = J2
    have HJ2 := hide hJ2
    clear hJ2
    go_wp2
    rw [← HJ2.out]
    refine jumpQ_ret ?_
    go_ret
    obtain ⟨q1, q2, q3⟩ := alone_end (w := w4) (y := nextW x ⟨1, ka, kb, ic⟩ (M kb).words[(M kb).read]?) (Fr.refl _ _) HW4.out ((x.place : Int) + 1) (by rw [HNX.out]; simp) (by rw [HNX.out]; have := HLT.out; dsimp only; omega) (by rw [HNX.out]) (by rw [HNX.out])
    have hne : ∀ c, CH kb = some c → c ≠ b := fun c hc e => HNB.out.2 c hc e.symm
    have hall : ∀ y, y ≠ b → ((w4.setCell ⟨b, 1, none⟩ (.int .i64 ((x.place : Int) + 1))).setCell ⟨b, 6, none⟩ (.int .i64 (wrap64 (x.steps + 1)))).heap[y]? = w3.heap[y]? := fun y hy => by
      rw [Below.heap_setCell _ _ _ _ hy, Below.heap_setCell _ _ _ _ hy]; exact HST4.out y hy
    refine Or.inr ⟨rfl, fun h => ?_, q2, ?_, ?_⟩
    · have h2 := h.2; have := HLT3.out; simp only [Int.toNat_natCast] at h2; omega
    · simp only [Int.toNat_natCast]
      rw [if_pos HLT3.out]
      refine HST3.out.stays fun y hy => hall y ?_
      rcases hy with rfl | hy | hy
      · exact HSTB.out
      · obtain ⟨cur, h1⟩ := own_block HST3.out.own hy
        exact ne_of_types h1 HW3.out.blk (by decide)
      · exact hne y hy
    · simp only [Int.toNat_natCast]
      exact Fr.setCell (S := fun k => k = b ∨ k = st kb ∨ CH kb = some k) (Fr.setCell (S := fun k => k = b ∨ k = st kb ∨ CH kb = some k) HFR4.out (p := ⟨b, 1, none⟩) (Or.inr (Or.inl rfl)) _) (p := ⟨b, 6, none⟩) (Or.inr (Or.inl rfl)) _
  · have HE0 := hide (And.intro h0 heq)
    clear h0 heq
    go_wp2
    rw [← HJ1.out]
    refine jumpQ_ret ?_
    go_ret
    refine Or.inl ⟨rfl, ?_, ?_, below_drewN hbl2 q⟩
    · simpa using HE0.out.1
    · simpa using HE0.out.2
  · have HE0 := hide (And.intro h1 heq)
    have HNX : Hid (nextW x ⟨1, ka, kb, ic⟩ (M kb).words[(M kb).read]? = ⟨ic.toNat, x.r, wrap64 (x.steps + 1)⟩) := by
      unfold Hid; rw [List.getElem?_eq_none (by omega)]; simp [nextW]
    clear h1 heq
    have hpl := valid_place HOK.out (Or.inl rfl)
    dsimp only at hpl
    go_wp2
    refine wp_goto ?_
    show J1 (.goto 4) _ _
    rw [← HJ1.out]
    refine ⟨_, rfl, ?_⟩
    clear HJ1
    generalize hJ2 : jumpQ Try.prog _ _ 1 = J2
    have HJ2 := hide hJ2
    clear hJ2
    go_wp2
    go_step3
    go_wp2
    rw [← HJ2.out]
    refine jumpQ_ret ?_
    go_ret
    have HW5 := HW2.out.below (below_drewN (Below.refl w2.heap.size w2) q)
    have R := alone_end (w := w2.drewN q) (y := nextW x ⟨1, ka, kb, ic⟩ (M kb).words[(M kb).read]?) (Fr.refl _ _) HW5 ic (by rw [HNX.out]; dsimp only; omega) (by rw [HNX.out]; dsimp only; omega) (by rw [HNX.out]) (by rw [HNX.out])
    obtain ⟨q1, q2, q3⟩ := R
    refine Or.inr ⟨rfl, fun h => ?_, q2, ?_, ?_⟩
    · have h2 := h.1; have := HE0.out.1; simp only [Int.toNat_natCast] at h2; rw [this] at h2; cases h2
    · simp only [Int.toNat_natCast]
      rw [if_neg (by have := HE0.out.2; omega)]
      refine (HT.out.below (below_drewN (Below.refl w2.heap.size w2) q)).stays fun y hy => ?_
      have hyb : y ≠ b := by
        rcases hy with rfl | hy | hy
        · exact fun e => HNB.out.1 e.symm
        · obtain ⟨cur, h1⟩ := own_block HT.out.own hy
          exact ne_of_types h1 HW2.out.blk (by decide)
        · exact fun e => HNB.out.2 y hy e.symm
      rw [Below.heap_setCell _ _ _ _ hyb, Below.heap_setCell _ _ _ _ hyb]
    · simp only [Int.toNat_natCast]
      exact Fr.setCell (S := fun k => k = b ∨ k = st kb ∨ CH kb = some k) (Fr.setCell (S := fun k => k = b ∨ k = st kb ∨ CH kb = some k) ((Fr.of_below hbl2).drewN q) (p := ⟨b, 1, none⟩) (Or.inr (Or.inl rfl)) _) (p := ⟨b, 6, none⟩) (Or.inr (Or.inl rfl)) _

end Go.Proofs.Ythfdgdfnflilfaa
/- A step of a worker, of a whole race. -/
namespace Go.Proofs.Ythfdgdfnflilfaa
open Go.RowKit Go.Conc

set_option maxRecDepth 100000 in
set_option maxHeartbeats 1000000 in
theorem wstep_done {w : World} {b : Nat} {vc va : Value} {code : List Ins} {x : Wk} {n : Nat} {st : Nat → Nat} (hw : WkAt w b vc code x) (ha : Along w va st n) (hi : code[x.place]? = none) :
    Calls Try.prog 28 #[.pointer (some ⟨b, 0, none⟩), va] w fun e w' => e = .returned (.int .i64 4) ∧ Below w.heap.size w w' := by
  obtain ⟨c0, c1, -, -, -, -, -, -⟩ := hw.cells
  obtain ⟨a, cap, hvc, hcap, hcode⟩ := code_form hw.own
  have hle := hw.le
  have hsm := hw.small
  have hge : code.length ≤ x.place := by
    rcases Nat.lt_or_ge x.place code.length with h | h
    · rw [List.getElem?_eq_getElem h] at hi; cases hi
    · exact h
  obtain ⟨ga, gcap, rfl, -, -⟩ := along_at ha
  have hd0 : decide ((code.length : Int) ≤ (x.place : Int)) = true := by simp; omega
  rw [hvc] at c0
  clear hcode hi hw ha hvc
  go_enter Try.func28, Try.ntmps28
  go_wp2
  refine wp_scope_ahead 0 ?_
  generalize hJ : jumpQ Try.prog _ _ 0 = J
  have HJ := hide hJ
  clear hJ
  go_wp2
  go_quiet (fail)
  go_wp2
  rw [← HJ.out]
  refine jumpQ_ret ?_
  go_ret
  exact ⟨rfl, below_drewN (Below.refl _ _) _⟩

/-- The race's blocks are the old ones, and new ones. -/
def Grew (L : Lay) (N : Net) (w : World) (L' : Lay) : Prop := (L'.p = L.p ∧ L'.vS = L.vS ∧ L'.vW = L.vW ∧ L'.wb = L.wb ∧ L'.st = L.st) ∧ (∀ b, Foot L' N b → Foot L N b ∨ w.heap.size ≤ b)

theorem Grew.refl (L : Lay) (N : Net) (w : World) : Grew L N w L := ⟨⟨rfl, rfl, rfl, rfl, rfl⟩, fun _ h => Or.inl h⟩

theorem grew_vw {L : Lay} {N : Net} {w : World} {s : Nat} {vw' : Value} (hs : s < N.streams.length) (hvw : ∀ g, vw'.ownBlock = some g → (L.VW s).ownBlock = some g ∨ w.heap.size ≤ g) : Grew L N w { L with VW := fun t => if t = s then vw' else L.VW t } := by
  refine ⟨⟨rfl, rfl, rfl, rfl, rfl⟩, fun b h => ?_⟩
  rcases h with h | h | h | ⟨t, ht, h⟩ | h
  · exact Or.inl (Or.inl h)
  · exact Or.inl (Or.inr (Or.inl h))
  · exact Or.inl (Or.inr (Or.inr (Or.inl h)))
  · rcases h with h | h | h
    · exact Or.inl (Or.inr (Or.inr (Or.inr (Or.inl ⟨t, ht, Or.inl h⟩))))
    · dsimp only at h
      by_cases e : t = s
      · subst e
        rw [if_pos rfl] at h
        rcases hvw b h with h1 | h1
        · exact Or.inl (Or.inr (Or.inr (Or.inr (Or.inl ⟨t, ht, Or.inr (Or.inl h1)⟩))))
        · exact Or.inr h1
      · rw [if_neg e] at h
        exact Or.inl (Or.inr (Or.inr (Or.inr (Or.inl ⟨t, ht, Or.inr (Or.inl h)⟩))))
    · exact Or.inl (Or.inr (Or.inr (Or.inr (Or.inl ⟨t, ht, Or.inr (Or.inr h)⟩))))
  · exact Or.inl (Or.inr (Or.inr (Or.inr (Or.inr h))))

/-- What comes of a step of worker k. -/
def Steps1 (L : Lay) (w : World) (N : Net) (R : Rc) (k : Nat) (w' : World) : Prop :=
  (stateOf N R k ≠ 1 ∧ Below w.heap.size w w') ∨ (stateOf N R k = 1 ∧ ∃ L', RaceAt L' w' N (doStep N R k) ∧ Grew L N w L' ∧ Fr (Foot L N) w w')

theorem state_of_ins {N : Net} {R : Rc} {k : Nat} {i : Ins} (hi : insAt N k (R.w k) = some i) (h1 : i.op ≠ 1) (h2 : i.op ≠ 2) : stateOf N R k = 1 := by
  simp only [stateOf, hi]
  rw [if_neg (fun e => h1 e.1), if_neg (fun e => h2 e.1)]

theorem wstep_race {L : Lay} {w : World} {N : Net} {R : Rc} (h : RaceAt L w N R) {k : Nat} (hk : k < N.workers.length) (hsm : ∀ s, s < N.streams.length → (R.s s).words.length < 4398046511104) :
    Calls Try.prog 28 #[.pointer (some ⟨L.wb k, 0, none⟩), L.vS] w fun e w' => e = .returned (.int .i64 (stateOf N R k)) ∧ Steps1 L w N R k w' := by
  have hw := h.wk k hk
  have hfk : ∀ x, x = L.wb k → Foot L N x := fun x hx => Or.inr (Or.inr (Or.inr (Or.inr ⟨k, hk, Or.inl hx⟩)))
  cases hi : insAt N k (R.w k) with
  | none =>
    refine (wstep_done hw h.env.along hi).mono fun e w' hh => ?_
    have : stateOf N R k = 4 := by simp [stateOf, hi]
    exact ⟨by rw [hh.1, this]; rfl, Or.inl ⟨by omega, hh.2⟩⟩
  | some i =>
    have hm : i ∈ codeOf N k := List.mem_of_getElem? hi
    have hv := valid_ins h.ok hk hm
    have hop := valid_op hv
    have hds := doStep_some hi
    -- the instructions that turn the worker alone
    have al : i.op ≠ 1 → i.op ≠ 2 → ∀ e w', Alone w (L.wb k) (L.VC k) (codeOf N k) (nextW (R.w k) i none) e w' → e = .returned (.int .i64 (stateOf N R k)) ∧ Steps1 L w N R k w' := by
      intro o1 o2 e w' hh
      have hs1 := state_of_ins hi o1 o2
      refine ⟨by rw [hh.1, hs1]; rfl, Or.inr ⟨hs1, L, ?_, Grew.refl _ _ _, hh.2.2.mono fun x _ hx => hfk x hx⟩⟩
      rw [hds, nextW_congr _ _ _ none o1]
      have e2 : nextS R (R.w k) i = R.S := by simp [nextS, o1, o2]
      rw [e2]
      exact h.alone hk hh.2.1 hh.2.2
    by_cases o1 : i.op = 1
    · have hb := valid_stream hv (Or.inl o1)
      have hs : i.b.toNat < N.streams.length := by omega
      refine (wstep_read hw h.env i hi hv o1 ((h.codeOk hk).rd i hm o1)).mono fun e w' hh => ?_
      rcases hh with ⟨h1, h2, h3, h4⟩ | ⟨h1, h2, h3, h4, h5⟩
      · have : stateOf N R k = 2 := by simp only [stateOf, hi]; rw [if_pos ⟨o1, h2, h3⟩]
        exact ⟨by rw [h1, this]; rfl, Or.inl ⟨by omega, h4⟩⟩
      · have hs1 : stateOf N R k = 1 := by
          simp only [stateOf, hi]; rw [if_neg (fun e => h2 e.2), if_neg (fun e => by omega)]
        refine ⟨by rw [h1, hs1]; rfl, Or.inr ⟨hs1, _, ?_, grew_vw hs (fun g hg => Or.inl hg), ?_⟩⟩
        · rw [hds]
          have e2 : nextS R (R.w k) i = R.S.set i.b.toNat { R.s i.b.toNat with read := if (R.s i.b.toNat).read < (R.s i.b.toNat).words.length then (R.s i.b.toNat).read + 1 else (R.s i.b.toNat).read } := by simp [nextS, o1]
          rw [e2]
          refine h.upd hk hs h3 h4 (fun g hg => Or.inl hg) (h5.mono fun x _ hx => ?_)
          rcases hx with hx | hx | hx
          · exact Or.inl hx
          · exact Or.inr (Or.inl hx)
          · exact Or.inr (Or.inr (Or.inr hx))
        · refine h5.mono fun x _ hx => ?_
          rcases hx with hx | hx | hx
          · exact hfk x hx
          · exact Or.inr (Or.inr (Or.inr (Or.inl ⟨_, hs, Or.inl hx⟩)))
          · exact Or.inr (Or.inr (Or.inr (Or.inl ⟨_, hs, Or.inr (Or.inr hx)⟩)))
    by_cases o2 : i.op = 2
    · have hb := valid_stream hv (Or.inr o2)
      have hs : i.b.toNat < N.streams.length := by omega
      have hq := (h.codeOk hk).wr i hm o2
      have hue := h.ch _ hs hq
      have fin : ∀ e w', StepWrite w (L.wb k) (L.VC k) (codeOf N k) (R.w k) i L.st L.VW L.CH R.s e w' → e = .returned (.int .i64 (stateOf N R k)) ∧ Steps1 L w N R k w' := by
        intro e w' hh
        rcases hh with ⟨h1, h2, h3, h4⟩ | ⟨h1, h2, h3, vw', h4, h5, h6⟩
        · have hu : used N i.b.toNat = true := hue.1 (by cases hc : L.CH i.b.toNat with | none => exact absurd hc h2 | some c => rfl)
          have : stateOf N R k = 3 := by simp only [stateOf, hi]; rw [if_neg (fun e => by omega), if_pos ⟨o2, hu, h3⟩]
          exact ⟨by rw [h1, this]; rfl, Or.inl ⟨by omega, h4⟩⟩
        · have hs1 : stateOf N R k = 1 := by
            simp only [stateOf, hi]
            rw [if_neg (fun e => by omega), if_neg]
            rintro ⟨_, e1, e2⟩
            refine h2 ⟨fun hc => ?_, e2⟩
            have := hue.2 e1
            rw [hc] at this; cases this
          refine ⟨by rw [h1, hs1]; rfl, Or.inr ⟨hs1, _, ?_, grew_vw hs h4, ?_⟩⟩
          · rw [hds, nextW_congr _ _ _ none o1]
            have e2 : nextS R (R.w k) i = R.S.set i.b.toNat { R.s i.b.toNat with words := (R.s i.b.toNat).words ++ [(R.w k).r i.a.toNat] } := by simp [nextS, o2]
            rw [e2]
            rw [← hq] at h5
            exact h.upd hk hs h3 h5 h4 h6
          · refine h6.mono fun x _ hx => ?_
            rcases hx with hx | hx | hx | hx
            · exact hfk x hx
            · exact Or.inr (Or.inr (Or.inr (Or.inl ⟨_, hs, Or.inl hx⟩)))
            · exact Or.inr (Or.inr (Or.inr (Or.inl ⟨_, hs, Or.inr (Or.inl hx)⟩)))
            · exact Or.inr (Or.inr (Or.inr (Or.inl ⟨_, hs, Or.inr (Or.inr hx)⟩)))
      by_cases hf : L.CH i.b.toNat ≠ none ∧ (R.s i.b.toNat).room ≤ (R.s i.b.toNat).words.length - (R.s i.b.toNat).read
      · exact (wstep_write_no hw h.env i hi hv o2 hq (hsm _ hs) hf).mono fin
      · exact (wstep_write_yes hw h.env i hi hv o2 hq (hsm _ hs) hf).mono fin
    by_cases o3 : i.op = 3
    · exact (wstep_set hw h.env.along i hi hv o3).mono (al o1 o2)
    by_cases o8 : i.op = 8
    · by_cases hz : (R.w k).r i.a.toNat = 0
      · exact (wstep_if_no hw h.env.along i hi hv o8 hz).mono (al o1 o2)
      · exact (wstep_if_yes hw h.env.along i hi hv o8 hz).mono (al o1 o2)
    by_cases o9 : i.op = 9
    · exact (wstep_goto hw h.env.along i hi hv o9).mono (al o1 o2)
    · exact (wstep_alu hw h.env.along i hi hv (by omega)).mono (al o1 o2)

end Go.Proofs.Ythfdgdfnflilfaa

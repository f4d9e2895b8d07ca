/- Part 8: Race7, Race8, Race9, Fresh, Streams6, Race10, Race11, KeepM, Make1. -/
import Derived.Deep.LoopGhost
import Derived.Deep.Upon
import Derived.Test.YthfdgdfnflilfaaDoorPart7
/- A race in memory: what stays behind a stream's Grow; the tightest stream. -/
namespace Go.Proofs.YthfdgdfnflilfaaDoor
open Go.RowKit Go.Conc

theorem RaceAt.grow {L : Lay} {w w' : World} {N : Net} {R : Rc} (h : RaceAt L w N R) {s : Nat} (hs : s < N.streams.length) {c c' : Nat} {m' : Sm}
    (hc : L.CH s = some c) (hnew : w.heap.size ≤ c') (hst : StAt w' (L.st s) (L.VW s) (some c') (srcd N s) m')
    (hf : Fr (fun x => x = L.st s ∨ x = c) w w') :
    RaceAt { L with CH := fun t => if t = s then some c' else L.CH t } w' N ⟨R.W, R.S.set s m'⟩ := by
  have hsA := h.env.at' s hs
  have hsb := hsA.blk
  obtain ⟨⟨ca, cr, hch⟩, -⟩ := hsA.chan c hc
  have kept : ∀ z, z < w.heap.size → z ≠ L.st s → z ≠ c → w'.heap[z]? = w.heap[z]? := fun z hz e1 e2 =>
    hf.block z hz (fun hh => hh.elim e1 e2)
  have keptC : ∀ (z : Nat) (c : Array Value) (t : TypeId) (f : Nat × Nat), w.heap[z]? = some (.cells c t f) → t ≠ 88 → w'.heap[z]? = w.heap[z]? := fun z c t f hz e2 =>
    kept z (lt_of_blk hz) (ne_of_types hz hsb e2) (ne_of_chan hz hch)
  obtain ⟨⟨ga, gcap, hva, csa, hga, hcsa⟩, hsm⟩ := h.env.along
  obtain ⟨gw, wcap, hvw', csw, hgw, hcsw⟩ := h.rowW
  have other : ∀ t, t < N.streams.length → t ≠ s → StAt w' (L.st t) (L.VW t) (L.CH t) (srcd N t) (R.s t) := fun t ht hne => by
    have hT := h.env.at' t ht
    obtain ⟨i1, i2, i3⟩ := h.injS t s ht hs hne
    refine hT.stays fun z hz => ?_
    rcases hz with rfl | hz | hz
    · exact kept _ (lt_of_blk hT.blk) i1 (ne_of_chan hT.blk hch)
    · obtain ⟨cur, hcur⟩ := own_block hT.own hz
      exact keptC _ _ _ _ hcur (by decide)
    · obtain ⟨⟨a, r, h1⟩, _⟩ := hT.chan z hz
      exact kept _ (lt_of_blk h1) (chan_ne_cells h1 hsb) (fun e => by subst e; exact i3 z hz hc)
  have hls : s < R.S.length := by rw [h.lenS]; exact hs
  refine ⟨?_, ⟨⟨⟨ga, gcap, hva, csa, ?_, hcsa⟩, hsm⟩, fun t ht => ?_⟩, ⟨gw, wcap, hvw', csw, ?_, hcsw⟩, fun j hj => ?_, fun t ht hq => ?_, fun t u ht hu hne => ?_, h.injW, h.lenW, by simp [h.lenS], h.ok⟩
  · rw [keptC _ _ _ _ h.blk (by decide)]; exact h.blk
  · rw [keptC _ _ _ _ hga (by decide)]; exact hga
  · dsimp only
    by_cases e : t = s
    · subst e
      rw [if_pos rfl]
      have : (⟨R.W, R.S.set t m'⟩ : Rc).s t = m' := getD_set_self _ _ _ _ hls
      rw [this]; exact hst
    · rw [if_neg e]
      have : (⟨R.W, R.S.set s m'⟩ : Rc).s t = R.s t := getD_set_ne _ _ _ _ _ (fun e' => e e'.symm)
      rw [this]; exact other t ht e
  · rw [keptC _ _ _ _ hgw (by decide)]; exact hgw
  · have : (⟨R.W, R.S.set s m'⟩ : Rc).w j = R.w j := rfl
    rw [this]
    have hJ := h.wk j hj
    refine hJ.stays fun z hz => ?_
    rcases hz with rfl | hz
    · exact keptC _ _ _ _ hJ.blk (by decide)
    · obtain ⟨cur, hcur⟩ := own_block hJ.own hz
      exact keptC _ _ _ _ hcur (by decide)
  · dsimp only
    by_cases e : t = s
    · subst e
      rw [if_pos rfl]
      have := h.ch t ht hq
      rw [hc] at this
      simpa using this
    · rw [if_neg e]; exact h.ch t ht hq
  · obtain ⟨i1, i2, i3⟩ := h.injS t u ht hu hne
    refine ⟨i1, i2, fun g hg hg' => ?_⟩
    dsimp only at hg hg'
    by_cases e : t = s
    · subst e
      rw [if_pos rfl] at hg
      rw [if_neg (fun e' => hne e'.symm)] at hg'
      cases hg
      obtain ⟨⟨a, r, h1⟩, _⟩ := (h.env.at' u hu).chan _ hg'
      have := lt_of_blk h1; omega
    · rw [if_neg e] at hg
      by_cases e2 : u = s
      · subst e2
        rw [if_pos rfl] at hg'
        cases hg'
        obtain ⟨⟨a, r, h1⟩, _⟩ := (h.env.at' t ht).chan _ hg
        have := lt_of_blk h1; omega
      · rw [if_neg e2] at hg'
        exact i3 g hg hg'

theorem grew_ch {L : Lay} {N : Net} {w : World} {s c' : Nat} (hnew : w.heap.size ≤ c') : Grew L N w { L with CH := fun t => if t = s then some c' else L.CH t } := by
  refine ⟨⟨rfl, rfl, rfl, rfl, rfl⟩, fun b h => ?_⟩
  rcases h with h | h | h | ⟨t, ht, h⟩ | h
  · exact Or.inl (Or.inl h)
  · exact Or.inl (Or.inr (Or.inl h))
  · exact Or.inl (Or.inr (Or.inr (Or.inl h)))
  · rcases h with h | h | h
    · exact Or.inl (Or.inr (Or.inr (Or.inr (Or.inl ⟨t, ht, Or.inl h⟩))))
    · exact Or.inl (Or.inr (Or.inr (Or.inr (Or.inl ⟨t, ht, Or.inr (Or.inl h)⟩))))
    · dsimp only at h
      by_cases e : t = s
      · subst e
        rw [if_pos rfl] at h
        cases h
        exact Or.inr hnew
      · rw [if_neg e] at h
        exact Or.inl (Or.inr (Or.inr (Or.inr (Or.inl ⟨t, ht, Or.inr (Or.inr h)⟩))))
  · exact Or.inl (Or.inr (Or.inr (Or.inr (Or.inr h))))

/-! ### The tightest stream -/
/-- Stream t is the tightest of those among the first n that a worker waits to write to. -/
def TightIn (N : Net) (R : Rc) (n t : Nat) : Prop :=
  t < n ∧ needsB N R t N.workers.length = true ∧ ∀ s, s < n → needsB N R s N.workers.length = true → (R.s t).room < (R.s s).room ∨ ((R.s t).room = (R.s s).room ∧ t ≤ s)

theorem TightIn.unique {N : Net} {R : Rc} {n t u : Nat} (h : TightIn N R n t) (h' : TightIn N R n u) : t = u := by
  have h1 := h.2.2 u h'.1 h'.2.1
  have h2 := h'.2.2 t h.1 h.2.1
  omega

/-- What a stream that a worker waits to write to is. -/
theorem needs_stream {N : Net} {R : Rc} (hv : validB N = true) {s : Nat} (h : needsB N R s N.workers.length = true) : s < N.streams.length ∧ srcd N s = false ∧ used N s = true := by
  obtain ⟨k, hk, hp⟩ := List.any_eq_true.1 h
  have hk' := List.mem_range.1 hk
  simp only [wantsB, Bool.and_eq_true, beq_iff_eq] at hp
  obtain ⟨h3, h4⟩ := hp
  cases hi : insAt N k (R.w k) with
  | none => rw [hi] at h4; cases h4
  | some i =>
    rw [hi] at h4
    have hb : i.b = s := by simpa using h4
    simp only [stateOf, hi] at h3
    split at h3
    · cases h3
    · split at h3
      · rename_i ho
        have hbs : i.b.toNat = s := by omega
        rw [hbs] at ho
        have hm : i ∈ codeOf N k := List.mem_of_getElem? hi
        have hvs := valid_stream (valid_ins hv hk' hm) (Or.inr ho.1)
        refine ⟨by omega, ?_, ho.2.1⟩
        have hu : usesB (codeOf N k) 2 (s : Nat) = true := List.any_eq_true.2 ⟨i, hm, by simp [ho.1, hb]⟩
        cases hq : srcd N s
        · rfl
        · rw [(valid_ok hv).src _ k hq] at hu; cases hu
      · cases h3

set_option maxRecDepth 100000 in
set_option maxHeartbeats 1000000 in
theorem tightest_calls {L : Lay} {w : World} {N : Net} {R : Rc} (h : RaceAt L w N R) :
    Calls Tryd.prog 35 #[.pointer (some ⟨L.p, 0, none⟩)] w fun e w' =>
      ((∃ t, TightIn N R N.streams.length t ∧ e = .returned (.tuple #[.int .i64 (t : Nat), .bool true])) ∨ ((∀ s, s < N.streams.length → needsB N R s N.workers.length = false) ∧ e = .returned (.tuple #[.int .i64 0, .bool false]))) ∧ Below w.heap.size w w' := by
  have hlen := (valid_counts h.ok).2.1
  have hlw := (valid_counts h.ok).2.2.2
  obtain ⟨ga, ca, gw, cw, hva, hvw, hc⟩ := h.forms
  have HR : Hid (∀ wx, Below w.heap.size w wx → ∀ s, s < N.streams.length → Calls Tryd.prog 37 #[.pointer (some ⟨L.st s, 0, none⟩)] wx fun e w' => (∃ v1 v2 : Int, e = .returned (.tuple #[.int .i64 v1, .int .i64 v2]) ∧ (needsB N R s N.workers.length = true → v1 = (R.s s).room)) ∧ Below w.heap.size w w') := fun wx hx s hs => by
    have hr := h.below hx
    refine (sroom_calls (hr.env.at' s hs)).mono fun e w' hh => ?_
    obtain ⟨h1, q, h2⟩ := hh
    refine ⟨⟨_, _, h1, fun hn => ?_⟩, by rw [h2]; exact below_drewN hx q⟩
    obtain ⟨-, n2, n3⟩ := needs_stream h.ok hn
    rw [if_pos ((h.ch s hs n2).2 n3)]
  have HS : Hid (∀ wx, Below w.heap.size w wx → ∀ s : Nat, Calls Tryd.prog 57 #[.pointer (some ⟨L.p, 0, none⟩), .int .i64 (s : Int)] wx fun e w' => e = .returned (.bool (needsB N R s N.workers.length)) ∧ Below w.heap.size w w') := fun wx hx s => by
    have hr := h.below hx
    refine (rneedsRoom_calls hr s).mono fun e w' hh => ?_
    exact ⟨hh.1, hx.trans (hh.2.mono hx.size)⟩
  have HC : Hid (∀ wx, Below w.heap.size w wx → wx.cell? ⟨L.p, 0, none⟩ = some (.slice (some ⟨ga, 0, none⟩) N.streams.length ca) ∧ ∀ k, k < N.streams.length → wx.cell? ⟨ga, k, none⟩ = some (.pointer (some ⟨L.st k, 0, none⟩))) := fun wx hx => by
    obtain ⟨x0, -, x2, -⟩ := hc wx hx
    exact ⟨by rw [x0, hva], x2⟩
  obtain ⟨c0, -⟩ := HC.out w (Below.refl _ _)
  have HT : Hid (∀ n t, TightIn N R n t ↔ (t < n ∧ needsB N R t N.workers.length = true ∧ ∀ s, s < n → needsB N R s N.workers.length = true → (R.s t).room < (R.s s).room ∨ ((R.s t).room = (R.s s).room ∧ t ≤ s))) := fun _ _ => Iff.rfl
  clear hc hva hvw h
  generalize N.workers.length = wl at *
  generalize N.streams.length = sl at *
  go_enter Tryd.func35, Tryd.ntmps35
  go_wp2
  go_loopw [4, 5, 6, 16] (fun t l f i wr => ∃ k : Nat, k ≤ sl ∧ i = .int .i64 k ∧ Below w.heap.size w wr ∧ ((f = .bool false ∧ t = .int .i64 0 ∧ l = .int .i64 0 ∧ ∀ s, s < k → needsB N R s wl = false) ∨ (∃ t' : Nat, f = .bool true ∧ t = .int .i64 t' ∧ l = .int .i64 (R.s t').room ∧ TightIn N R k t'))) (fun _ _ _ i _ => sl - (intOf i).toNat)
  case atStart => exact ⟨0, Nat.zero_le _, rfl, Below.refl _ _, Or.inl ⟨rfl, rfl, rfl, fun s hs => by omega⟩⟩
  case round =>
    obtain ⟨k, hk, rfl, hbl, hno⟩ := hrel
    by_cases hlt : k < sl
    · obtain ⟨e0, e2⟩ := HC.out wr hbl
      have e3 := e2 k hlt
      have HR1 := hide (HR.out wr hbl k hlt)
      have HS1 : Hid (∀ wx, Below w.heap.size w wx → Calls Tryd.prog 57 #[.pointer (some ⟨L.p, 0, none⟩), .int .i64 (k : Int)] wx fun e w' => e = .returned (.bool (needsB N R k wl)) ∧ Below w.heap.size w w') := fun wx hx => HS.out wx hx k
      clear e2 HS HC HR
      rcases hno with ⟨rfl, rfl, rfl, hno⟩ | ⟨t', rfl, rfl, rfl, hno⟩
      · have HNo := hide hno
        clear hno
        go_wp2_with fail
        refine (unhide HR1).mono ?_
        rintro e w1 ⟨⟨v1, v2, rfl, hv1⟩, hb1⟩
        have HV1 := hide hv1
        clear hv1
        go_wp2_with fail
        refine (unhide HS1 _ hb1).mono ?_
        rintro e w2 ⟨rfl, hb2⟩
        cases hy : needsB N R k wl
        · have HNo' : Hid (∀ s, s < k + 1 → needsB N R s wl = false) := fun s hs => by
            by_cases e : s = k
            · rw [e]; exact hy
            · exact HNo.out s (by omega)
          clear HV1
          go_wp2
          go_roundw
          case rel => exact ⟨k + 1, by omega, by go_num, hb2, Or.inl ⟨rfl, rfl, rfl, HNo'.out⟩⟩
          case measure => simp [intOf]; omega
        · have hv1 := HV1.out hy
          subst hv1
          have HT' : Hid (TightIn N R (k + 1) k) := (HT.out _ _).2 ⟨by omega, hy, fun s hs hn => by
            by_cases e : s = k
            · subst e; exact Or.inr ⟨rfl, Nat.le_refl _⟩
            · rw [HNo.out s (by omega)] at hn; cases hn⟩
          clear HV1
          go_wp2
          go_roundw
          case rel => exact ⟨k + 1, by omega, by go_num, hb2, Or.inr ⟨k, rfl, rfl, rfl, HT'.out⟩⟩
          case measure => simp [intOf]; omega
      · have HNo := hide ((HT.out _ _).1 hno)
        have HNk := hide hno
        clear hno
        go_wp2_with fail
        refine (unhide HR1).mono ?_
        rintro e w1 ⟨⟨v1, v2, rfl, hv1⟩, hb1⟩
        have HV1 := hide hv1
        clear hv1
        go_wp2_with fail
        refine (unhide HS1 _ hb1).mono ?_
        rintro e w2 ⟨rfl, hb2⟩
        cases hy : needsB N R k wl
        · have HT' : Hid (TightIn N R (k + 1) t') := (HT.out _ _).2 ⟨by have := HNo.out.1; omega, HNo.out.2.1, fun s hs hn => by
            by_cases e : s = k
            · subst e; rw [hy] at hn; cases hn
            · exact HNo.out.2.2 s (by omega) hn⟩
          clear HV1 HNo HNk
          go_wp2
          go_roundw
          case rel => exact ⟨k + 1, by omega, by go_num, hb2, Or.inr ⟨t', rfl, rfl, rfl, HT'.out⟩⟩
          case measure => simp [intOf]; omega
        · have hv1 := HV1.out hy
          subst hv1
          clear HV1
          by_cases hl : (R.s k).room < (R.s t').room
          · have hl' : ((R.s k).room : Int) < ((R.s t').room : Int) := by omega
            have HT' : Hid (TightIn N R (k + 1) k) := (HT.out _ _).2 ⟨by omega, hy, fun s hs hn => by
              by_cases e : s = k
              · subst e; exact Or.inr ⟨rfl, Nat.le_refl _⟩
              · have := HNo.out.2.2 s (by omega) hn
                omega⟩
            have HL := hide hl
            clear hl HNo HNk
            go_wp2
            go_roundw
            case rel => exact ⟨k + 1, by omega, by go_num, hb2, Or.inr ⟨k, rfl, rfl, rfl, HT'.out⟩⟩
            case measure => simp [intOf]; omega
          · have hl' : ¬ ((R.s k).room : Int) < ((R.s t').room : Int) := by omega
            have HT' : Hid (TightIn N R (k + 1) t') := (HT.out _ _).2 ⟨by have := HNo.out.1; omega, HNo.out.2.1, fun s hs hn => by
              by_cases e : s = k
              · subst e; have := HNo.out.1; omega
              · exact HNo.out.2.2 s (by omega) hn⟩
            have HL := hide hl
            clear hl HNo HNk
            go_wp2
            go_roundw
            case rel => exact ⟨k + 1, by omega, by go_num, hb2, Or.inr ⟨t', rfl, rfl, rfl, HT'.out⟩⟩
            case measure => simp [intOf]; omega
    · have e : k = sl := by omega
      subst e
      rcases hno with ⟨rfl, rfl, rfl, hno⟩ | ⟨t', rfl, rfl, rfl, hno⟩
      · have HNo := hide hno
        clear hno
        go_wp2
        go_ret2
        exact ⟨Or.inr ⟨HNo.out, rfl⟩, by first | exact hbl | exact below_drewN hbl _⟩
      · have HNo := hide hno
        clear hno
        go_wp2
        go_ret2
        exact ⟨Or.inl ⟨t', HNo.out, rfl⟩, by first | exact hbl | exact below_drewN hbl _⟩

end Go.Proofs.YthfdgdfnflilfaaDoor
/- Package millrace: Grow. -/
namespace Go.Proofs.YthfdgdfnflilfaaDoor
open Go.RowKit Go.Conc

def RoomR (N : Net) (R : Rc) : Prop := ∀ s, s < N.streams.length → (R.s s).room ≤ 40

/-- What comes of Grow: the two numbers, and the race behind it. -/
inductive Grows (N : Net) (R : Rc) : Int → Int → Option Nat → Prop
  | goes : goesB N R N.workers.length = true → Grows N R 0 3 none
  | none : (∀ s, s < N.streams.length → needsB N R s N.workers.length = false) → Grows N R 0 3 none
  | full {t : Nat} : goesB N R N.workers.length = false → TightIn N R N.streams.length t → (R.s t).room = 40 → Grows N R 0 4 none
  | grows {t : Nat} : goesB N R N.workers.length = false → TightIn N R N.streams.length t → (R.s t).room < 40 → Grows N R t 0 (some t)

/-- The race behind Grow. -/
def Grown (L : Lay) (w : World) (N : Net) (R : Rc) (o : Option Nat) (w' : World) : Prop :=
  match o with
  | none => Below w.heap.size w w'
  | some t => ∃ L', RaceAt L' w' N (growS R t) ∧ Grew L N w L' ∧ Fr (Foot L N) w w'

set_option maxRecDepth 100000 in
set_option maxHeartbeats 1000000 in
theorem rgrow_calls {L : Lay} {w : World} {N : Net} {R : Rc} (h : RaceAt L w N R) (hro : RoomR N R) :
    Calls Tryd.prog 20 #[.pointer (some ⟨L.p, 0, none⟩)] w fun e w' =>
      ∃ a b o, Grows N R a b o ∧ e = .returned (.tuple #[.int .i64 a, .int .i64 b]) ∧ Grown L w N R o w' := by
  have hlen := (valid_counts h.ok).2.1
  obtain ⟨ga, ca, gw, cw, hva, hvw, hc⟩ := h.forms
  have HT := hide (tightest_calls h)
  have HG : Hid (∀ wx, Below w.heap.size w wx → Calls Tryd.prog 36 #[.pointer (some ⟨L.p, 0, none⟩)] wx fun e w' => e = .returned (.bool (goesB N R N.workers.length)) ∧ Below w.heap.size w w') := fun wx hx => by
    refine (canGoOn_calls (h.below hx)).mono fun e w' hh => ⟨hh.1, hx.trans (hh.2.mono hx.size)⟩
  have HR : Hid (∀ wx, Below w.heap.size w wx → ∀ s, TightIn N R N.streams.length s → Calls Tryd.prog 37 #[.pointer (some ⟨L.st s, 0, none⟩)] wx fun e w' => (∃ v2 : Int, e = .returned (.tuple #[.int .i64 (R.s s).room, .int .i64 v2])) ∧ Below w.heap.size w w') := fun wx hx s ht => by
    have hr := h.below hx
    refine (sroom_calls (hr.env.at' s ht.1)).mono fun e w' hh => ?_
    obtain ⟨h1, q, h2⟩ := hh
    obtain ⟨-, n2, n3⟩ := needs_stream h.ok ht.2.1
    rw [if_pos ((h.ch s ht.1 n2).2 n3)] at h1
    exact ⟨⟨_, h1⟩, by rw [h2]; exact below_drewN hx q⟩
  have HW : Hid (∀ wx, Below w.heap.size w wx → ∀ s, TightIn N R N.streams.length s → (R.s s).room < 40 → Calls Tryd.prog 38 #[.pointer (some ⟨L.st s, 0, none⟩)] wx fun e w' => e = .returned (.tuple #[]) ∧ Grown L w N R (some s) w') := fun wx hx s ht hlt => by
    have hr := h.below hx
    obtain ⟨-, n2, n3⟩ := needs_stream h.ok ht.2.1
    have hS := hr.env.at' s ht.1
    have hsome := (h.ch s ht.1 n2).2 n3
    obtain ⟨c, hcs⟩ := Option.isSome_iff_exists.1 hsome
    have hS' := hS
    rw [hcs, n2] at hS'
    refine (sgrow_calls hS' (by omega)).mono fun e w' hh => ?_
    obtain ⟨h1, h2, h3⟩ := hh
    refine ⟨h1, _, hr.grow ht.1 hcs (Nat.le_refl _) (by rw [n2]; exact h2) h3, ?_, ?_⟩
    · exact grew_ch hx.size
    · refine (Fr.of_below hx).trans h3 fun x hx' hh => ?_
      rcases hh with rfl | rfl
      · exact Or.inr (Or.inr (Or.inr (Or.inl ⟨s, ht.1, Or.inl rfl⟩)))
      · exact Or.inr (Or.inr (Or.inr (Or.inl ⟨s, ht.1, Or.inr (Or.inr hcs)⟩)))
  have HC : Hid (∀ wx, Below w.heap.size w wx → wx.cell? ⟨L.p, 0, none⟩ = some (.slice (some ⟨ga, 0, none⟩) N.streams.length ca) ∧ ∀ k, k < N.streams.length → wx.cell? ⟨ga, k, none⟩ = some (.pointer (some ⟨L.st k, 0, none⟩))) := fun wx hx => by
    obtain ⟨x0, -, x2, -⟩ := hc wx hx
    exact ⟨by rw [x0, hva], x2⟩
  have HP : Hid (∀ w', Below w.heap.size w w' → Grown L w N R none w') := fun _ hx => hx
  have HI : Hid (∀ t, TightIn N R N.streams.length t → t < N.streams.length ∧ (R.s t).room ≤ 40) := fun t ht => ⟨ht.1, hro t ht.1⟩
  have q1 : Hid (goesB N R N.workers.length = true → Grows N R 0 3 none) := .goes
  have q2 : Hid ((∀ s, s < N.streams.length → needsB N R s N.workers.length = false) → Grows N R 0 3 none) := .none
  have q3 : Hid (∀ t, goesB N R N.workers.length = false → TightIn N R N.streams.length t → (R.s t).room = 40 → Grows N R 0 4 none) := fun _ => .full
  have q4 : Hid (∀ t : Nat, goesB N R N.workers.length = false → TightIn N R N.streams.length t → (R.s t).room < 40 → Grows N R t 0 (some t)) := fun _ => .grows
  clear hc hva hvw h hro
  generalize Grown L w N R = Gn at *
  generalize Grows N R = Gs at *
  generalize N.workers.length = wl at *
  generalize N.streams.length = sl at *
  go_enter Tryd.func20, Tryd.ntmps20
  go_wp2_with fail
  refine (unhide HT).mono ?_
  rintro e w1 ⟨⟨t, ht, rfl⟩ | ⟨hno, rfl⟩, hb1⟩
  · have HTt := hide ht
    clear ht
    go_wp2_with fail
    refine (unhide HG _ hb1).mono ?_
    rintro e w2 ⟨rfl, hb2⟩
    cases hy : goesB N R wl
    · have HY := hide hy
      clear hy
      obtain ⟨htl, hr40⟩ := HI.out t HTt.out
      obtain ⟨e0, e1⟩ := HC.out w2 hb2
      have e2 := e1 t htl
      have HR1 := hide (HR.out w2 hb2 t HTt.out)
      clear e1
      by_cases h40 : (R.s t).room = 40
      · have HQ := hide (q3.out t HY.out HTt.out h40)
        rw [h40] at HR1
        clear h40 hr40
        have hu0 : (0 : Int) ≤ (t : Int) := by omega
        have hu1 : (t : Int) < (sl : Int) := by omega
        go_wp2_with fail
        refine (unhide HR1).mono ?_
        rintro e w3 ⟨⟨v2, rfl⟩, hb3⟩
        go_wp2
        go_ret2
        exact ⟨_, _, _, HQ.out, rfl, HP.out _ hb3⟩
      · have hlt : (R.s t).room < 40 := by omega
        have HQ := hide (q4.out t HY.out HTt.out hlt)
        have HL := hide hlt
        have hz : (((R.s t).room : Int) == 40) = false := by simp; omega
        clear h40 hr40 hlt
        generalize hrm : (R.s t).room = rm at *
        have HRM := hide hrm
        clear hrm
        have hu0 : (0 : Int) ≤ (t : Int) := by omega
        have hu1 : (t : Int) < (sl : Int) := by omega
        go_wp2_with fail
        refine (unhide HR1).mono ?_
        rintro e w3 ⟨⟨v2, rfl⟩, hb3⟩
        obtain ⟨f0, f1⟩ := HC.out w3 hb3
        have f2 := f1 t htl
        clear f1
        have HW1 := hide (HW.out w3 hb3 t HTt.out (by rw [HRM.out]; exact HL.out))
        go_wp2_with fail
        refine (unhide HW1).mono ?_
        rintro e w4 ⟨rfl, hg4⟩
        go_wp2
        go_ret2
        exact ⟨_, _, _, HQ.out, rfl, hg4⟩
    · have HY := hide (q1.out hy)
      clear hy
      go_wp2
      go_ret2
      exact ⟨_, _, _, HY.out, rfl, HP.out _ hb2⟩
  · have HNo := hide (q2.out hno)
    clear hno
    go_wp2
    go_ret2
    exact ⟨_, _, _, HNo.out, rfl, HP.out _ hb1⟩

end Go.Proofs.YthfdgdfnflilfaaDoor
/- Package millrace: Flow. -/
namespace Go.Proofs.YthfdgdfnflilfaaDoor
open Go.RowKit Go.Conc

/-- What a race's memory has become. -/
structure Went (L : Lay) (w : World) (N : Net) (R : Rc) (w' : World) : Prop where
  at' : ∃ L', RaceAt L' w' N R ∧ Grew L N w L' ∧ Fr (Foot L N) w w'

theorem Grew.trans {L L1 L2 : Lay} {N : Net} {w w1 : World} (h : Grew L N w L1) (hs : w.heap.size ≤ w1.heap.size) (k : Grew L1 N w1 L2) : Grew L N w L2 := by
  obtain ⟨⟨a1, a2, a3, a4, a5⟩, a⟩ := h
  obtain ⟨⟨b1, b2, b3, b4, b5⟩, b⟩ := k
  refine ⟨⟨b1.trans a1, b2.trans a2, b3.trans a3, b4.trans a4, b5.trans a5⟩, fun x hx => ?_⟩
  rcases b x hx with h1 | h1
  · exact a x h1
  · exact Or.inr (Nat.le_trans hs h1)

theorem went_next {L L1 : Lay} {N : Net} {w w1 w2 : World} {R2 : Rc} (g : Grew L N w L1) (f : Fr (Foot L N) w w1) (h : ∃ L2, RaceAt L2 w2 N R2 ∧ Grew L1 N w1 L2 ∧ Fr (Foot L1 N) w1 w2) : Went L w N R2 w2 := by
  obtain ⟨L2, r2, g2, f2⟩ := h
  refine ⟨L2, r2, g.trans f.size g2, f.trans f2 fun x hx hh => ?_⟩
  rcases g.2 x hh with h1 | h1
  · exact h1
  · omega

theorem Went.below {L : Lay} {N : Net} {w w1 w2 : World} {R : Rc} (h : Went L w N R w1) (hb : Below w1.heap.size w1 w2) : Went L w N R w2 := by
  obtain ⟨L1, r, g, f⟩ := h.at'
  exact went_next g f ⟨L1, r.below hb, Grew.refl _ _ _, Fr.of_below hb⟩

theorem Went.refl {L : Lay} {N : Net} {w : World} {R : Rc} (h : RaceAt L w N R) : Went L w N R w := ⟨L, h, Grew.refl _ _ _, Fr.refl _ _⟩

/-! ### The model's streams behind a step, behind a growth -/
theorem doStep_s {N : Net} {R : Rc} {k s : Nat} (hs : s < R.S.length) : ((doStep N R k).s s).room = (R.s s).room ∧ ((doStep N R k).s s).words.length ≤ (R.s s).words.length + 1 := by
  cases hi : insAt N k (R.w k) with
  | none => simp [doStep, hi]
  | some i =>
    rw [doStep_some hi, step_s _ _ hs]
    split
    · simp
    · split
      · simp
      · simp

theorem growS_s (R : Rc) (t s : Nat) (ht : t < R.S.length) : ((growS R t).s s).room = (R.s s).room + (if s = t then 1 else 0) := by
  by_cases e : s = t
  · subst e
    have : (growS R s).s s = { R.s s with room := (R.s s).room + 1 } := getD_set_self _ _ _ _ ht
    rw [this, if_pos rfl]
  · have : (growS R t).s s = R.s s := getD_set_ne _ _ _ _ _ (fun e' => e e'.symm)
    rw [this, if_neg e]; rfl

/-- How often a race's streams may still grow. -/
def slack (N : Net) (R : Rc) : Nat := ((List.range N.streams.length).map fun s => 40 - (R.s s).room).sum

theorem sum_map_congr (l : List Nat) (f g : Nat → Nat) (h : ∀ x ∈ l, f x = g x) : (l.map f).sum = (l.map g).sum := by
  rw [List.map_congr_left h]
theorem sum_map_lt (f g : Nat → Nat) (t : Nat) : ∀ n, t < n → (∀ x, x < n → f x ≤ g x) → f t < g t → ((List.range n).map f).sum < ((List.range n).map g).sum := by
  intro n
  induction n with
  | zero => intro h; omega
  | succ n ih =>
    intro ht hle hlt
    rw [List.range_succ, List.map_append, List.map_append, List.sum_append, List.sum_append]
    simp only [List.map_cons, List.map_nil, List.sum_cons, List.sum_nil]
    by_cases e : t = n
    · subst e
      have : ((List.range t).map f).sum ≤ ((List.range t).map g).sum := by
        have h1 : ∀ m, m ≤ t → ((List.range m).map f).sum ≤ ((List.range m).map g).sum := by
          intro m
          induction m with
          | zero => intro _; simp
          | succ m ihm =>
            intro hm
            rw [List.range_succ, List.map_append, List.map_append, List.sum_append, List.sum_append]
            simp only [List.map_cons, List.map_nil, List.sum_cons, List.sum_nil]
            have := ihm (by omega)
            have := hle m (by omega)
            omega
        exact h1 t (Nat.le_refl _)
      omega
    · have := ih (by omega) (fun x hx => hle x (by omega)) hlt
      have := hle n (by omega)
      omega

theorem slack_step {N : Net} {R : Rc} {k : Nat} (hl : R.S.length = N.streams.length) : slack N (doStep N R k) = slack N R := by
  refine sum_map_congr _ _ _ fun s hs => ?_
  rw [(doStep_s (by rw [hl]; exact List.mem_range.1 hs)).1]

theorem slack_grow {N : Net} {R : Rc} {t : Nat} (hl : R.S.length = N.streams.length) (ht : t < N.streams.length) (hr : (R.s t).room < 40) : slack N (growS R t) < slack N R := by
  refine sum_map_lt _ _ t _ ht (fun x hx => ?_) ?_
  · rw [growS_s _ _ _ (by omega)]; omega
  · rw [growS_s _ _ _ (by omega), if_pos rfl]; omega

/-! ### Flow -/
inductive Star {α : Type} (r : α → α → Prop) : α → α → Prop
  | refl {a : α} : Star r a a
  | head {a b c : α} : r a b → Star r b c → Star r a c

theorem Star.tail {α : Type} {r : α → α → Prop} {a b c : α} (h : Star r a b) (k : r b c) : Star r a c := by
  induction h with
  | refl => exact .head k .refl
  | head h1 _ ih => exact .head h1 (ih k)

theorem Star.end_unique {α : Type} {r : α → α → Prop} (det : ∀ a b c, r a b → r a c → b = c) {a b c : α} (h : Star r a b) (hb : ∀ x, ¬ r b x) (k : Star r a c) (hc : ∀ x, ¬ r c x) : b = c := by
  induction h with
  | refl =>
    cases k with
    | refl => rfl
    | head h1 _ => exact absurd h1 (hb _)
  | head h1 _ ih =>
    cases k with
    | refl => exact absurd h1 (hc _)
    | head h2 k2 =>
      have := det _ _ _ h1 h2
      subst this
      exact ih hb k2

/-- One round of Flow. -/
inductive FStep (N : Net) (m : Nat) : Nat × Rc → Nat × Rc → Prop
  | step {d : Nat} {S : Rc} {k : Nat} : d < m → firstGo N S N.workers.length = some k → FStep N m (d, S) (d + 1, doStep N S k)
  | grow {d : Nat} {S : Rc} {t : Nat} : d < m → firstGo N S N.workers.length = none → Grows N S t 0 (some t) → FStep N m (d, S) (d, growS S t)

/-- How a race flows: so many steps done, and what has become of it. -/
def FlowTo (N : Net) (m : Nat) (R : Rc) (d : Nat) (S : Rc) : Prop := Star (FStep N m) (0, R) (d, S)

/-- Where Flow ends. -/
def FlowEnd (N : Net) (R : Rc) (m : Nat) (d : Nat) (b : Int) (S : Rc) : Prop :=
  FlowTo N m R d S ∧ ((d = m ∧ b = 0) ∨ (d < m ∧ firstGo N S N.workers.length = none ∧ ∃ a, Grows N S a b none))

theorem grows_one {N : Net} {R : Rc} {a a' b b' : Int} {o o' : Option Nat} (h : Grows N R a b o) (k : Grows N R a' b' o') : a = a' ∧ b = b' ∧ o = o' := by
  cases h with
  | goes h1 =>
    cases k with
    | goes => exact ⟨rfl, rfl, rfl⟩
    | none => exact ⟨rfl, rfl, rfl⟩
    | full k1 => rw [h1] at k1; cases k1
    | grows k1 => rw [h1] at k1; cases k1
  | none h1 =>
    cases k with
    | goes => exact ⟨rfl, rfl, rfl⟩
    | none => exact ⟨rfl, rfl, rfl⟩
    | full k1 k2 => have := h1 _ k2.1; rw [k2.2.1] at this; cases this
    | grows k1 k2 => have := h1 _ k2.1; rw [k2.2.1] at this; cases this
  | full h1 h2 h3 =>
    cases k with
    | goes k1 => rw [h1] at k1; cases k1
    | none k1 => have := k1 _ h2.1; rw [h2.2.1] at this; cases this
    | full => exact ⟨rfl, rfl, rfl⟩
    | grows k1 k2 k3 => have := h2.unique k2; subst this; omega
  | grows h1 h2 h3 =>
    cases k with
    | goes k1 => rw [h1] at k1; cases k1
    | none k1 => have := k1 _ h2.1; rw [h2.2.1] at this; cases this
    | full k1 k2 k3 => have := h2.unique k2; subst this; omega
    | grows k1 k2 k3 => have := h2.unique k2; subst this; exact ⟨rfl, rfl, rfl⟩

theorem fstep_det {N : Net} {m : Nat} : ∀ a b c, FStep N m a b → FStep N m a c → b = c := by
  intro a b c h k
  cases h with
  | step h1 h2 =>
    cases k with
    | step k1 k2 => rw [h2] at k2; cases k2; rfl
    | grow k1 k2 => rw [h2] at k2; cases k2
  | grow h1 h2 h3 =>
    cases k with
    | step k1 k2 => rw [h2] at k2; cases k2
    | grow k1 k2 k3 => have := (grows_one h3 k3).2.2; cases this; rfl

theorem FlowEnd.stops {N : Net} {R : Rc} {m d : Nat} {b : Int} {S : Rc} (h : FlowEnd N R m d b S) : ∀ x, ¬ FStep N m (d, S) x := by
  intro x hx
  rcases h.2 with ⟨h1, -⟩ | ⟨h1, h2, a, h3⟩
  · cases hx with
    | step k1 => omega
    | grow k1 => omega
  · cases hx with
    | step k1 k2 => rw [h2] at k2; cases k2
    | grow k1 k2 k3 => have := (grows_one h3 k3).2.2; cases this

theorem FlowEnd.unique {N : Net} {R : Rc} {m d d' : Nat} {b b' : Int} {S S' : Rc} (h : FlowEnd N R m d b S) (k : FlowEnd N R m d' b' S') : d = d' ∧ b = b' ∧ S = S' := by
  have := Star.end_unique fstep_det h.1 h.stops k.1 k.stops
  cases this
  refine ⟨rfl, ?_, rfl⟩
  rcases h.2 with ⟨h1, h2⟩ | ⟨h1, h2, a, h3⟩
  · rcases k.2 with ⟨k1, k2⟩ | ⟨k1, -⟩
    · rw [h2, k2]
    · omega
  · rcases k.2 with ⟨k1, k2⟩ | ⟨k1, k2, a', k3⟩
    · omega
    · exact (grows_one h3 k3).2.1

theorem grows_err {N : Net} {R : Rc} {a b : Int} (h : Grows N R a b none) : b = 3 ∨ b = 4 := by
  cases h <;> simp
theorem grows_ok {N : Net} {R : Rc} {a b : Int} {t : Nat} (h : Grows N R a b (some t)) : a = t ∧ b = 0 ∧ t < N.streams.length ∧ (R.s t).room < 40 := by
  cases h with
  | grows h1 h2 h3 => exact ⟨rfl, rfl, h2.1, h3⟩

theorem goes_of_first {N : Net} {R : Rc} {n : Nat} (h : firstGo N R n = none) : goesB N R n = false := by
  simp only [firstGo, List.find?_eq_none] at h
  exact List.any_eq_false.2 h

/-- What a race's streams are along a flow. -/
structure Held (N : Net) (R : Rc) (d : Nat) (S : Rc) : Prop where
  len : S.S.length = N.streams.length
  room : RoomR N S
  words : ∀ s, s < N.streams.length → (S.s s).words.length ≤ (R.s s).words.length + d

theorem Held.step {N : Net} {R S : Rc} {d k : Nat} (h : Held N R d S) : Held N R (d + 1) (doStep N S k) := by
  refine ⟨?_, fun s hs => ?_, fun s hs => ?_⟩
  · cases hi : insAt N k (S.w k) with
    | none => simp [doStep, hi, h.len]
    | some i => rw [doStep_some hi]; rw [nextS_length]; exact h.len
  · rw [(doStep_s (by rw [h.len]; exact hs)).1]; exact h.room s hs
  · have := (doStep_s (N := N) (R := S) (k := k) (s := s) (by rw [h.len]; exact hs)).2
    have := h.words s hs
    omega

theorem Held.grow {N : Net} {R S : Rc} {d t : Nat} (h : Held N R d S) (ht : t < N.streams.length) (hr : (S.s t).room < 40) : Held N R d (growS S t) := by
  refine ⟨by simp [growS, h.len], fun s hs => ?_, fun s hs => ?_⟩
  · rw [growS_s _ _ _ (by rw [h.len]; exact ht)]
    have := h.room s hs
    split
    · rename_i e; subst e; omega
    · omega
  · rw [(grow_s S t s).1]; exact h.words s hs

set_option maxHeartbeats 1000000 in
theorem rflow_out {p : Nat} {w : World} (most : Int) (h : most < 0 ∨ 100000 < most) :
    Calls Tryd.prog 12 #[.pointer (some ⟨p, 0, none⟩), .int .i64 most] w fun e w' => e = .returned (.tuple #[.int .i64 0, .int .i64 2]) ∧ w' = w := by
  by_cases h0 : most < 0
  · have h0' : decide (most < 0) = true := by simpa using h0
    go_enter Tryd.func12, Tryd.ntmps12
    go_wp2
    go_ret2
    exact ⟨rfl, rfl⟩
  · have h1 : 100000 < most := h.resolve_left h0
    have h0' : decide (most < 0) = false := by simpa using h0
    have h1' : decide (100000 < most) = true := by simpa using h1
    go_enter Tryd.func12, Tryd.ntmps12
    go_wp2
    go_ret2
    exact ⟨rfl, rfl⟩

set_option maxRecDepth 100000 in
set_option maxHeartbeats 1000000 in
theorem rflow_calls {L : Lay} {w : World} {N : Net} {R : Rc} (h : RaceAt L w N R) (hro : RoomR N R) (hw : ∀ s, s < N.streams.length → (R.s s).words.length + 100000 < 4398046511104) (m : Nat) (hm : m ≤ 100000) :
    Calls Tryd.prog 12 #[.pointer (some ⟨L.p, 0, none⟩), .int .i64 m] w fun e w' =>
      ∃ (d : Nat) (b : Int) (S : Rc), FlowEnd N R m d b S ∧ e = .returned (.tuple #[.int .i64 (d : Nat), .int .i64 b]) ∧ Went L w N S w' := by
  have HF : Hid (∀ d wx S, Held N R d S → d ≤ 100000 → Went L w N S wx → Calls Tryd.prog 25 #[.pointer (some ⟨L.p, 0, none⟩)] wx fun e w' => e = .returned (.bool (firstGo N S N.workers.length).isSome) ∧ ((firstGo N S N.workers.length = none ∧ Went L w N S w') ∨ (∃ k, firstGo N S N.workers.length = some k ∧ Went L w N (doStep N S k) w'))) := fun d wx S hh hd hq => by
    obtain ⟨L1, r, g, f⟩ := hq.at'
    rw [← g.1.1]
    refine (stepFirst_calls r (fun s hs => by have := hh.words s hs; have := hw s hs; omega)).mono fun e w' hx => ⟨hx.1, ?_⟩
    rcases hx.2 with ⟨h1, h2⟩ | ⟨k, -, -, h1, h2⟩
    · exact Or.inl ⟨h1, hq.below h2⟩
    · exact Or.inr ⟨k, h1, went_next g f h2⟩
  have HG : Hid (∀ d wx S, Held N R d S → Went L w N S wx → Calls Tryd.prog 20 #[.pointer (some ⟨L.p, 0, none⟩)] wx fun e w' => ∃ a b, e = .returned (.tuple #[.int .i64 a, .int .i64 b]) ∧ ((Grows N S a b none ∧ Went L w N S w') ∨ (∃ t, b = 0 ∧ Grows N S a b (some t) ∧ Went L w N (growS S t) w'))) := fun d wx S hh hq => by
    obtain ⟨L1, r, g, f⟩ := hq.at'
    rw [← g.1.1]
    refine (rgrow_calls r hh.room).mono fun e w' hx => ?_
    obtain ⟨a, b, o, h1, h2, h3⟩ := hx
    refine ⟨a, b, h2, ?_⟩
    cases o with
    | none => exact Or.inl ⟨h1, hq.below h3⟩
    | some t => exact Or.inr ⟨t, (grows_ok h1).2.1, h1, went_next g f h3⟩
  have HH0 : Hid (Held N R 0 R) := ⟨h.lenS, hro, fun s hs => Nat.le_refl _⟩
  have HW0 := hide (Went.refl h)
  have h0' : decide ((m : Int) < 0) = false := by simp
  have h1' : decide ((100000 : Int) < (m : Int)) = false := by simp; omega
  clear hw hro h
  generalize Went L w N = Wn at *
  go_enter Tryd.func12, Tryd.ntmps12
  go_wp2
  clear h0' h1'
  go_loopg [6] (m + slack N R) (fun g n wr => ∃ (d : Nat) (S : Rc), n = .int .i64 d ∧ d ≤ m ∧ g = (m - d) + slack N S ∧ FlowTo N m R d S ∧ Held N R d S ∧ Wn S wr)
  case atStart => exact ⟨0, R, rfl, Nat.zero_le _, by omega, .refl, HH0.out, HW0.out⟩
  case round =>
    obtain ⟨d, S, rfl, hd, hg, hft, hhe, hwn⟩ := hrel
    have HD := hide hg
    have HT := hide hft
    have HE := hide hhe
    clear hg hft hhe
    by_cases hlt : d < m
    · have hlt' : (d : Int) < (m : Int) := by omega
      have HF1 := hide (HF.out d wr S HE.out (by omega) hwn)
      clear HF
      cases hf : firstGo N S N.workers.length with
      | none =>
        have HFi := hide hf
        rw [hf] at HF1
        clear hf
        go_wp2_with fail
        refine (unhide HF1).mono ?_
        rintro e w1 ⟨rfl, hx⟩
        have hw1 : Wn S w1 := by
          rcases hx with ⟨-, hx⟩ | ⟨k, hk, -⟩
          · exact hx
          · cases hk
        have HG1 := hide (HG.out d w1 S HE.out hw1)
        clear hx HG HF1
        go_wp2_with fail
        refine (unhide HG1).mono ?_
        rintro e w2 ⟨a, b, rfl, ⟨hgr, hw2⟩ | ⟨t, rfl, hgr, hw2⟩⟩
        · have hb : (b != 0) = true := by rcases grows_err hgr with rfl | rfl <;> rfl
          have HGr := hide hgr
          clear hgr
          go_wp2
          go_ret2
          exact ⟨d, b, S, ⟨HT.out, Or.inr ⟨hlt, HFi.out, a, HGr.out⟩⟩, rfl, hw2⟩
        · obtain ⟨ha, -, htl, htr⟩ := grows_ok hgr
          subst ha
          have HGr := hide hgr
          have HSl := hide (slack_grow HE.out.len htl htr)
          have HHe := hide (HE.out.grow htl htr)
          clear hgr htl htr
          go_wp2
          go_roundg ((m - d) + slack N (growS S t))
          case measure => have := HD.out; have := HSl.out; omega
          case rel => exact ⟨d, growS S t, rfl, hd, rfl, .tail HT.out (.grow hlt HFi.out HGr.out), HHe.out, hw2⟩
      | some k =>
        have HFi := hide hf
        rw [hf] at HF1
        clear hf
        go_wp2_with fail
        refine (unhide HF1).mono ?_
        rintro e w1 ⟨rfl, hx⟩
        have hw1 : Wn (doStep N S k) w1 := by
          rcases hx with ⟨hk, -⟩ | ⟨k', hk, hx⟩
          · cases hk
          · cases hk; exact hx
        have HSl := hide (slack_step (k := k) HE.out.len)
        clear hx HG HF1
        go_wp2
        go_roundg ((m - (d + 1)) + slack N (doStep N S k))
        case measure => have := HD.out; have := HSl.out; omega
        case rel => exact ⟨d + 1, doStep N S k, by go_num, by omega, rfl, .tail HT.out (.step hlt HFi.out), HE.out.step, hw1⟩
    · have e : d = m := by omega
      subst e
      go_wp2
      go_ret2
      exact ⟨d, 0, S, ⟨HT.out, Or.inl ⟨rfl, rfl⟩⟩, rfl, hwn⟩

end Go.Proofs.YthfdgdfnflilfaaDoor
/- append([]T(nil), xs...): a new row. -/
namespace Go.Proofs.YthfdgdfnflilfaaDoor
open Go.RowKit Go.Conc

section
variable {P : Program} {w : World}

theorem run_append_fresh (t ty e : TypeId) (i : TypeInfo) (z : Value) (size bytes : Nat) (ht : P.underlying t = some (.slice e)) (hi : P.info? e = some i) (hz : i.zero = some z)
    (hsize : i.size = size) (hby : i.bytes = bytes) (hzs : z.cells.size = size) (hsz : 0 < size)
    (a : Option Addr) (m c : Nat) (news : List Value) (hl : news.length = m * size) (hnews : 0 < m → ∃ ad : Addr, a = some ad ∧ ∀ j u, news[j]? = some u → w.cell? (ad.add j) = some u) (h1 : ∀ u ∈ news, u.oneCell' = true)
    (h63 : m ≤ maxLen) (hbytes : m * bytes ≤ 140737488355328) :
    ∃ a' c' w', (Builtin.append_ #[t, t] ty #[.slice none 0 0, .slice a m c]).run P w = .ok (.slice a' m c') w' ∧
      w'.ownsRow w.heap.size e size (.slice a' m c') m news ∧ Below w.heap.size w w' := by
  rcases Nat.eq_zero_or_pos m with h0 | h0
  · subst h0
    have hn : news = [] := List.eq_nil_of_length_eq_zero (by simpa using hl)
    subst hn
    refine ⟨none, 0, w, ?_, ⟨by simp, Or.inl ⟨rfl, rfl⟩⟩, Below.refl _ _⟩
    refine run_append_nothing w t t ty e i ht hi none 0 0 (Nat.le_refl _) _ ?_
    cases a with
    | none => exact Src.ofNil w ht c
    | some ad => exact Src.ofSlice w ht ad 0 c [] (by simp) (by simp) (by simp)
  · obtain ⟨ad, rfl, hc⟩ := hnews h0
    obtain ⟨g, cap, w', hr, ho, hg, hgH, hlt⟩ := run_append_lies (P := P) w t ty w.heap.size e i z size bytes ht hi hz hsize hby hzs hsz (.slice none 0 0) 0 [] ⟨by simp, Or.inl ⟨rfl, rfl⟩⟩ ad m c news hl hc h1 h0 (by omega) (by simpa using hbytes) (Nat.le_refl _) w.heap.size rfl
    rw [Nat.zero_add] at hr ho
    refine ⟨_, _, w', hr, by simpa using ho, ?_⟩
    exact ⟨hg.os, hg.tape, hg.output, hg.size, fun k hk => hg.block k hk (by simp [Value.ownBlock])⟩

theorem wpList_append_fresh {ops : Array Oper} {rest : List Oper} {o : Oper} {b : Act} {Q : Exit → Act → World → Prop} (hgd : o.guard = none) (s x : Operand) (t : TypeId)
    (ho : o.op = .call { callee := .builtin .append, args := #[s, x], argTypes := #[t, t] })
    (e : TypeId) (i : TypeInfo) (z : Value) (size bytes : Nat) (ht : P.underlying t = some (.slice e)) (hi : P.info? e = some i) (hz : i.zero = some z)
    (hsize : i.size = size) (hby : i.bytes = bytes) (hzs : z.cells.size = size) (hsz : 0 < size)
    (a : Option Addr) (m c : Nat) (news : List Value) (hs : b.eval s = .slice none 0 0) (hx : b.eval x = .slice a m c) (hl : news.length = m * size) (hnews : 0 < m → ∃ ad : Addr, a = some ad ∧ ∀ j u, news[j]? = some u → w.cell? (ad.add j) = some u) (h1 : ∀ u ∈ news, u.oneCell' = true)
    (h63 : m ≤ maxLen) (hbytes : m * bytes ≤ 140737488355328)
    (h : ∀ a' c' w', w'.ownsRow w.heap.size e size (.slice a' m c') m news → Below w.heap.size w w' → wpList P ops Q rest (b.put o.dst (.slice a' m c')) w') : wpList P ops Q (o :: rest) b w := by
  refine wpList_plain hgd fun _ hK => ?_
  obtain ⟨a', c', w', hr, h2, h3⟩ := run_append_fresh (P := P) (w := w) t o.type e i z size bytes ht hi hz hsize hby hzs hsz a m c news hl hnews h1 h63 hbytes
  unfold Oper.wp execOp
  simp only [ho, resolve, invoke, builtin, Sem.run_bind, Sem.run_pure, Result.andThen_ok, List.map_toArray, List.map_cons, List.map_nil, hs, hx, hr]
  exact hK _ _ (h a' c' w' h2 h3)

end

end Go.Proofs.YthfdgdfnflilfaaDoor
/- Package streams: History. -/
namespace Go.Proofs.YthfdgdfnflilfaaDoor
open Go.RowKit Go.Conc

/-- A stream's history. -/
def histOf (sourced : Bool) (m : Sm) : List Int := if sourced then m.words.take m.read else m.words

theorem own_cells {w : World} {a : Option Addr} {cap : Nat} {l : List Int} (h : w.ownsRow 0 3 1 (.slice a l.length cap) l.length (intRow l)) (k : Nat) (hk : k ≤ l.length) (h0 : 0 < k) :
    ∃ g, a = some ⟨g, 0, none⟩ ∧ ∀ wr : World, wr.heap[g]? = w.heap[g]? → ∀ j u, (intRow (l.take k))[j]? = some u → wr.cell? ((⟨g, 0, none⟩ : Addr).add j) = some u := by
  rcases h.2 with ⟨h3, h4⟩ | ⟨g, cap', cur, hv, hg, hh, hn, hm, hs, ht⟩
  · omega
  · cases hv
    refine ⟨g, rfl, fun wr hwr j u hj => ?_⟩
    have hj' : j < k := by
      have := (List.getElem?_eq_some_iff.1 hj).1
      simp [intRow] at this; omega
    rw [addr_add, Nat.zero_add, cell_of_row wr g j cur 3 (0, 0) (by rw [hwr]; exact hh)]
    have e : (intRow l)[j]? = some u := by
      rw [← hj]; simp only [intRow, List.map_take]
      rw [List.getElem?_take_of_lt hj']
    rw [← ht, List.getElem?_take_of_lt (by omega)] at e
    simpa using e

set_option maxRecDepth 100000 in
set_option maxHeartbeats 1000000 in
theorem shistory_calls {w : World} {b : Nat} {vw : Value} {ch : Option Nat} {sourced : Bool} {m : Sm} (h : StAt w b vw ch sourced m) :
    Calls Tryd.prog 27 #[.pointer (some ⟨b, 0, none⟩)] w fun e w' => ∃ a' c', e = .returned (.slice a' (histOf sourced m).length c') ∧
      w'.ownsRow w.heap.size 3 1 (.slice a' (histOf sourced m).length c') (histOf sourced m).length (intRow (histOf sourced m)) ∧ Below w.heap.size w w' := by
  obtain ⟨c0, c1, c2, c3, cf⟩ := h.cells
  obtain ⟨i0, hi, hz0, hz1, hz2⟩ := info_parts Tryd.info3
  obtain ⟨a, cap, rfl, hcap, -⟩ := own_form h.own
  have HO := hide h.own
  have hsm := h.small
  have hle := h.le
  clear c3 cf h
  cases sourced with
  | false =>
    have HN : Hid (0 < m.words.length → ∃ ad : Addr, a = some ad ∧ ∀ j u, (intRow m.words)[j]? = some u → w.cell? (ad.add j) = some u) := fun h0 => by
      obtain ⟨g, hg, hx⟩ := own_cells HO.out _ (Nat.le_refl _) h0
      refine ⟨⟨g, 0, none⟩, hg, fun j u hj => hx w rfl j u ?_⟩
      rw [List.take_length]; exact hj
    have hl : (intRow m.words).length = m.words.length * 1 := by rw [intRow_length]; omega
    have h1 := intRow_one m.words
    have HP : Hid (∀ (a' : Option Addr) (c' : Nat) (w' : World), w'.ownsRow w.heap.size 3 1 (.slice a' m.words.length c') m.words.length (intRow m.words) → w'.ownsRow w.heap.size 3 1 (.slice a' (histOf false m).length c') (histOf false m).length (intRow (histOf false m))) := fun _ _ _ hx => hx
    have e : (histOf false m).length = m.words.length := rfl
    simp only [e] at HP ⊢
    clear e HO
    generalize m.words.length = n at *
    generalize intRow m.words = ws at *
    generalize intRow (histOf false m) = hs at *
    have h63 : n ≤ maxLen := by unfold maxLen; omega
    have hby : n * 8 ≤ 140737488355328 := by omega
    have HL := hide hl
    clear hl
    go_enter Tryd.func27, Tryd.ntmps27
    go_wp2_with (at_builtin; refine wpList_append_fresh rfl _ (.tmp 20) 22 rfl 3 i0 (.int .i64 0) 1 8 Tryd.underlying22 hi hz0 hz1 hz2 rfl (by decide) a n cap ws rfl rfl HL.out HN.out h1 h63 hby ?_)
    intro a' c' w' hown hb
    have HR := hide (HP.out _ _ _ hown)
    have HB := hide hb
    clear hown hb
    go_wp2
    go_ret
    exact ⟨_, _, rfl, HR.out, HB.out⟩
  | true =>
    obtain ⟨n, hn⟩ : ∃ n, n = m.read := ⟨_, rfl⟩
    have HN : Hid (∀ wr : World, (∀ g, g < w.heap.size → wr.heap[g]? = w.heap[g]?) → 0 < m.read → ∃ ad : Addr, a = some ad ∧ ∀ j u, (intRow (m.words.take m.read))[j]? = some u → wr.cell? (ad.add j) = some u) := fun wr hwr h0 => by
      obtain ⟨g, hg, hx⟩ := own_cells HO.out _ hle h0
      refine ⟨⟨g, 0, none⟩, hg, fun j u hj => hx wr (hwr g ?_) j u hj⟩
      obtain ⟨cur, hc⟩ := own_block HO.out (g := g) (by rw [hg]; rfl)
      exact lt_of_blk hc
    have hA : a = none ∧ cap = 0 ∧ m.read = 0 ∧ m.words.length = 0 ∨ ∃ g, a = some ⟨g, 0, none⟩ := by
      rcases HO.out.2 with ⟨h3, h4⟩ | ⟨g, cap', cur, hv, hg, hh, hn, hm, hs, ht⟩
      · simp only [Value.slice.injEq] at h3; exact Or.inl ⟨h3.1, h3.2.2, by omega, h4⟩
      · cases hv; exact Or.inr ⟨g, rfl⟩
    have hl : (intRow (m.words.take m.read)).length = m.read * 1 := by rw [intRow_length]; simp; omega
    have h1 := intRow_one (m.words.take m.read)
    have e : (histOf true m).length = m.read := by simp [histOf]; omega
    have HP : Hid (∀ (a' : Option Addr) (c' : Nat) (w' : World), w'.ownsRow w.heap.size 3 1 (.slice a' m.read c') m.read (intRow (m.words.take m.read)) → w'.ownsRow w.heap.size 3 1 (.slice a' (histOf true m).length c') (histOf true m).length (intRow (histOf true m))) := fun _ _ _ hx => by rw [e]; exact hx
    simp only [e] at HP ⊢
    rw [if_pos rfl] at c2
    clear e HO hn
    generalize intRow (m.words.take m.read) = ws at *
    generalize intRow (histOf true m) = hs at *
    generalize m.read = n at *
    generalize m.words.length = ln at *
    have h63 : n ≤ maxLen := by unfold maxLen; omega
    have hby : n * 8 ≤ 140737488355328 := by omega
    have HL := hide hl
    clear hl
    have hn0 : (0 : Int) ≤ (n : Int) := by omega
    have hnc : (n : Int) ≤ (cap : Int) := by omega
    rcases hA with ⟨rfl, rfl, rfl, rfl⟩ | ⟨g, rfl⟩
    · go_enter Tryd.func27, Tryd.ntmps27
      go_wp2
      refine wp_region_still_tail 9 Tryd.mixed (by kernel_rfl) ?_
      simp only [List.take_succ_cons, List.take_zero, List.drop_succ_cons, List.drop_zero]
      iterate 9 still_step
      refine wpStill_nil ?_
      show wpList _ _ _ _ _ w.drew
      go_wp2_with (at_builtin; refine wpList_append_fresh rfl _ (.tmp 15) 22 rfl 3 i0 (.int .i64 0) 1 8 Tryd.underlying22 hi hz0 hz1 hz2 rfl (by decide) none 0 0 ws rfl rfl HL.out (HN.out w.drew (fun _ _ => rfl)) h1 h63 hby ?_)
      intro a' c' w' hown hb
      have HR := hide (HP.out _ _ _ hown)
      have HB : Hid (Below w.heap.size w w') := ⟨hb.os, hb.tape, hb.output, hb.size, hb.block⟩
      clear hown hb
      go_wp2
      go_ret
      exact ⟨_, _, rfl, HR.out, HB.out⟩
    · go_enter Tryd.func27, Tryd.ntmps27
      go_wp2
      refine wp_region_still_tail 9 Tryd.mixed (by kernel_rfl) ?_
      simp only [List.take_succ_cons, List.take_zero, List.drop_succ_cons, List.drop_zero]
      iterate 9 still_step
      refine wpStill_nil ?_
      show wpList _ _ _ _ _ w.drew
      go_wp2_with (at_builtin; refine wpList_append_fresh rfl _ (.tmp 15) 22 rfl 3 i0 (.int .i64 0) 1 8 Tryd.underlying22 hi hz0 hz1 hz2 rfl (by decide) (some ⟨g, 0, none⟩) n cap ws rfl rfl HL.out (HN.out w.drew (fun _ _ => rfl)) h1 h63 hby ?_)
      intro a' c' w' hown hb
      have HR := hide (HP.out _ _ _ hown)
      have HB : Hid (Below w.heap.size w w') := ⟨hb.os, hb.tape, hb.output, hb.size, hb.block⟩
      clear hown hb
      go_wp2
      go_ret
      exact ⟨_, _, rfl, HR.out, HB.out⟩

end Go.Proofs.YthfdgdfnflilfaaDoor
/- Package millrace: History, Room, Look of what is not there. -/
namespace Go.Proofs.YthfdgdfnflilfaaDoor
open Go.RowKit Go.Conc

set_option maxHeartbeats 1000000 in
theorem rhistory_calls {L : Lay} {w : World} {N : Net} {R : Rc} (h : RaceAt L w N R) (s : Nat) (hs : s < N.streams.length) :
    Calls Tryd.prog 13 #[.pointer (some ⟨L.p, 0, none⟩), .int .i64 s] w fun e w' => ∃ a' c', e = .returned (.tuple #[.slice a' (histOf (srcd N s) (R.s s)).length c', .int .i64 0]) ∧
      w'.ownsRow w.heap.size 3 1 (.slice a' (histOf (srcd N s) (R.s s)).length c') (histOf (srcd N s) (R.s s)).length (intRow (histOf (srcd N s) (R.s s))) ∧ Below w.heap.size w w' := by
  have hin : inB (s : Int) N.streams.length = true := by simp [inB]; omega
  have HH := hide (hasStream_calls h s)
  rw [hin] at HH
  have hlen := (valid_counts h.ok).2.1
  obtain ⟨ga, ca, gw, cw, hva, hvw, hc⟩ := h.forms
  obtain ⟨c0, c1, c2, -⟩ := hc w (Below.refl _ _)
  have d0 := c2 s hs
  have HP := hide (shistory_calls (h.env.at' s hs))
  rw [hva] at c0
  have hk0 : (0 : Int) ≤ (s : Int) := by omega
  have hk1 : (s : Int) < (N.streams.length : Int) := by omega
  clear hc c1 c2 hin h hva hvw
  generalize intRow (histOf (srcd N s) (R.s s)) = ir at *
  generalize (histOf (srcd N s) (R.s s)).length = hl at *
  generalize N.streams.length = sl at *
  go_enter Tryd.func13, Tryd.ntmps13
  go_wp2_with fail
  refine (unhide HH).mono ?_
  rintro e w1 ⟨rfl, rfl⟩
  go_wp2_with fail
  refine (unhide HP).mono ?_
  rintro e w2 ⟨a', c', rfl, hown, hb⟩
  have HO := hide hown
  have HB := hide hb
  clear hown hb
  go_wp2
  go_ret2
  exact ⟨a', c', rfl, HO.out, HB.out⟩

set_option maxHeartbeats 1000000 in
theorem rhistory_out {L : Lay} {w : World} {N : Net} {R : Rc} (h : RaceAt L w N R) (k : Int) (hk : inB k N.streams.length = false) :
    Calls Tryd.prog 13 #[.pointer (some ⟨L.p, 0, none⟩), .int .i64 k] w fun e w' => e = .returned (.tuple #[.slice none 0 0, .int .i64 2]) ∧ w' = w := by
  have HH := hide (hasStream_calls h k)
  rw [hk] at HH
  go_enter Tryd.func13, Tryd.ntmps13
  go_wp2_with fail
  refine (unhide HH).mono ?_
  rintro e w1 ⟨rfl, rfl⟩
  go_wp2
  go_ret2
  exact ⟨rfl, rfl⟩

end Go.Proofs.YthfdgdfnflilfaaDoor
/- Package millrace: Run. -/
namespace Go.Proofs.YthfdgdfnflilfaaDoor
open Go.RowKit Go.Conc

/-- What comes of a schedule. -/
def runM (N : Net) : List Int → Nat → Rc → Nat × Int × Rc
  | [], d, R => (d, 0, R)
  | k :: ks, d, R => if inB k N.workers.length then (if stateOf N R k.toNat = 1 then runM N ks (d + 1) (doStep N R k.toNat) else runM N ks d R) else (d, 2, R)

end Go.Proofs.YthfdgdfnflilfaaDoor
/- The two races of the head of millracekeep, in the model. No program here. -/
namespace Go.Proofs.YthfdgdfnflilfaaDoor
open Go.RowKit Go.Conc

def netOne : Net := ⟨[2, 1], [⟨0, [5, 6]⟩], [[⟨1, 0, 0, 4⟩, ⟨4, 0, 0, 0⟩, ⟨2, 0, 1, 0⟩, ⟨9, 0, 0, 0⟩]]⟩
def netTwo : Net := ⟨[1, 1], [], [[⟨2, 0, 0, 0⟩, ⟨2, 0, 0, 0⟩, ⟨2, 0, 1, 0⟩], [⟨1, 0, 1, 0⟩, ⟨1, 0, 0, 0⟩, ⟨1, 0, 0, 0⟩]]⟩

theorem netOne_ok : validB netOne = true := by decide
theorem netTwo_ok : validB netTwo = true := by decide

/-- So many steps of worker 0. -/
def oneAt : Nat → Rc
  | 0 => initR netOne netOne.streams
  | i + 1 => doStep netOne (oneAt i) 0

theorem oneAt_goes : ∀ i, i < 9 → firstGo netOne (oneAt i) netOne.workers.length = some 0 := by
  intro i hi
  have : i = 0 ∨ i = 1 ∨ i = 2 ∨ i = 3 ∨ i = 4 ∨ i = 5 ∨ i = 6 ∨ i = 7 ∨ i = 8 := by omega
  rcases this with rfl | rfl | rfl | rfl | rfl | rfl | rfl | rfl | rfl <;> decide +kernel
theorem oneAt_ends : firstGo netOne (oneAt 9) netOne.workers.length = none := by decide +kernel
theorem oneAt_hist : histOf (srcd netOne 1) ((oneAt 9).s 1) = [10, 12] := by decide +kernel

theorem flow_to (i : Nat) (hi : i ≤ 9) : FlowTo netOne 100 (initR netOne netOne.streams) i (oneAt i) := by
  induction i with
  | zero => exact .refl
  | succ i ih => exact (ih (by omega)).tail (FStep.step (by omega) (oneAt_goes i (by omega)))

theorem flow_one : FlowEnd netOne (initR netOne netOne.streams) 100 9 3 (oneAt 9) := by
  refine ⟨flow_to 9 (Nat.le_refl _), Or.inr ⟨by decide, oneAt_ends, 0, .none fun s hs => ?_⟩⟩
  have : s = 0 ∨ s = 1 := by have : netOne.streams.length = 2 := rfl; omega
  rcases this with rfl | rfl <;> decide +kernel

def twoAt : Rc := doStep netTwo (initR netTwo netTwo.streams) 0
theorem two_a : stateOf netTwo (initR netTwo netTwo.streams) 0 = 1 := by decide +kernel
theorem two_b : stateOf netTwo twoAt 0 = 3 := by decide +kernel
theorem two_c : stateOf netTwo twoAt 1 = 2 := by decide +kernel
theorem two_d : Grows netTwo twoAt (0 : Nat) 0 (some 0) := by
  refine .grows (by decide +kernel) ⟨by decide, by decide +kernel, fun s hs _ => ?_⟩ (by decide +kernel)
  have : s = 0 ∨ s = 1 := by have : netTwo.streams.length = 2 := rfl; omega
  rcases this with rfl | rfl
  · exact Or.inr ⟨rfl, Nat.le_refl _⟩
  · exact Or.inr ⟨by decide +kernel, by decide⟩
theorem two_o : Grows netTwo (growS twoAt 0) 0 3 none := .goes (by decide +kernel)

/-- Rooms of a new race are those of its net. -/
theorem init_room {N : Net} (h : validB N = true) : ∀ s (hs : s < N.streams.length), ((initR N N.streams).s s).room = N.streams[s].toNat ∧ 1 ≤ N.streams[s] ∧ N.streams[s] ≤ 6 := by
  intro s hs
  have h1 : 1 ≤ N.streams[s] ∧ N.streams[s] ≤ 6 := by
    simp only [validB, validStreamsB, Bool.and_eq_true] at h
    have := List.all_eq_true.1 h.1.1.1.2 N.streams[s] (List.getElem_mem hs)
    simpa using this
  refine ⟨?_, h1⟩
  simp [Rc.s, initR, List.getD, hs]
theorem init_roomR {N : Net} (h : validB N = true) : RoomR N (initR N N.streams) := fun s hs => by
  obtain ⟨h1, h2, h3⟩ := init_room h s hs
  rw [h1]; omega
theorem init_words {N : Net} (h : validB N = true) : ∀ s, s < N.streams.length → ((initR N N.streams).s s).words.length ≤ 50 := by
  intro s hs
  have e : ((initR N N.streams).s s).words = if srcd N s then srcWords N s else [] := by simp [Rc.s, initR, List.getD, hs]
  rw [e]
  split
  · have hq : validSourcesB N.sources N.streams.length = true := by
      simp only [validB, Bool.and_eq_true] at h; exact h.1.1.2
    unfold srcWords
    cases hf : N.sources.find? fun x => x.stream == (s : Int) with
    | none => simp
    | some x =>
      have hm := List.mem_of_find?_eq_some hf
      obtain ⟨j, hj, rfl⟩ := List.getElem_of_mem hm
      have := List.all_eq_true.1 hq j (List.mem_range.2 hj)
      rw [getD_eq _ _ _ hj] at this
      simp only [Bool.and_eq_true, decide_eq_true_eq] at this
      simpa using this.1.2
  · simp

end Go.Proofs.YthfdgdfnflilfaaDoor
/- What makes streams and workers: Unread, WithRoom, FromSource, workers.New. -/
namespace Go.Proofs.YthfdgdfnflilfaaDoor
open Go.RowKit Go.Conc

/-- A stream that is new. -/
def NewSt (w : World) (src : Bool) (m : Sm) (some' : Bool) (e : Ending) (w' : World) : Prop :=
  ∃ b vw ch, e = .returned (.pointer (some ⟨b, 0, none⟩)) ∧ StAt w' b vw ch src m ∧ Below w.heap.size w w' ∧ w.heap.size ≤ b ∧ (∀ g, vw.ownBlock = some g → w.heap.size ≤ g) ∧ (∀ c, ch = some c → w.heap.size ≤ c) ∧ ch.isSome = some'

set_option maxHeartbeats 1000000 in
theorem unread_calls (w : World) (r : Nat) : Calls Tryd.prog 45 #[.int .i64 r] w fun e w' => NewSt w false ⟨[], 0, r⟩ false e w' := by
  go_enter Tryd.func45, Tryd.ntmps45
  go_wp2
  go_ret
  refine ⟨w.heap.size, .slice none 0 0, none, rfl, ⟨heap_alloc_new _ _, ⟨rfl, Or.inl ⟨rfl, rfl⟩⟩, Nat.le_refl _, by simp, fun c hc => (by cases hc), fun c hc => (by cases hc)⟩, (Below.refl _ _).alloc (Nat.le_refl _) _, Nat.le_refl _, fun g hg => (by cases hg), fun c hc => (by cases hc), rfl⟩

set_option maxHeartbeats 1000000 in
theorem withRoom_calls (w : World) (r : Nat) (hr : r ≤ 1000) : Calls Tryd.prog 44 #[.int .i64 r] w fun e w' => NewSt w false ⟨[], 0, r⟩ true e w' := by
  obtain ⟨i0, hi, hi8⟩ := Tryd.infoInt
  have hmk := fun (wx : World) => run_makeChan (P := Tryd.prog) (w := wx) (t := 86) Tryd.underlying86 hi .i64 r (by omega) (by rw [hi8]; omega)
  go_enter Tryd.func44, Tryd.ntmps44
  go_wp2
  go_ret
  have hb1 : Below w.heap.size w (w.alloc (.chan r #[] false 0 0 false)) := (Below.refl _ _).alloc (Nat.le_refl _) _
  refine ⟨w.heap.size + 1, .slice none 0 0, some w.heap.size, rfl, ⟨?_, ⟨rfl, Or.inl ⟨rfl, rfl⟩⟩, Nat.le_refl _, by simp, fun c hc => ?_, fun c hc => rfl⟩, hb1.alloc hb1.size _, Nat.le_succ _, fun g hg => (by cases hg), fun c hc => (by cases hc; exact Nat.le_refl _), rfl⟩
  · have := heap_alloc_new (w.alloc (.chan r #[] false 0 0 false)) (.cells #[.bool false, .slice none 0 0, .int .i64 0, .chan (some w.heap.size), .int .i64 0] 88)
    simpa using this
  · cases hc
    refine ⟨⟨0, 0, ?_⟩, by simp, hr⟩
    rw [Below.heap_alloc _ _ _ (by simp)]
    exact heap_alloc_new _ _

set_option maxHeartbeats 1000000 in
theorem fromSource_calls {w : World} {v : Value} {l : List Int} (hv : IntsAt w v l) (hl : l.length ≤ 1048576) (r : Nat) : Calls Tryd.prog 46 #[v] w fun e w' => NewSt w true ⟨l, 0, r⟩ false e w' := by
  obtain ⟨i0, hi, hz0, hz1, hz2⟩ := info_parts Tryd.info3
  obtain ⟨a, cap, rfl, -, -, -⟩ := hv.openD
  have HN : Hid (0 < l.length → ∃ ad : Addr, a = some ad ∧ ∀ j u, (intRow l)[j]? = some u → w.cell? (ad.add j) = some u) := fun h0 => by
    obtain ⟨ad, hg, -, hx⟩ := ints_cells hv h0
    exact ⟨ad, hg, fun j u hj => hx w (Below.refl _ _) j u hj⟩
  have HL : Hid ((intRow l).length = l.length * 1) := by rw [intRow_length]; simp [Hid]
  have h1 := intRow_one l
  have h63 : l.length ≤ maxLen := by unfold maxLen; omega
  have hby : l.length * 8 ≤ 140737488355328 := by omega
  have HF : Hid (∀ (a' : Option Addr) (c' : Nat) (w1 : World), w1.ownsRow w.heap.size 3 1 (.slice a' l.length c') l.length (intRow l) → Below w.heap.size w w1 → NewSt w true ⟨l, 0, r⟩ false (.returned (.pointer (some ⟨w1.heap.size, 0, none⟩))) (w1.alloc (.cells #[.bool true, .slice a' l.length c', .int .i64 0, .chan none, .int .i64 0] 88))) := fun a' c' w1 ho hb => by
    refine ⟨w1.heap.size, .slice a' l.length c', none, rfl, ⟨heap_alloc_new _ _, ?_, Nat.zero_le _, by dsimp only; omega, fun c hc => (by cases hc), fun c hc => (by cases hc)⟩, hb.alloc hb.size _, hb.size, fun g hg => ?_, fun c hc => (by cases hc), rfl⟩
    · have ho0 : w1.ownsRow 0 3 1 (.slice a' l.length c') l.length (intRow l) := by
        rcases ho with ⟨q1, q2 | ⟨g, cap, cur, q2, q3, q4⟩⟩
        · exact ⟨q1, Or.inl q2⟩
        · exact ⟨q1, Or.inr ⟨g, cap, cur, q2, Nat.zero_le _, q4⟩⟩
      exact ho0.alloc _
    · rcases ho with ⟨q1, q2 | ⟨g', cap, cur, q2, q3, q4⟩⟩
      · rw [q2.1] at hg; cases hg
      · rw [q2] at hg; cases hg; exact q3
  clear hv
  generalize l.length = n at *
  generalize intRow l = ws at *
  go_enter Tryd.func46, Tryd.ntmps46
  go_wp2_with (at_builtin; refine wpList_append_fresh rfl _ (.tmp 3) 22 rfl 3 i0 (.int .i64 0) 1 8 Tryd.underlying22 hi hz0 hz1 hz2 rfl (by decide) a n cap ws rfl rfl HL.out HN.out h1 h63 hby ?_)
  intro a' c' w1 hown hb
  have HR := hide (HF.out _ _ _ hown hb)
  clear hown hb
  go_wp2
  go_ret
  exact HR.out

end Go.Proofs.YthfdgdfnflilfaaDoor

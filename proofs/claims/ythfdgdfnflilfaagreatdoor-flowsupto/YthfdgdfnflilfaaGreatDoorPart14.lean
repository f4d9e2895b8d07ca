/- Part 14: Race9, Race10, Race11, KeepM, Make3, Make4, Make5. -/
import Derived.Deep.LoopGhost
import Derived.Test.YthfdgdfnflilfaaGreatDoorPart13
/- Package millrace: Flow. -/
namespace Go.Proofs.YthfdgdfnflilfaaGreatDoor
open Go.RowKit Go.Conc

/-- What a race's memory has become. -/
structure Went (L : Lay) (w : World) (N : Net) (R : Rc) (w' : World) : Prop where
  at' : ∃ L', RaceAt L' w' N R ∧ Grew L N w L' ∧ Fr (Foot L N) w w'

theorem Grew.trans {L L1 L2 : Lay} {N : Net} {w w1 : World} (h : Grew L N w L1) (hs : w.heap.size ≤ w1.heap.size) (k : Grew L1 N w1 L2) : Grew L N w L2 := by
  obtain ⟨⟨a1, a2, a3, a4, a5⟩, a⟩ := h
  obtain ⟨⟨b1, b2, b3, b4, b5⟩, b⟩ := k
  refine ⟨⟨b1.trans a1, b2.trans a2, b3.trans a3, b4.trans a4, b5.trans a5⟩, fun x hx => ?_⟩
  rcases b x hx with h1 | h1
  · exact a x h1
  · exact Or.inr (Nat.le_trans hs h1)

theorem went_next {L L1 : Lay} {N : Net} {w w1 w2 : World} {R2 : Rc} (g : Grew L N w L1) (f : Fr (Foot L N) w w1) (h : ∃ L2, RaceAt L2 w2 N R2 ∧ Grew L1 N w1 L2 ∧ Fr (Foot L1 N) w1 w2) : Went L w N R2 w2 := by
  obtain ⟨L2, r2, g2, f2⟩ := h
  refine ⟨L2, r2, g.trans f.size g2, f.trans f2 fun x hx hh => ?_⟩
  rcases g.2 x hh with h1 | h1
  · exact h1
  · omega

theorem Went.below {L : Lay} {N : Net} {w w1 w2 : World} {R : Rc} (h : Went L w N R w1) (hb : Below w1.heap.size w1 w2) : Went L w N R w2 := by
  obtain ⟨L1, r, g, f⟩ := h.at'
  exact went_next g f ⟨L1, r.below hb, Grew.refl _ _ _, Fr.of_below hb⟩

theorem Went.refl {L : Lay} {N : Net} {w : World} {R : Rc} (h : RaceAt L w N R) : Went L w N R w := ⟨L, h, Grew.refl _ _ _, Fr.refl _ _⟩

/-! ### The model's streams behind a step, behind a growth -/
theorem doStep_s {N : Net} {R : Rc} {k s : Nat} (hs : s < R.S.length) : ((doStep N R k).s s).room = (R.s s).room ∧ ((doStep N R k).s s).words.length ≤ (R.s s).words.length + 1 := by
  cases hi : insAt N k (R.w k) with
  | none => simp [doStep, hi]
  | some i =>
    rw [doStep_some hi, step_s _ _ hs]
    split
    · simp
    · split
      · simp
      · simp

theorem growS_s (R : Rc) (t s : Nat) (ht : t < R.S.length) : ((growS R t).s s).room = (R.s s).room + (if s = t then 1 else 0) := by
  by_cases e : s = t
  · subst e
    have : (growS R s).s s = { R.s s with room := (R.s s).room + 1 } := getD_set_self _ _ _ _ ht
    rw [this, if_pos rfl]
  · have : (growS R t).s s = R.s s := getD_set_ne _ _ _ _ _ (fun e' => e e'.symm)
    rw [this, if_neg e]; rfl

/-- How often a race's streams may still grow. -/
def slack (N : Net) (R : Rc) : Nat := ((List.range N.streams.length).map fun s => 40 - (R.s s).room).sum

theorem sum_map_congr (l : List Nat) (f g : Nat → Nat) (h : ∀ x ∈ l, f x = g x) : (l.map f).sum = (l.map g).sum := by
  rw [List.map_congr_left h]
theorem sum_map_lt (f g : Nat → Nat) (t : Nat) : ∀ n, t < n → (∀ x, x < n → f x ≤ g x) → f t < g t → ((List.range n).map f).sum < ((List.range n).map g).sum := by
  intro n
  induction n with
  | zero => intro h; omega
  | succ n ih =>
    intro ht hle hlt
    rw [List.range_succ, List.map_append, List.map_append, List.sum_append, List.sum_append]
    simp only [List.map_cons, List.map_nil, List.sum_cons, List.sum_nil]
    by_cases e : t = n
    · subst e
      have : ((List.range t).map f).sum ≤ ((List.range t).map g).sum := by
        have h1 : ∀ m, m ≤ t → ((List.range m).map f).sum ≤ ((List.range m).map g).sum := by
          intro m
          induction m with
          | zero => intro _; simp
          | succ m ihm =>
            intro hm
            rw [List.range_succ, List.map_append, List.map_append, List.sum_append, List.sum_append]
            simp only [List.map_cons, List.map_nil, List.sum_cons, List.sum_nil]
            have := ihm (by omega)
            have := hle m (by omega)
            omega
        exact h1 t (Nat.le_refl _)
      omega
    · have := ih (by omega) (fun x hx => hle x (by omega)) hlt
      have := hle n (by omega)
      omega

theorem slack_step {N : Net} {R : Rc} {k : Nat} (hl : R.S.length = N.streams.length) : slack N (doStep N R k) = slack N R := by
  refine sum_map_congr _ _ _ fun s hs => ?_
  rw [(doStep_s (by rw [hl]; exact List.mem_range.1 hs)).1]

theorem slack_grow {N : Net} {R : Rc} {t : Nat} (hl : R.S.length = N.streams.length) (ht : t < N.streams.length) (hr : (R.s t).room < 40) : slack N (growS R t) < slack N R := by
  refine sum_map_lt _ _ t _ ht (fun x hx => ?_) ?_
  · rw [growS_s _ _ _ (by omega)]; omega
  · rw [growS_s _ _ _ (by omega), if_pos rfl]; omega

/-! ### Flow -/
inductive Star {α : Type} (r : α → α → Prop) : α → α → Prop
  | refl {a : α} : Star r a a
  | head {a b c : α} : r a b → Star r b c → Star r a c

theorem Star.tail {α : Type} {r : α → α → Prop} {a b c : α} (h : Star r a b) (k : r b c) : Star r a c := by
  induction h with
  | refl => exact .head k .refl
  | head h1 _ ih => exact .head h1 (ih k)

theorem Star.end_unique {α : Type} {r : α → α → Prop} (det : ∀ a b c, r a b → r a c → b = c) {a b c : α} (h : Star r a b) (hb : ∀ x, ¬ r b x) (k : Star r a c) (hc : ∀ x, ¬ r c x) : b = c := by
  induction h with
  | refl =>
    cases k with
    | refl => rfl
    | head h1 _ => exact absurd h1 (hb _)
  | head h1 _ ih =>
    cases k with
    | refl => exact absurd h1 (hc _)
    | head h2 k2 =>
      have := det _ _ _ h1 h2
      subst this
      exact ih hb k2

/-- One round of Flow. -/
inductive FStep (N : Net) (m : Nat) : Nat × Rc → Nat × Rc → Prop
  | step {d : Nat} {S : Rc} {k : Nat} : d < m → firstGo N S N.workers.length = some k → FStep N m (d, S) (d + 1, doStep N S k)
  | grow {d : Nat} {S : Rc} {t : Nat} : d < m → firstGo N S N.workers.length = none → Grows N S t 0 (some t) → FStep N m (d, S) (d, growS S t)

/-- How a race flows: so many steps done, and what has become of it. -/
def FlowTo (N : Net) (m : Nat) (R : Rc) (d : Nat) (S : Rc) : Prop := Star (FStep N m) (0, R) (d, S)

/-- Where Flow ends. -/
def FlowEnd (N : Net) (R : Rc) (m : Nat) (d : Nat) (b : Int) (S : Rc) : Prop :=
  FlowTo N m R d S ∧ ((d = m ∧ b = 0) ∨ (d < m ∧ firstGo N S N.workers.length = none ∧ ∃ a, Grows N S a b none))

theorem grows_one {N : Net} {R : Rc} {a a' b b' : Int} {o o' : Option Nat} (h : Grows N R a b o) (k : Grows N R a' b' o') : a = a' ∧ b = b' ∧ o = o' := by
  cases h with
  | goes h1 =>
    cases k with
    | goes => exact ⟨rfl, rfl, rfl⟩
    | none => exact ⟨rfl, rfl, rfl⟩
    | full k1 => rw [h1] at k1; cases k1
    | grows k1 => rw [h1] at k1; cases k1
  | none h1 =>
    cases k with
    | goes => exact ⟨rfl, rfl, rfl⟩
    | none => exact ⟨rfl, rfl, rfl⟩
    | full k1 k2 => have := h1 _ k2.1; rw [k2.2.1] at this; cases this
    | grows k1 k2 => have := h1 _ k2.1; rw [k2.2.1] at this; cases this
  | full h1 h2 h3 =>
    cases k with
    | goes k1 => rw [h1] at k1; cases k1
    | none k1 => have := k1 _ h2.1; rw [h2.2.1] at this; cases this
    | full => exact ⟨rfl, rfl, rfl⟩
    | grows k1 k2 k3 => have := h2.unique k2; subst this; omega
  | grows h1 h2 h3 =>
    cases k with
    | goes k1 => rw [h1] at k1; cases k1
    | none k1 => have := k1 _ h2.1; rw [h2.2.1] at this; cases this
    | full k1 k2 k3 => have := h2.unique k2; subst this; omega
    | grows k1 k2 k3 => have := h2.unique k2; subst this; exact ⟨rfl, rfl, rfl⟩

theorem fstep_det {N : Net} {m : Nat} : ∀ a b c, FStep N m a b → FStep N m a c → b = c := by
  intro a b c h k
  cases h with
  | step h1 h2 =>
    cases k with
    | step k1 k2 => rw [h2] at k2; cases k2; rfl
    | grow k1 k2 => rw [h2] at k2; cases k2
  | grow h1 h2 h3 =>
    cases k with
    | step k1 k2 => rw [h2] at k2; cases k2
    | grow k1 k2 k3 => have := (grows_one h3 k3).2.2; cases this; rfl

theorem FlowEnd.stops {N : Net} {R : Rc} {m d : Nat} {b : Int} {S : Rc} (h : FlowEnd N R m d b S) : ∀ x, ¬ FStep N m (d, S) x := by
  intro x hx
  rcases h.2 with ⟨h1, -⟩ | ⟨h1, h2, a, h3⟩
  · cases hx with
    | step k1 => omega
    | grow k1 => omega
  · cases hx with
    | step k1 k2 => rw [h2] at k2; cases k2
    | grow k1 k2 k3 => have := (grows_one h3 k3).2.2; cases this

theorem FlowEnd.unique {N : Net} {R : Rc} {m d d' : Nat} {b b' : Int} {S S' : Rc} (h : FlowEnd N R m d b S) (k : FlowEnd N R m d' b' S') : d = d' ∧ b = b' ∧ S = S' := by
  have := Star.end_unique fstep_det h.1 h.stops k.1 k.stops
  cases this
  refine ⟨rfl, ?_, rfl⟩
  rcases h.2 with ⟨h1, h2⟩ | ⟨h1, h2, a, h3⟩
  · rcases k.2 with ⟨k1, k2⟩ | ⟨k1, -⟩
    · rw [h2, k2]
    · omega
  · rcases k.2 with ⟨k1, k2⟩ | ⟨k1, k2, a', k3⟩
    · omega
    · exact (grows_one h3 k3).2.1

theorem grows_err {N : Net} {R : Rc} {a b : Int} (h : Grows N R a b none) : b = 3 ∨ b = 4 := by
  cases h <;> simp
theorem grows_ok {N : Net} {R : Rc} {a b : Int} {t : Nat} (h : Grows N R a b (some t)) : a = t ∧ b = 0 ∧ t < N.streams.length ∧ (R.s t).room < 40 := by
  cases h with
  | grows h1 h2 h3 => exact ⟨rfl, rfl, h2.1, h3⟩

theorem goes_of_first {N : Net} {R : Rc} {n : Nat} (h : firstGo N R n = none) : goesB N R n = false := by
  simp only [firstGo, List.find?_eq_none] at h
  exact List.any_eq_false.2 h

/-- What a race's streams are along a flow. -/
structure Held (N : Net) (R : Rc) (d : Nat) (S : Rc) : Prop where
  len : S.S.length = N.streams.length
  room : RoomR N S
  words : ∀ s, s < N.streams.length → (S.s s).words.length ≤ (R.s s).words.length + d

theorem Held.step {N : Net} {R S : Rc} {d k : Nat} (h : Held N R d S) : Held N R (d + 1) (doStep N S k) := by
  refine ⟨?_, fun s hs => ?_, fun s hs => ?_⟩
  · cases hi : insAt N k (S.w k) with
    | none => simp [doStep, hi, h.len]
    | some i => rw [doStep_some hi]; rw [nextS_length]; exact h.len
  · rw [(doStep_s (by rw [h.len]; exact hs)).1]; exact h.room s hs
  · have := (doStep_s (N := N) (R := S) (k := k) (s := s) (by rw [h.len]; exact hs)).2
    have := h.words s hs
    omega

theorem Held.grow {N : Net} {R S : Rc} {d t : Nat} (h : Held N R d S) (ht : t < N.streams.length) (hr : (S.s t).room < 40) : Held N R d (growS S t) := by
  refine ⟨by simp [growS, h.len], fun s hs => ?_, fun s hs => ?_⟩
  · rw [growS_s _ _ _ (by rw [h.len]; exact ht)]
    have := h.room s hs
    split
    · rename_i e; subst e; omega
    · omega
  · rw [(grow_s S t s).1]; exact h.words s hs

set_option maxHeartbeats 1000000 in
theorem rflow_out {p : Nat} {w : World} (most : Int) (h : most < 0 ∨ 100000 < most) :
    Calls Tryz.prog 38 #[.pointer (some ⟨p, 0, none⟩), .int .i64 most] w fun e w' => e = .returned (.tuple #[.int .i64 0, .int .i64 2]) ∧ w' = w := by
  by_cases h0 : most < 0
  · have h0' : decide (most < 0) = true := by simpa using h0
    go_enter Tryz.func38, Tryz.ntmps38
    go_wp2
    go_ret2
    exact ⟨rfl, rfl⟩
  · have h1 : 100000 < most := h.resolve_left h0
    have h0' : decide (most < 0) = false := by simpa using h0
    have h1' : decide (100000 < most) = true := by simpa using h1
    go_enter Tryz.func38, Tryz.ntmps38
    go_wp2
    go_ret2
    exact ⟨rfl, rfl⟩

set_option maxRecDepth 100000 in
set_option maxHeartbeats 1000000 in
theorem rflow_calls {L : Lay} {w : World} {N : Net} {R : Rc} (h : RaceAt L w N R) (hro : RoomR N R) (hw : ∀ s, s < N.streams.length → (R.s s).words.length + 100000 < 4398046511104) (m : Nat) (hm : m ≤ 100000) :
    Calls Tryz.prog 38 #[.pointer (some ⟨L.p, 0, none⟩), .int .i64 m] w fun e w' =>
      ∃ (d : Nat) (b : Int) (S : Rc), FlowEnd N R m d b S ∧ e = .returned (.tuple #[.int .i64 (d : Nat), .int .i64 b]) ∧ Went L w N S w' := by
  have HF : Hid (∀ d wx S, Held N R d S → d ≤ 100000 → Went L w N S wx → Calls Tryz.prog 71 #[.pointer (some ⟨L.p, 0, none⟩)] wx fun e w' => e = .returned (.bool (firstGo N S N.workers.length).isSome) ∧ ((firstGo N S N.workers.length = none ∧ Went L w N S w') ∨ (∃ k, firstGo N S N.workers.length = some k ∧ Went L w N (doStep N S k) w'))) := fun d wx S hh hd hq => by
    obtain ⟨L1, r, g, f⟩ := hq.at'
    rw [← g.1.1]
    refine (stepFirst_calls r (fun s hs => by have := hh.words s hs; have := hw s hs; omega)).mono fun e w' hx => ⟨hx.1, ?_⟩
    rcases hx.2 with ⟨h1, h2⟩ | ⟨k, -, -, h1, h2⟩
    · exact Or.inl ⟨h1, hq.below h2⟩
    · exact Or.inr ⟨k, h1, went_next g f h2⟩
  have HG : Hid (∀ d wx S, Held N R d S → Went L w N S wx → Calls Tryz.prog 35 #[.pointer (some ⟨L.p, 0, none⟩)] wx fun e w' => ∃ a b, e = .returned (.tuple #[.int .i64 a, .int .i64 b]) ∧ ((Grows N S a b none ∧ Went L w N S w') ∨ (∃ t, b = 0 ∧ Grows N S a b (some t) ∧ Went L w N (growS S t) w'))) := fun d wx S hh hq => by
    obtain ⟨L1, r, g, f⟩ := hq.at'
    rw [← g.1.1]
    refine (rgrow_calls r hh.room).mono fun e w' hx => ?_
    obtain ⟨a, b, o, h1, h2, h3⟩ := hx
    refine ⟨a, b, h2, ?_⟩
    cases o with
    | none => exact Or.inl ⟨h1, hq.below h3⟩
    | some t => exact Or.inr ⟨t, (grows_ok h1).2.1, h1, went_next g f h3⟩
  have HH0 : Hid (Held N R 0 R) := ⟨h.lenS, hro, fun s hs => Nat.le_refl _⟩
  have HW0 := hide (Went.refl h)
  have h0' : decide ((m : Int) < 0) = false := by simp
  have h1' : decide ((100000 : Int) < (m : Int)) = false := by simp; omega
  clear hw hro h
  generalize Went L w N = Wn at *
  go_enter Tryz.func38, Tryz.ntmps38
  go_wp2
  clear h0' h1'
  go_loopg [6] (m + slack N R) (fun g n wr => ∃ (d : Nat) (S : Rc), n = .int .i64 d ∧ d ≤ m ∧ g = (m - d) + slack N S ∧ FlowTo N m R d S ∧ Held N R d S ∧ Wn S wr)
  case atStart => exact ⟨0, R, rfl, Nat.zero_le _, by omega, .refl, HH0.out, HW0.out⟩
  case round =>
    obtain ⟨d, S, rfl, hd, hg, hft, hhe, hwn⟩ := hrel
    have HD := hide hg
    have HT := hide hft
    have HE := hide hhe
    clear hg hft hhe
    by_cases hlt : d < m
    · have hlt' : (d : Int) < (m : Int) := by omega
      have HF1 := hide (HF.out d wr S HE.out (by omega) hwn)
      clear HF
      cases hf : firstGo N S N.workers.length with
      | none =>
        have HFi := hide hf
        rw [hf] at HF1
        clear hf
        go_wp2_with fail
        refine (unhide HF1).mono ?_
        rintro e w1 ⟨rfl, hx⟩
        have hw1 : Wn S w1 := by
          rcases hx with ⟨-, hx⟩ | ⟨k, hk, -⟩
          · exact hx
          · cases hk
        have HG1 := hide (HG.out d w1 S HE.out hw1)
        clear hx HG HF1
        go_wp2_with fail
        refine (unhide HG1).mono ?_
        rintro e w2 ⟨a, b, rfl, ⟨hgr, hw2⟩ | ⟨t, rfl, hgr, hw2⟩⟩
        · have hb : (b != 0) = true := by rcases grows_err hgr with rfl | rfl <;> rfl
          have HGr := hide hgr
          clear hgr
          go_wp2
          go_ret2
          exact ⟨d, b, S, ⟨HT.out, Or.inr ⟨hlt, HFi.out, a, HGr.out⟩⟩, rfl, hw2⟩
        · obtain ⟨ha, -, htl, htr⟩ := grows_ok hgr
          subst ha
          have HGr := hide hgr
          have HSl := hide (slack_grow HE.out.len htl htr)
          have HHe := hide (HE.out.grow htl htr)
          clear hgr htl htr
          go_wp2
          go_roundg ((m - d) + slack N (growS S t))
          case measure => have := HD.out; have := HSl.out; omega
          case rel => exact ⟨d, growS S t, rfl, hd, rfl, .tail HT.out (.grow hlt HFi.out HGr.out), HHe.out, hw2⟩
      | some k =>
        have HFi := hide hf
        rw [hf] at HF1
        clear hf
        go_wp2_with fail
        refine (unhide HF1).mono ?_
        rintro e w1 ⟨rfl, hx⟩
        have hw1 : Wn (doStep N S k) w1 := by
          rcases hx with ⟨hk, -⟩ | ⟨k', hk, hx⟩
          · cases hk
          · cases hk; exact hx
        have HSl := hide (slack_step (k := k) HE.out.len)
        clear hx HG HF1
        go_wp2
        go_roundg ((m - (d + 1)) + slack N (doStep N S k))
        case measure => have := HD.out; have := HSl.out; omega
        case rel => exact ⟨d + 1, doStep N S k, by go_num, by omega, rfl, .tail HT.out (.step hlt HFi.out), HE.out.step, hw1⟩
    · have e : d = m := by omega
      subst e
      go_wp2
      go_ret2
      exact ⟨d, 0, S, ⟨HT.out, Or.inl ⟨rfl, rfl⟩⟩, rfl, hwn⟩

end Go.Proofs.YthfdgdfnflilfaaGreatDoor
/- Package millrace: History, Room, Look of what is not there. -/
namespace Go.Proofs.YthfdgdfnflilfaaGreatDoor
open Go.RowKit Go.Conc

set_option maxHeartbeats 1000000 in
theorem rhistory_calls {L : Lay} {w : World} {N : Net} {R : Rc} (h : RaceAt L w N R) (s : Nat) (hs : s < N.streams.length) :
    Calls Tryz.prog 11 #[.pointer (some ⟨L.p, 0, none⟩), .int .i64 s] w fun e w' => ∃ a' c', e = .returned (.tuple #[.slice a' (histOf (srcd N s) (R.s s)).length c', .int .i64 0]) ∧
      w'.ownsRow w.heap.size 3 1 (.slice a' (histOf (srcd N s) (R.s s)).length c') (histOf (srcd N s) (R.s s)).length (intRow (histOf (srcd N s) (R.s s))) ∧ Below w.heap.size w w' := by
  have hin : inB (s : Int) N.streams.length = true := by simp [inB]; omega
  have HH := hide (hasStream_calls h s)
  rw [hin] at HH
  have hlen := (valid_counts h.ok).2.1
  obtain ⟨ga, ca, gw, cw, hva, hvw, hc⟩ := h.forms
  obtain ⟨c0, c1, c2, -⟩ := hc w (Below.refl _ _)
  have d0 := c2 s hs
  have HP := hide (shistory_calls (h.env.at' s hs))
  rw [hva] at c0
  have hk0 : (0 : Int) ≤ (s : Int) := by omega
  have hk1 : (s : Int) < (N.streams.length : Int) := by omega
  clear hc c1 c2 hin h hva hvw
  generalize intRow (histOf (srcd N s) (R.s s)) = ir at *
  generalize (histOf (srcd N s) (R.s s)).length = hl at *
  generalize N.streams.length = sl at *
  go_enter Tryz.func11, Tryz.ntmps11
  go_wp2_with fail
  refine (unhide HH).mono ?_
  rintro e w1 ⟨rfl, rfl⟩
  go_wp2_with fail
  refine (unhide HP).mono ?_
  rintro e w2 ⟨a', c', rfl, hown, hb⟩
  have HO := hide hown
  have HB := hide hb
  clear hown hb
  go_wp2
  go_ret2
  exact ⟨a', c', rfl, HO.out, HB.out⟩

set_option maxHeartbeats 1000000 in
theorem rhistory_out {L : Lay} {w : World} {N : Net} {R : Rc} (h : RaceAt L w N R) (k : Int) (hk : inB k N.streams.length = false) :
    Calls Tryz.prog 11 #[.pointer (some ⟨L.p, 0, none⟩), .int .i64 k] w fun e w' => e = .returned (.tuple #[.slice none 0 0, .int .i64 2]) ∧ w' = w := by
  have HH := hide (hasStream_calls h k)
  rw [hk] at HH
  go_enter Tryz.func11, Tryz.ntmps11
  go_wp2_with fail
  refine (unhide HH).mono ?_
  rintro e w1 ⟨rfl, rfl⟩
  go_wp2
  go_ret2
  exact ⟨rfl, rfl⟩

set_option maxHeartbeats 1000000 in
theorem rroom_out {L : Lay} {w : World} {N : Net} {R : Rc} (h : RaceAt L w N R) (k : Int) (hk : inB k N.streams.length = false) :
    Calls Tryz.prog 66 #[.pointer (some ⟨L.p, 0, none⟩), .int .i64 k] w fun e w' => e = .returned (.tuple #[.int .i64 0, .int .i64 0, .int .i64 2]) ∧ w' = w := by
  have HH := hide (hasStream_calls h k)
  rw [hk] at HH
  go_enter Tryz.func66, Tryz.ntmps66
  go_wp2_with fail
  refine (unhide HH).mono ?_
  rintro e w1 ⟨rfl, rfl⟩
  go_wp2
  go_ret3
  exact ⟨rfl, rfl⟩

end Go.Proofs.YthfdgdfnflilfaaGreatDoor
/- Package millrace: Run. -/
namespace Go.Proofs.YthfdgdfnflilfaaGreatDoor
open Go.RowKit Go.Conc

/-- What comes of a schedule. -/
def runM (N : Net) : List Int → Nat → Rc → Nat × Int × Rc
  | [], d, R => (d, 0, R)
  | k :: ks, d, R => if inB k N.workers.length then (if stateOf N R k.toNat = 1 then runM N ks (d + 1) (doStep N R k.toNat) else runM N ks d R) else (d, 2, R)

set_option maxRecDepth 100000 in
set_option maxHeartbeats 1000000 in
theorem rrun_calls {L : Lay} {w : World} {N : Net} {R : Rc} (h : RaceAt L w N R) {l : List Int} {v : Value} (hv : IntsAt w v l) (hsep : ∀ b, v.ownBlock = some b → ¬ Foot L N b) (hro : RoomR N R) (hw : ∀ s, s < N.streams.length → (R.s s).words.length + l.length < 4398046511104) :
    Calls Tryz.prog 10 #[.pointer (some ⟨L.p, 0, none⟩), v] w fun e w' =>
      e = .returned (.tuple #[.int .i64 (runM N l 0 R).1, .int .i64 (runM N l 0 R).2.1]) ∧ Went L w N (runM N l 0 R).2.2 w' := by
  obtain ⟨a, cap, rfl, hn, hcap, hc⟩ := hv.openD
  have HC : Hid (∀ wr, Fr (Foot L N) w wr → ∀ k, k < l.length → ∃ b off, a = some ⟨b, off, none⟩ ∧ wr.cell? ⟨b, off + k, none⟩ = some (.int .i64 (l.getD k 0))) := fun wr hf k hk => by
    obtain ⟨b, off, ha, hlt, hd⟩ := hc k hk
    refine ⟨b, off, ha, ?_⟩
    have e := hd w (Below.refl _ _)
    have hb : b < w.heap.size := lt_of_cell e
    rw [← e]
    exact World.cell?_of_block (w := w) (hf.block b hb (hsep b (by rw [ha]; rfl)))
  have HO : Hid (∀ d wx S, Held N R d S → d ≤ l.length → Went L w N S wx → ∀ x : Int, inB x N.workers.length = false → Calls Tryz.prog 19 #[.pointer (some ⟨L.p, 0, none⟩), .int .i64 x] wx fun e w' => e = .returned (.tuple #[.int .i64 0, .int .i64 2]) ∧ Went L w N S w') := fun d wx S hh hd hq x hx => by
    obtain ⟨L1, r, g, f⟩ := hq.at'
    rw [← g.1.1]
    exact (rstep_out r x hx).mono fun e w' hx => ⟨hx.1, by rw [hx.2]; exact hq⟩
  have HS : Hid (∀ d wx S, Held N R d S → d < l.length → Went L w N S wx → ∀ k : Nat, k < N.workers.length → Calls Tryz.prog 19 #[.pointer (some ⟨L.p, 0, none⟩), .int .i64 k] wx fun e w' => e = .returned (.tuple #[.int .i64 (stateOf N S k), .int .i64 0]) ∧ Went L w N (if stateOf N S k = 1 then doStep N S k else S) w') := fun d wx S hh hd hq k hk => by
    obtain ⟨L1, r, g, f⟩ := hq.at'
    rw [← g.1.1]
    refine (rstep_calls r k hk (fun s hs => by have := hh.words s hs; have := hw s hs; omega)).mono fun e w' hx => ⟨hx.1, ?_⟩
    rcases hx.2 with ⟨h1, h2⟩ | ⟨h1, h2⟩
    · rw [if_neg h1]; exact hq.below h2
    · rw [if_pos h1]; exact went_next g f h2
  have HH0 : Hid (Held N R 0 R) := ⟨h.lenS, hro, fun s hs => Nat.le_refl _⟩
  have HW0 := hide (Went.refl h)
  have HFr : Hid (∀ S wx, Went L w N S wx → Fr (Foot L N) w wx) := fun S wx hq => by obtain ⟨L1, r, g, f⟩ := hq.at'; exact f
  have HR : Hid (∀ k (hk : k < l.length) d S, runM N (l.drop k) d S = if inB (l.getD k 0) N.workers.length then (if stateOf N S (l.getD k 0).toNat = 1 then runM N (l.drop (k + 1)) (d + 1) (doStep N S (l.getD k 0).toNat) else runM N (l.drop (k + 1)) d S) else (d, 2, S)) := fun k hk d S => by
    rw [List.drop_eq_getElem_cons hk, getD_eq _ _ _ hk]; rfl
  have HR0 : Hid (runM N (l.drop 0) 0 R = runM N l 0 R) := by rw [List.drop_zero]; rfl
  have HRn : Hid (∀ k d S, ¬ k < l.length → runM N (l.drop k) d S = (d, 0, S)) := fun k d S hk => by
    rw [List.drop_eq_nil_of_le (by omega)]; rfl
  clear hw hro h hsep hc hv
  generalize Went L w N = Wn at *
  generalize runM N l 0 R = res at *
  generalize hl : l.length = n at *
  have HL := hide hl
  clear hl
  go_enter Tryz.func10, Tryz.ntmps10
  go_wp2
  go_loopw [6, 13] (fun dn i wr => ∃ (k d : Nat) (S : Rc), k ≤ n ∧ d ≤ k ∧ i = .int .i64 k ∧ dn = .int .i64 d ∧ Held N R d S ∧ Wn S wr ∧ runM N (l.drop k) d S = res) (fun _ i _ => n - (intOf i).toNat)
  case atStart => exact ⟨0, 0, R, Nat.zero_le _, Nat.le_refl _, rfl, rfl, HH0.out, HW0.out, HR0.out⟩
  case round =>
    obtain ⟨k, d, S, hk, hd, rfl, rfl, hhe, hwn, hres⟩ := hrel
    have HE := hide hhe
    have HQ := hide hres
    clear hhe hres
    by_cases hlt : k < n
    · obtain ⟨b, off, rfl, e0⟩ := HC.out wr (HFr.out S wr hwn) k hlt
      have HQ1 := hide (HR.out k hlt d S)
      have hk0 : (0 : Int) ≤ (k : Int) := by omega
      have hk1 : (k : Int) < (n : Int) := by omega
      have hd1 : (d : Int) + 1 < 9223372036854775807 := by omega
      clear HR HC
      generalize l.getD k 0 = x at *
      cases hin : inB x N.workers.length
      · have HO1 := hide (HO.out d wr S HE.out (by omega) hwn x hin)
        have HQ2 : Hid (res = (d, 2, S)) := by
          rw [← HQ.out, HQ1.out, hin]; rfl
        clear HQ1 HO HS
        go_wp2_with fail
        refine (unhide HO1).mono ?_
        rintro e w1 ⟨rfl, hw1⟩
        go_wp2
        go_ret2
        exact ⟨by rw [HQ2.out]; rfl, by rw [HQ2.out]; exact hw1⟩
      · obtain ⟨j, rfl⟩ : ∃ j : Nat, x = j := ⟨x.toNat, by simp [inB] at hin; omega⟩
        have hj : j < N.workers.length := by simp [inB] at hin; omega
        have HS1 := hide (HS.out d wr S HE.out (by omega) hwn j hj)
        have HQ2 : Hid (res = if stateOf N S j = 1 then runM N (l.drop (k + 1)) (d + 1) (doStep N S j) else runM N (l.drop (k + 1)) d S) := by
          rw [← HQ.out, HQ1.out, hin]; simp [Hid]
        clear HQ1 HO HS hin hj
        by_cases hy : stateOf N S j = 1
        · rw [hy] at HS1
          have HQ3 : Hid (runM N (l.drop (k + 1)) (d + 1) (doStep N S j) = res) := by rw [HQ2.out, if_pos hy]; rfl
          clear HQ2 hy
          simp only [if_true] at HS1
          go_wp2_with fail
          refine (unhide HS1).mono ?_
          rintro e w1 ⟨rfl, hw1⟩
          go_wp2
          go_roundw
          case rel => exact ⟨k + 1, d + 1, doStep N S j, by omega, by omega, by go_num, by go_num, HE.out.step, hw1, HQ3.out⟩
          case measure => simp [intOf]; omega
        · have hz : ((stateOf N S j : Int) == 1) = false := by simp; omega
          have HQ3 : Hid (runM N (l.drop (k + 1)) d S = res) := by rw [HQ2.out, if_neg hy]; rfl
          rw [if_neg hy] at HS1
          clear HQ2 hy
          generalize stateOf N S j = sv at *
          go_wp2_with fail
          refine (unhide HS1).mono ?_
          rintro e w1 ⟨rfl, hw1⟩
          go_wp2
          go_roundw
          case rel => exact ⟨k + 1, d, S, by omega, by omega, by go_num, rfl, HE.out, hw1, HQ3.out⟩
          case measure => simp [intOf]; omega
    · have HQ2 : Hid (res = (d, 0, S)) := by rw [← HQ.out, HRn.out k d S hlt]; rfl
      clear HR HC
      go_wp2
      go_ret2
      exact ⟨by rw [HQ2.out]; rfl, by rw [HQ2.out]; exact hwn⟩

end Go.Proofs.YthfdgdfnflilfaaGreatDoor
/- The two races of the head of millracekeep, in the model. No program here. -/
namespace Go.Proofs.YthfdgdfnflilfaaGreatDoor
open Go.RowKit Go.Conc

def netOne : Net := ⟨[2, 1], [⟨0, [5, 6]⟩], [[⟨1, 0, 0, 4⟩, ⟨4, 0, 0, 0⟩, ⟨2, 0, 1, 0⟩, ⟨9, 0, 0, 0⟩]]⟩
def netTwo : Net := ⟨[1, 1], [], [[⟨2, 0, 0, 0⟩, ⟨2, 0, 0, 0⟩, ⟨2, 0, 1, 0⟩], [⟨1, 0, 1, 0⟩, ⟨1, 0, 0, 0⟩, ⟨1, 0, 0, 0⟩]]⟩

theorem netOne_ok : validB netOne = true := by decide
theorem netTwo_ok : validB netTwo = true := by decide

/-- So many steps of worker 0. -/
def oneAt : Nat → Rc
  | 0 => initR netOne netOne.streams
  | i + 1 => doStep netOne (oneAt i) 0

theorem oneAt_goes : ∀ i, i < 9 → firstGo netOne (oneAt i) netOne.workers.length = some 0 := by
  intro i hi
  have : i = 0 ∨ i = 1 ∨ i = 2 ∨ i = 3 ∨ i = 4 ∨ i = 5 ∨ i = 6 ∨ i = 7 ∨ i = 8 := by omega
  rcases this with rfl | rfl | rfl | rfl | rfl | rfl | rfl | rfl | rfl <;> decide +kernel
theorem oneAt_ends : firstGo netOne (oneAt 9) netOne.workers.length = none := by decide +kernel
theorem oneAt_hist : histOf (srcd netOne 1) ((oneAt 9).s 1) = [10, 12] := by decide +kernel

theorem flow_to (i : Nat) (hi : i ≤ 9) : FlowTo netOne 100 (initR netOne netOne.streams) i (oneAt i) := by
  induction i with
  | zero => exact .refl
  | succ i ih => exact (ih (by omega)).tail (FStep.step (by omega) (oneAt_goes i (by omega)))

theorem flow_one : FlowEnd netOne (initR netOne netOne.streams) 100 9 3 (oneAt 9) := by
  refine ⟨flow_to 9 (Nat.le_refl _), Or.inr ⟨by decide, oneAt_ends, 0, .none fun s hs => ?_⟩⟩
  have : s = 0 ∨ s = 1 := by have : netOne.streams.length = 2 := rfl; omega
  rcases this with rfl | rfl <;> decide +kernel

def twoAt : Rc := doStep netTwo (initR netTwo netTwo.streams) 0
theorem two_a : stateOf netTwo (initR netTwo netTwo.streams) 0 = 1 := by decide +kernel
theorem two_b : stateOf netTwo twoAt 0 = 3 := by decide +kernel
theorem two_c : stateOf netTwo twoAt 1 = 2 := by decide +kernel
theorem two_d : Grows netTwo twoAt (0 : Nat) 0 (some 0) := by
  refine .grows (by decide +kernel) ⟨by decide, by decide +kernel, fun s hs _ => ?_⟩ (by decide +kernel)
  have : s = 0 ∨ s = 1 := by have : netTwo.streams.length = 2 := rfl; omega
  rcases this with rfl | rfl
  · exact Or.inr ⟨rfl, Nat.le_refl _⟩
  · exact Or.inr ⟨by decide +kernel, by decide⟩
theorem two_o : Grows netTwo (growS twoAt 0) 0 3 none := .goes (by decide +kernel)

/-- Rooms of a new race are those of its net. -/
theorem init_room {N : Net} (h : validB N = true) : ∀ s (hs : s < N.streams.length), ((initR N N.streams).s s).room = N.streams[s].toNat ∧ 1 ≤ N.streams[s] ∧ N.streams[s] ≤ 6 := by
  intro s hs
  have h1 : 1 ≤ N.streams[s] ∧ N.streams[s] ≤ 6 := by
    simp only [validB, validStreamsB, Bool.and_eq_true] at h
    have := List.all_eq_true.1 h.1.1.1.2 N.streams[s] (List.getElem_mem hs)
    simpa using this
  refine ⟨?_, h1⟩
  simp [Rc.s, initR, List.getD, hs]
theorem init_roomR {N : Net} (h : validB N = true) : RoomR N (initR N N.streams) := fun s hs => by
  obtain ⟨h1, h2, h3⟩ := init_room h s hs
  rw [h1]; omega
theorem init_words {N : Net} (h : validB N = true) : ∀ s, s < N.streams.length → ((initR N N.streams).s s).words.length ≤ 50 := by
  intro s hs
  have e : ((initR N N.streams).s s).words = if srcd N s then srcWords N s else [] := by simp [Rc.s, initR, List.getD, hs]
  rw [e]
  split
  · have hq : validSourcesB N.sources N.streams.length = true := by
      simp only [validB, Bool.and_eq_true] at h; exact h.1.1.2
    unfold srcWords
    cases hf : N.sources.find? fun x => x.stream == (s : Int) with
    | none => simp
    | some x =>
      have hm := List.mem_of_find?_eq_some hf
      obtain ⟨j, hj, rfl⟩ := List.getElem_of_mem hm
      have := List.all_eq_true.1 hq j (List.mem_range.2 hj)
      rw [getD_eq _ _ _ hj] at this
      simp only [Bool.and_eq_true, decide_eq_true_eq] at this
      simpa using this.1.2
  · simp

end Go.Proofs.YthfdgdfnflilfaaGreatDoor
/- newWorkers: a row of new workers. -/
namespace Go.Proofs.YthfdgdfnflilfaaGreatDoor
open Go.RowKit Go.Conc

theorem Tryz.infoPW : (Tryz.prog.info? 107).map (fun i => (i.zero, i.size, i.bytes)) = some (some (.pointer none), 1, 8) := by kernel_rfl

/-- A row g of pointers whose first k are new workers' (of the programs ws), made above base. -/
structure RowW (base g : Nat) (ws : List (List Ins)) (k : Nat) (wb : Nat → Nat) (VC : Nat → Value) (w : World) : Prop where
  row : ∃ cs : List Value, w.heap[g]? = some (.cells cs.toArray 107 (0, 0)) ∧ cs.length = ws.length ∧ (∀ i, i < k → cs[i]? = some (.pointer (some ⟨wb i, 0, none⟩)))
  wk : ∀ i, i < k → WkAt w (wb i) (VC i) (ws.getD i []) ⟨0, fun _ => 0, 0⟩
  base : base ≤ g ∧ ∀ i, i < k → base ≤ wb i ∧ ∀ q, (VC i).ownBlock = some q → base ≤ q
  inj : ∀ i j, i < j → j < k → wb i < wb j

theorem RowW.below {base g : Nat} {ws : List (List Ins)} {k : Nat} {wb : Nat → Nat} {VC : Nat → Value} {w w' : World} (h : RowW base g ws k wb VC w) (hb : Below w.heap.size w w') : RowW base g ws k wb VC w' := by
  obtain ⟨cs, hg, hl, hc⟩ := h.row
  exact ⟨⟨cs, by rw [hb.block _ (lt_of_blk hg)]; exact hg, hl, hc⟩, fun i hi => (h.wk i hi).below hb, h.base, h.inj⟩

theorem RowW.next {base g : Nat} {ws : List (List Ins)} {k : Nat} {wb : Nat → Nat} {VC : Nat → Value} {w w1 : World} {b : Nat} {vc : Value} (h : RowW base g ws k wb VC w) (hk : k < ws.length)
    (hs : base ≤ w.heap.size) (hb : Below w.heap.size w w1) (hw : WkAt w1 b vc (ws.getD k []) ⟨0, fun _ => 0, 0⟩) (hbb : w.heap.size ≤ b) (hvc : ∀ q, vc.ownBlock = some q → w.heap.size ≤ q) :
    RowW base g ws (k + 1) (fun i => if i = k then b else wb i) (fun i => if i = k then vc else VC i) (w1.setCell ⟨g, k, none⟩ (.pointer (some ⟨b, 0, none⟩))) ∧ w1.cell? ⟨g, k, none⟩ ≠ none ∧ w1.frozen? ⟨g, k, none⟩ = false := by
  have h1 := h.below hb
  obtain ⟨cs, hg, hl, hc⟩ := h1.row
  have stay : ∀ {b' : Nat} {vc' : Value} {c : List Ins}, WkAt w1 b' vc' c ⟨0, fun _ => 0, 0⟩ → WkAt (w1.setCell ⟨g, k, none⟩ (.pointer (some ⟨b, 0, none⟩))) b' vc' c ⟨0, fun _ => 0, 0⟩ := fun hW => by
    refine hW.stays fun y hy => Below.heap_setCell _ _ _ _ ?_
    rcases hy with rfl | hy
    · exact ne_of_types hW.blk hg (by decide)
    · obtain ⟨cur, hcur⟩ := own_block hW.own hy
      exact ne_of_types hcur hg (by decide)
  refine ⟨⟨⟨cs.set k (.pointer (some ⟨b, 0, none⟩)), blk_set hg k _, by simpa using hl, fun i hi => ?_⟩, fun i hi => ?_, ⟨h.base.1, fun i hi => ?_⟩, fun i j hij hj => ?_⟩, ?_, row_frozen hg k⟩
  · by_cases e : i = k
    · subst e; rw [if_pos rfl]; rw [List.getElem?_set_self (by omega)]
    · rw [if_neg e, List.getElem?_set_ne (fun e' => e e'.symm)]; exact hc i (by omega)
  · by_cases e : i = k
    · subst e; rw [if_pos rfl, if_pos rfl]; exact stay hw
    · rw [if_neg e, if_neg e]; exact stay (h1.wk i (by omega))
  · by_cases e : i = k
    · subst e; rw [if_pos rfl, if_pos rfl]; exact ⟨by omega, fun q hq => by have := hvc q hq; omega⟩
    · rw [if_neg e, if_neg e]; exact h.base.2 i (by omega)
  · rw [if_neg (show i ≠ k by omega)]
    by_cases e : j = k
    · rw [if_pos e]
      have := lt_of_blk (h.wk i (by omega)).blk
      omega
    · rw [if_neg e]; exact h.inj i j hij (by omega)
  · have : cs[k]? = some (cs[k]'(by omega)) := List.getElem?_eq_getElem (by omega)
    rw [row_cell hg this]; simp

set_option maxRecDepth 100000 in
set_option maxHeartbeats 1000000 in
theorem newWorkers_calls {n : Net} {v : Value} {w : World} (h : NetAt w v n) (hl6 : n.workers.length ≤ 6) (hl20 : ∀ c ∈ n.workers, c.length ≤ 20) :
    Calls Tryz.prog 25 #[v] w fun e w' => ∃ g wb VC, e = .returned (.slice (some ⟨g, 0, none⟩) n.workers.length n.workers.length) ∧ RowW w.heap.size g n.workers n.workers.length wb VC w' ∧ Below w.heap.size w w' := by
  obtain ⟨vs, vr, vw, rfl, h1, h2, h3⟩ := h
  obtain ⟨sa, sc, rfl⟩ := h1.form
  obtain ⟨ar, cr, rfl⟩ := h2.form
  obtain ⟨aw, cw, rfl, hwn, -, hc⟩ := h3.open
  have hmk := run_make_row' (P := Tryz.prog) 72 107 (.pointer none) 8 Tryz.underlying72 Tryz.infoPW rfl .i64 .i64 n.workers.length (by omega) (by omega)
  rw [madeCells_zrow] at hmk
  have HC : Hid (∀ wr, Below w.heap.size w wr → ∀ k (hk : k < n.workers.length), ∃ b off u cap', aw = some ⟨b, off, none⟩ ∧ wr.cell? ⟨b, off + k, none⟩ = some (.slice u (n.workers.getD k []).length cap') ∧ Calls Tryz.prog 57 #[.slice u (n.workers.getD k []).length cap'] wr fun e w' => NewWk wr (n.workers.getD k []) e w') := fun wr hb k hk => by
    obtain ⟨b, off, u, ha, hcell, hcode⟩ := hc wr hb k hk
    rw [getD_eq _ _ _ hk]
    obtain ⟨ua, uc, rfl⟩ := hcode.form
    exact ⟨b, off, ua, uc, ha, hcell, wnew_calls hcode (hl20 _ (List.getElem_mem hk))⟩
  have HZ : Hid (∀ (w1 : World), RowW w.heap.size w1.heap.size n.workers 0 (fun _ => 0) (fun _ => .bool false) (w1.alloc (.cells (zrow (.pointer none) n.workers.length) 107)) ∨ w1.heap.size < w.heap.size) := fun w1 => by
    rcases Nat.lt_or_ge w1.heap.size w.heap.size with hlt | hge
    · exact Or.inr hlt
    · refine Or.inl ⟨⟨(zrow (.pointer none) n.workers.length).toList, by simpa using heap_alloc_new _ _, by simp [zrow], fun i hi => by omega⟩, fun i hi => by omega, ⟨hge, fun i hi => by omega⟩, fun i j _ hj => by omega⟩
  clear h1 h2 h3 hc hl20
  generalize n.workers = ws at *
  generalize hq : ws.length = wl at *
  have HWL := hide hq
  clear hq
  generalize n.sources.length = rl at *
  generalize n.streams.length = sl at *
  go_enter Tryz.func25, Tryz.ntmps25
  go_wp2
  go_loopw [13] (fun i wr => ∃ (k : Nat) (wb : Nat → Nat) (VC : Nat → Value), k ≤ wl ∧ i = .int .i64 k ∧ Below (w.heap.size + 1) (w.alloc (.cells #[.slice sa sl sc, .slice ar rl cr, .slice aw wl cw] 26)) wr ∧ RowW w.heap.size (w.heap.size + 1) ws k wb VC wr) (fun i _ => wl - (intOf i).toNat)
  case atStart =>
    have hz := HZ.out (w.alloc (.cells #[.slice sa sl sc, .slice ar rl cr, .slice aw wl cw] 26))
    refine ⟨0, fun _ => 0, fun _ => .bool false, Nat.zero_le _, rfl, ?_, ?_⟩
    · have hb0 : Below (w.heap.size + 1) (w.alloc (.cells #[.slice sa sl sc, .slice ar rl cr, .slice aw wl cw] 26)) (w.alloc (.cells #[.slice sa sl sc, .slice ar rl cr, .slice aw wl cw] 26)) := Below.refl _ _
      exact hb0.alloc (by simp) _
    · rcases hz with hz | hz
      · simpa using hz
      · simp at hz; omega
  case round =>
    obtain ⟨k, wb, VC, hk, rfl, hbl, hrow⟩ := hrel
    have hb0 : Below w.heap.size w wr := below_box hbl
    have HB := hide hbl
    have HRo := hide hrow
    by_cases hlt : k < wl
    · obtain ⟨b, off, u, cap', rfl, d0, hnew⟩ := HC.out wr hb0 k hlt
      have HNw := hide hnew
      have HX : Hid (∀ e w1, NewWk wr (ws.getD k []) e w1 → ∃ b1, e = .returned (.pointer (some ⟨b1, 0, none⟩)) ∧ (∃ x, w1.cell? ⟨w.heap.size + 1, k, none⟩ = some x) ∧ w1.frozen? ⟨w.heap.size + 1, k, none⟩ = false ∧
          ∃ wb' VC', Below (w.heap.size + 1) (w.alloc (.cells #[.slice sa sl sc, .slice ar rl cr, .slice (some ⟨b, off, none⟩) wl cw] 26)) (w1.setCell ⟨w.heap.size + 1, k, none⟩ (.pointer (some ⟨b1, 0, none⟩))) ∧ RowW w.heap.size (w.heap.size + 1) ws (k + 1) wb' VC' (w1.setCell ⟨w.heap.size + 1, k, none⟩ (.pointer (some ⟨b1, 0, none⟩)))) := fun e w1 hn => by
        obtain ⟨b1, vc, he, hwk, hb1, hbb, hvc⟩ := hn
        obtain ⟨r1, r2, r3⟩ := hrow.next (by rw [HWL.out]; exact hlt) hb0.size hb1 hwk hbb hvc
        have hsz : w.heap.size + 1 ≤ wr.heap.size := by have := hbl.size; simpa using this
        have hb2 := hbl.trans (hb1.mono hsz)
        refine ⟨b1, he, Option.ne_none_iff_exists'.1 r2, r3, _, _, ?_, r1⟩
        exact hb2.setCell (p := ⟨w.heap.size + 1, k, none⟩) (Nat.le_refl _) _
      have hk0 : (0 : Int) ≤ (k : Int) := by omega
      have hk1 : (k : Int) < (wl : Int) := by omega
      clear hbl hrow hb0 hnew HC HZ hmk
      generalize NewWk wr (ws.getD k []) = NW at *
      generalize (ws.getD k []).length = cl at *
      go_wp2_with fail
      refine (unhide HNw).mono ?_
      intro e w1 hn
      obtain ⟨b1, rfl, ⟨x, hx⟩, hfz, wb', VC', hb', hr'⟩ := HX.out e w1 hn
      have HB' := hide hb'
      have HR' := hide hr'
      clear hb' hr' hn
      go_wp2
      go_roundw
      case rel => exact ⟨k + 1, wb', VC', by omega, by go_num, HB'.out, HR'.out⟩
      case measure => simp [intOf]; omega
    · have e : k = wl := by omega
      subst e
      go_wp2
      go_ret
      exact ⟨w.heap.size + 1, wb, VC, rfl, HRo.out, below_box HB.out⟩

end Go.Proofs.YthfdgdfnflilfaaGreatDoor
/- A row of new streams. -/
namespace Go.Proofs.YthfdgdfnflilfaaGreatDoor
open Go.RowKit Go.Conc

theorem Tryz.infoPS : (Tryz.prog.info? 70).map (fun i => (i.zero, i.size, i.bytes)) = some (some (.pointer none), 1, 8) := by kernel_rfl

def setAt {α : Type} (f : Nat → α) (s : Nat) (x : α) : Nat → α := fun i => if i = s then x else f i
theorem setAt_self {α : Type} (f : Nat → α) (s : Nat) (x : α) : setAt f s x s = x := if_pos rfl
theorem setAt_ne {α : Type} (f : Nat → α) (s i : Nat) (x : α) (h : i ≠ s) : setAt f s x i = f i := if_neg h

/-- A row g of n pointers; those of D are streams', made above base. -/
structure RowS (base g n : Nat) (D SRC : Nat → Bool) (M : Nat → Sm) (st : Nat → Nat) (VW : Nat → Value) (CH : Nat → Option Nat) (w : World) : Prop where
  row : ∃ cs : List Value, w.heap[g]? = some (.cells cs.toArray 70 (0, 0)) ∧ cs.length = n ∧ (∀ i, i < n → D i = true → cs[i]? = some (.pointer (some ⟨st i, 0, none⟩)))
  at' : ∀ i, i < n → D i = true → StAt w (st i) (VW i) (CH i) (SRC i) (M i)
  base : base ≤ g ∧ ∀ i, i < n → D i = true → base ≤ st i ∧ (∀ q, (VW i).ownBlock = some q → base ≤ q) ∧ (∀ q, CH i = some q → base ≤ q)
  inj : ∀ i j, i < n → j < n → D i = true → D j = true → i ≠ j → st i ≠ st j ∧ (∀ q, (VW i).ownBlock = some q → (VW j).ownBlock ≠ some q) ∧ (∀ c, CH i = some c → CH j ≠ some c)

theorem RowS.below {base g n : Nat} {D SRC : Nat → Bool} {M : Nat → Sm} {st : Nat → Nat} {VW : Nat → Value} {CH : Nat → Option Nat} {w w' : World} (h : RowS base g n D SRC M st VW CH w) (hb : Below w.heap.size w w') : RowS base g n D SRC M st VW CH w' := by
  obtain ⟨cs, hg, hl, hc⟩ := h.row
  exact ⟨⟨cs, by rw [hb.block _ (lt_of_blk hg)]; exact hg, hl, hc⟩, fun i hi hd => (h.at' i hi hd).below hb, h.base, h.inj⟩

theorem st_lt {w : World} {b : Nat} {vw : Value} {ch : Option Nat} {src : Bool} {m : Sm} (h : StAt w b vw ch src m) : b < w.heap.size ∧ (∀ q, vw.ownBlock = some q → q < w.heap.size) ∧ (∀ q, ch = some q → q < w.heap.size) := by
  refine ⟨lt_of_blk h.blk, fun q hq => ?_, fun q hq => ?_⟩
  · obtain ⟨cur, hc⟩ := own_block h.own hq; exact lt_of_blk hc
  · obtain ⟨⟨a, r, h1⟩, _⟩ := h.chan q hq; exact lt_of_blk h1

theorem RowS.next {base g n : Nat} {D SRC : Nat → Bool} {M : Nat → Sm} {st : Nat → Nat} {VW : Nat → Value} {CH : Nat → Option Nat} {w w1 : World} {s b : Nat} {vw : Value} {ch : Option Nat} {src : Bool} {m : Sm}
    (h : RowS base g n D SRC M st VW CH w) (hs : s < n) (hsz : base ≤ w.heap.size) (hb : Below w.heap.size w w1) (hst : StAt w1 b vw ch src m) (hbb : w.heap.size ≤ b) (hvw : ∀ q, vw.ownBlock = some q → w.heap.size ≤ q) (hch : ∀ q, ch = some q → w.heap.size ≤ q) :
    RowS base g n (setAt D s true) (setAt SRC s src) (setAt M s m) (setAt st s b) (setAt VW s vw) (setAt CH s ch) (w1.setCell ⟨g, s, none⟩ (.pointer (some ⟨b, 0, none⟩))) ∧ (∃ x, w1.cell? ⟨g, s, none⟩ = some x) ∧ w1.frozen? ⟨g, s, none⟩ = false := by
  have h1 := h.below hb
  obtain ⟨cs, hg, hl, hc⟩ := h1.row
  have stay : ∀ {b' : Nat} {vw' : Value} {ch' : Option Nat} {src' : Bool} {m' : Sm}, StAt w1 b' vw' ch' src' m' → StAt (w1.setCell ⟨g, s, none⟩ (.pointer (some ⟨b, 0, none⟩))) b' vw' ch' src' m' := fun hW => by
    refine hW.stays fun y hy => Below.heap_setCell _ _ _ _ ?_
    rcases hy with rfl | hy | hy
    · exact ne_of_types hW.blk hg (by decide)
    · obtain ⟨cur, hcur⟩ := own_block hW.own hy
      exact ne_of_types hcur hg (by decide)
    · obtain ⟨⟨a, r, h1⟩, _⟩ := hW.chan y hy
      exact chan_ne_cells h1 hg
  have old : ∀ i, i < n → i ≠ s → setAt D s true i = true → D i = true := fun i _ e hd => by rw [setAt_ne _ _ _ _ e] at hd; exact hd
  refine ⟨⟨⟨cs.set s (.pointer (some ⟨b, 0, none⟩)), blk_set hg s _, by simpa using hl, fun i hi hd => ?_⟩, fun i hi hd => ?_, ⟨h.base.1, fun i hi hd => ?_⟩, fun i j hi hj hdi hdj hne => ?_⟩, ⟨cs[s]'(by omega), row_cell hg (List.getElem?_eq_getElem (by omega))⟩, row_frozen hg s⟩
  · by_cases e : i = s
    · subst e; rw [setAt_self, List.getElem?_set_self (by omega)]
    · rw [setAt_ne _ _ _ _ e, List.getElem?_set_ne (fun e' => e e'.symm)]; exact hc i hi (old i hi e hd)
  · by_cases e : i = s
    · subst e; simp only [setAt_self]; exact stay hst
    · simp only [setAt_ne _ _ _ _ e]; exact stay (h1.at' i hi (old i hi e hd))
  · by_cases e : i = s
    · subst e; simp only [setAt_self]; exact ⟨by omega, fun q hq => by have := hvw q hq; omega, fun q hq => by have := hch q hq; omega⟩
    · simp only [setAt_ne _ _ _ _ e]; exact h.base.2 i hi (old i hi e hd)
  · by_cases ei : i = s
    · have ej : j ≠ s := fun e => hne (ei.trans e.symm)
      subst ei
      obtain ⟨l1, l2, l3⟩ := st_lt (h.at' j hj (old j hj ej hdj))
      simp only [setAt_self, setAt_ne _ _ _ _ ej]
      exact ⟨by omega, fun q hq hq' => by have := hvw q hq; have := l2 q hq'; omega, fun q hq hq' => by have := hch q hq; have := l3 q hq'; omega⟩
    · have hDi := old i hi ei hdi
      obtain ⟨l1, l2, l3⟩ := st_lt (h.at' i hi hDi)
      by_cases ej : j = s
      · subst ej
        simp only [setAt_self, setAt_ne _ _ _ _ ei]
        exact ⟨by omega, fun q hq hq' => by have := hvw q hq'; have := l2 q hq; omega, fun q hq hq' => by have := hch q hq'; have := l3 q hq; omega⟩
      · simp only [setAt_ne _ _ _ _ ei, setAt_ne _ _ _ _ ej]
        exact h.inj i j hi hj hDi (old j hj ej hdj) hne

end Go.Proofs.YthfdgdfnflilfaaGreatDoor
/- newStreams. -/
namespace Go.Proofs.YthfdgdfnflilfaaGreatDoor
open Go.RowKit Go.Conc

/-- A stream as New makes it, ahead of the sources. -/
def plainM (n : Net) (s : Nat) : Sm := ⟨[], 0, (n.streams.getD s 0).toNat⟩

/-- The row behind the first loop's k rounds. -/
def Loop1 (base g : Nat) (n : Net) (k : Nat) (w : World) : Prop :=
  ∃ st VW CH, RowS base g n.streams.length (fun i => decide (i < k)) (fun _ => false) (plainM n) st VW CH w ∧ ∀ i, i < k → ((CH i).isSome = used n i)

theorem RowS.congr {base g n : Nat} {D D' SRC SRC' : Nat → Bool} {M M' : Nat → Sm} {st : Nat → Nat} {VW : Nat → Value} {CH : Nat → Option Nat} {w : World} (h : RowS base g n D SRC M st VW CH w)
    (hD : ∀ i, i < n → D' i = true → D i = true) (hS : ∀ i, i < n → D' i = true → SRC' i = SRC i) (hM : ∀ i, i < n → D' i = true → M' i = M i) : RowS base g n D' SRC' M' st VW CH w := by
  obtain ⟨cs, hg, hl, hc⟩ := h.row
  refine ⟨⟨cs, hg, hl, fun i hi hd => hc i hi (hD i hi hd)⟩, fun i hi hd => ?_, ⟨h.base.1, fun i hi hd => h.base.2 i hi (hD i hi hd)⟩, fun i j hi hj hdi hdj hne => h.inj i j hi hj (hD i hi hdi) (hD j hj hdj) hne⟩
  rw [hS i hi hd, hM i hi hd]
  exact h.at' i hi (hD i hi hd)

theorem Loop1.next {base g : Nat} {n : Net} {k : Nat} {w w1 : World} {b : Bool} {e : Ending} (h : Loop1 base g n k w) (hk : k < n.streams.length) (hsz : base ≤ w.heap.size) (hb : b = used n k) (hn : NewSt w false (plainM n k) b e w1) :
    ∃ p, e = .returned (.pointer (some ⟨p, 0, none⟩)) ∧ (∃ x, w1.cell? ⟨g, k, none⟩ = some x) ∧ w1.frozen? ⟨g, k, none⟩ = false ∧ Below w.heap.size w w1 ∧ Loop1 base g n (k + 1) (w1.setCell ⟨g, k, none⟩ (.pointer (some ⟨p, 0, none⟩))) := by
  obtain ⟨st, VW, CH, hr, hch⟩ := h
  obtain ⟨p, vw, ch, he, hst, hbl, hbb, hvw, hc, hsome⟩ := hn
  obtain ⟨r1, r2, r3⟩ := hr.next hk hsz hbl hst hbb hvw hc
  refine ⟨p, he, r2, r3, hbl, _, _, _, r1.congr (fun i hi hd => ?_) (fun i hi hd => ?_) (fun i hi hd => ?_), fun i hi => ?_⟩
  · by_cases e : i = k
    · rw [e, setAt_self]
    · rw [setAt_ne _ _ _ _ e]; simp at hd ⊢; omega
  · by_cases e : i = k
    · rw [e, setAt_self]
    · rw [setAt_ne _ _ _ _ e]
  · by_cases e : i = k
    · rw [e, setAt_self]
    · rw [setAt_ne _ _ _ _ e]
  · by_cases e : i = k
    · rw [e, setAt_self, hsome, hb]
    · rw [setAt_ne _ _ _ _ e]; exact hch i (by omega)

/-- Streams that a source of the first j is for. -/
def srcJ (n : Net) (j s : Nat) : Bool := hasSourceB (n.sources.take j) s
def wordsJ (n : Net) (j s : Nat) : Sm := ⟨if srcJ n j s then srcWords n s else [], 0, (n.streams.getD s 0).toNat⟩

/-- The row behind the second loop's j rounds. -/
def Loop2 (base g : Nat) (n : Net) (j : Nat) (w : World) : Prop :=
  ∃ st VW CH, RowS base g n.streams.length (fun _ => true) (srcJ n j) (wordsJ n j) st VW CH w ∧ ∀ i, i < n.streams.length → srcJ n j i = false → ((CH i).isSome = used n i)

theorem Loop2.start {base g : Nat} {n : Net} {w : World} (h : Loop1 base g n n.streams.length w) : Loop2 base g n 0 w := by
  obtain ⟨st, VW, CH, hr, hch⟩ := h
  refine ⟨st, VW, CH, hr.congr (fun i hi hd => by simpa using hi) (fun i hi hd => rfl) (fun i hi hd => rfl), fun i hi _ => hch i hi⟩

theorem srcJ_succ (n : Net) (j s : Nat) (hj : j < n.sources.length) : srcJ n (j + 1) s = (srcJ n j s || (n.sources[j].stream == (s : Int))) := any_take_succ _ _ _ hj

theorem Loop2.next {base g : Nat} {n : Net} {j s : Nat} {w w1 : World} {e : Ending} (h : Loop2 base g n j w) (hj : j < n.sources.length) (hs : n.sources[j].stream = (s : Nat)) (hsl : s < n.streams.length) (hfree : srcJ n j s = false) (hsz : base ≤ w.heap.size) (hn : NewSt w true ⟨n.sources[j].words, 0, (n.streams.getD s 0).toNat⟩ false e w1) :
    ∃ p, e = .returned (.pointer (some ⟨p, 0, none⟩)) ∧ (∃ x, w1.cell? ⟨g, s, none⟩ = some x) ∧ w1.frozen? ⟨g, s, none⟩ = false ∧ Below w.heap.size w w1 ∧ Loop2 base g n (j + 1) (w1.setCell ⟨g, s, none⟩ (.pointer (some ⟨p, 0, none⟩))) := by
  obtain ⟨st, VW, CH, hr, hch⟩ := h
  obtain ⟨p, vw, ch, he, hst, hbl, hbb, hvw, hc, hsome⟩ := hn
  have hwords : srcWords n s = n.sources[j].words := by
    have hf : n.sources.find? (fun x => x.stream == (s : Int)) = some n.sources[j] := by
      rw [List.find?_eq_some_iff_getElem]
      refine ⟨by simp [hs], j, hj, rfl, fun i hi => ?_⟩
      have := List.any_eq_false.1 hfree (n.sources[i]) (by rw [List.mem_take_iff_getElem]; exact ⟨i, by omega, rfl⟩)
      simpa using this
    simp [srcWords, hf]
  obtain ⟨r1, r2, r3⟩ := hr.next hsl hsz hbl hst hbb hvw hc
  have ne : ∀ i, i ≠ s → srcJ n (j + 1) i = srcJ n j i := fun i e => by
    rw [srcJ_succ _ _ _ hj]
    have : (n.sources[j].stream == (i : Int)) = false := by rw [hs]; simp; omega
    rw [this, Bool.or_false]
  have eq : srcJ n (j + 1) s = true := by rw [srcJ_succ _ _ _ hj, hs]; simp
  refine ⟨p, he, r2, r3, hbl, _, _, _, r1.congr (fun i hi hd => ?_) (fun i hi hd => ?_) (fun i hi hd => ?_), fun i hi hd => ?_⟩
  · by_cases e : i = s
    · rw [e, setAt_self]
    · rw [setAt_ne _ _ _ _ e]
  · by_cases e : i = s
    · rw [e, setAt_self, eq]
    · rw [setAt_ne _ _ _ _ e, ne i e]
  · by_cases e : i = s
    · rw [e, setAt_self, wordsJ, eq, if_pos rfl, hwords]
    · rw [setAt_ne _ _ _ _ e, wordsJ, wordsJ, ne i e]
  · by_cases e : i = s
    · rw [e, eq] at hd; cases hd
    · rw [setAt_ne _ _ _ _ e]; rw [ne i e] at hd; exact hch i hi hd

end Go.Proofs.YthfdgdfnflilfaaGreatDoor

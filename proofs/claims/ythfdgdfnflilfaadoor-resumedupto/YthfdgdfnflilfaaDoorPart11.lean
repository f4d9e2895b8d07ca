/- Part 11: Load7, Load8, Keep3, Keep4, Keep5, KeepG. -/
import Derived.Defers
import Derived.Recover
import Derived.Test.YthfdgdfnflilfaaDoorPart10
/- Load of a stream, of a race. -/
namespace Go.Proofs.YthfdgdfnflilfaaDoor
open Go.RowKit Go.Conc

/-- What a stream may become of what the net made. -/
structure LoadsS (sourced held : Bool) (m0 m : Sm) : Prop where
  src : sourced = true → m.words = m0.words ∧ m.room = m0.room
  un : sourced = false → held = false → m.read = 0 ∧ m.room = m0.room ∧ m0.room ≤ 1000
  hold : sourced = false → held = true → m0.room ≤ m.room ∧ m.room ≤ 40 ∧ m.words.length - m.read ≤ m.room
  le : m.read ≤ m.words.length
  fits : ∀ x ∈ m.words, Fits64 x
  len : m.words.length ≤ 268435456

def StLoaded (B : Nat) (w : World) (b rb : Nat) (vw : Value) (ch : Option Nat) (sourced : Bool) (m : Sm) (l : List Int) (w' : World) : Prop :=
  ∃ vw' ch', StAt w' b vw' ch' sourced m ∧ (∀ g, vw'.ownBlock = some g → vw.ownBlock = some g ∨ w.heap.size ≤ g) ∧ (∀ c, ch' = some c → ch = some c ∨ w.heap.size ≤ c) ∧ ch'.isSome = ch.isSome ∧ RdAt B w' rb l ∧ Fr (fun z => z = b ∨ z = rb) w w'

set_option maxRecDepth 100000 in
set_option maxHeartbeats 2000000 in
theorem sload_calls {B : Nat} {w : World} {b rb : Nat} {vw : Value} {ch : Option Nat} {sourced : Bool} {m0 m : Sm} {l : List Int} (h : StAt w b vw ch sourced m0) (hr : RdAt B w rb (stNums sourced m ++ l)) (hbB : B ≤ b) (hB : B ≤ w.heap.size) (hl : LoadsS sourced ch.isSome m0 m) :
    Calls Tryd.prog 56 #[.pointer (some ⟨b, 0, none⟩), .pointer (some ⟨rb, 0, none⟩)] w fun e w' => e = .returned (.tuple #[]) ∧ StLoaded B w b rb vw ch sourced m l w' := by
  cases sourced with
  | true =>
    cases ch with
    | some c => have := h.nosrc c rfl; cases this
    | none =>
      obtain ⟨h1, h2⟩ := hl.src rfl
      have hle := hl.le
      refine (sload_src h (r := m.read) hr hbB hB (by rw [← h1]; exact hle)).mono fun e w' ⟨q1, q2, q3, q4⟩ => ⟨q1, vw, none, ?_, fun g hg => Or.inl hg, fun c hc => (by cases hc), rfl, q3, q4⟩
      have e : ({ m0 with read := m.read } : Sm) = m := by cases m; simp at h1 h2; simp [h1, h2]
      rw [← e]; exact q2
  | false =>
    have hne := fun (wx : World) (a : Option Nat) => run_eql_chan_nil (P := Tryd.prog) wx 86 a Tryd.underlying86
    obtain ⟨c0, c1, c2, c3, cf⟩ := h.cells
    cases ch with
    | none =>
      obtain ⟨h1, h2, h3⟩ := hl.un rfl rfl
      have HU : Hid (Calls Tryd.prog 66 #[.pointer (some ⟨b, 0, none⟩), .pointer (some ⟨rb, 0, none⟩)] w fun e w' => e = .returned (.tuple #[]) ∧ StLoaded B w b rb vw none false m l w') := by
        have hr' : RdAt B w rb ((m0.room : Int) :: 0 :: (m.words.length : Int) :: (m.words ++ l)) := by
          have := hr
          simp only [stNums] at this
          rw [h1, h2] at this
          exact this
        refine (sloadUnread_calls h hr' hbB hB h3 hl.fits (by have := hl.len; omega)).mono fun e w' ⟨q1, q2⟩ => ⟨q1, ?_⟩
        obtain ⟨vw', ch', a1, a2, a3, a4⟩ := q2.at'
        have e : (⟨m.words, 0, m0.room⟩ : Sm) = m := by cases m; simp at h1 h2; simp [h1, h2]
        rw [e] at a1
        exact ⟨vw', ch', a1, fun g hg => Or.inr ((a2 g hg).resolve_right (by decide)), fun c hc => Or.inr (a3 c hc), a4, q2.rd, q2.fr⟩
      clear h hr hl cf
      go_enter Tryd.func56, Tryd.ntmps56
      go_wp2_with fail
      refine (unhide HU).mono ?_
      rintro e w1 ⟨rfl, h1⟩
      have H1 := hide h1
      clear h1 HU
      go_wp2
      go_end0
      exact ⟨rfl, H1.out⟩
    | some c =>
      obtain ⟨h1, h2, h3⟩ := hl.hold rfl rfl
      have HU : Hid (Calls Tryd.prog 67 #[.pointer (some ⟨b, 0, none⟩), .pointer (some ⟨rb, 0, none⟩)] w fun e w' => e = .returned (.tuple #[]) ∧ StLoaded B w b rb vw (some c) false m l w') := by
        refine (sloadHeld_calls h (m := m) hr hbB hB h1 h2 hl.le h3 hl.fits (by have := hl.len; omega)).mono fun e w' ⟨q1, q2⟩ => ⟨q1, ?_⟩
        obtain ⟨vw', ch', a1, a2, a3, a4⟩ := q2.at'
        exact ⟨vw', ch', a1, fun g hg => Or.inr ((a2 g hg).resolve_right (by decide)), fun c hc => Or.inr (a3 c hc), a4, q2.rd, q2.fr⟩
      clear h hr hl cf
      go_enter Tryd.func56, Tryd.ntmps56
      go_wp2_with fail
      refine (unhide HU).mono ?_
      rintro e w1 ⟨rfl, h1⟩
      have H1 := hide h1
      clear h1 HU
      go_wp2
      go_end0
      exact ⟨rfl, H1.out⟩

/-- What a race may become of a new one. -/
structure Loads (N : Net) (R0 R : Rc) : Prop where
  lenW : R.W.length = N.workers.length
  lenS : R.S.length = N.streams.length
  place : ∀ k, k < N.workers.length → (R.w k).place ≤ (codeOf N k).length
  fitsW : ∀ k, k < N.workers.length → FitsW (R.w k)
  st : ∀ s, s < N.streams.length → LoadsS (srcd N s) (heldB N s) (R0.s s) (R.s s)

def restW (R : Rc) (n k : Nat) : List Int := ((List.range n).drop k).flatMap fun j => wkNums (R.w j)
def restS (N : Net) (R : Rc) (n k : Nat) : List Int := ((List.range n).drop k).flatMap fun s => stNums (srcd N s) (R.s s)
theorem restW_step (R : Rc) (n k : Nat) (h : k < n) : restW R n k = wkNums (R.w k) ++ restW R n (k + 1) := by
  unfold restW
  rw [List.drop_eq_getElem_cons (by simpa using h)]
  simp
theorem restS_step (N : Net) (R : Rc) (n k : Nat) (h : k < n) : restS N R n k = stNums (srcd N k) (R.s k) ++ restS N R n (k + 1) := by
  unfold restS
  rw [List.drop_eq_getElem_cons (by simpa using h)]
  simp
theorem restW_end (R : Rc) (n : Nat) : restW R n n = [] := by unfold restW; rw [List.drop_of_length_le (by simp)]; rfl
theorem restS_end (N : Net) (R : Rc) (n : Nat) : restS N R n n = [] := by unfold restS; rw [List.drop_of_length_le (by simp)]; rfl

def mixW (R0 R : Rc) (k : Nat) : Rc := ⟨R.W.take k ++ R0.W.drop k, R0.S⟩
def mixS (R0 R : Rc) (j : Nat) : Rc := ⟨R.W, R.S.take j ++ R0.S.drop j⟩

theorem mix_set {α : Type} (a b : List α) (k : Nat) (d : α) (ha : k < a.length) (hb : k < b.length) : (a.take k ++ b.drop k).set k (a.getD k d) = a.take (k + 1) ++ b.drop (k + 1) := by
  rw [getD_eq _ _ _ ha, List.take_succ_eq_append_getElem ha, List.drop_eq_getElem_cons hb]
  rw [List.set_append_right _ _ (by simp; omega)]
  have : k - (a.take k).length = 0 := by simp; omega
  rw [this, List.set_cons_zero, List.append_assoc]
  rfl

theorem mixS_at (R0 R : Rc) (j : Nat) (hl : j ≤ R.S.length) : (mixS R0 R j).s j = R0.s j := by
  unfold mixS Rc.s
  have h1 : (R.S.take j).length = j := by simp; omega
  simp only [List.getD]
  rw [List.getElem?_append_right (by omega), h1, Nat.sub_self, List.getElem?_drop, Nat.add_zero]

/-- A race that is being loaded. -/
def Loading (B : Nat) (p : Nat) (ga ca gw cw : Nat) (w : World) (N : Net) (R : Rc) (rb : Nat) (l : List Int) (wr : World) : Prop :=
  ∃ L, (L.p = p ∧ L.vS = .slice (some ⟨ga, 0, none⟩) N.streams.length ca ∧ L.vW = .slice (some ⟨gw, 0, none⟩) N.workers.length cw) ∧ RaceAt L wr N R ∧ (∀ b, Foot L N b → B ≤ b) ∧ RdAt B wr rb l ∧ Below B w wr ∧ B ≤ wr.heap.size

theorem loading_w {B p rb k ga ca gw cw : Nat} {w wr : World} {N : Net} {R0 R : Rc} {l : List Int} (hR : Loads N R0 R) (h0 : R0.W.length = N.workers.length) (hk : k < N.workers.length) (h : Loading B p ga ca gw cw w N (mixW R0 R k) rb (wkNums (R.w k) ++ l) wr) :
    ∃ pk, Calls Tryd.prog 55 #[.pointer (some ⟨pk, 0, none⟩), .pointer (some ⟨rb, 0, none⟩)] wr (fun e w' => e = .returned (.tuple #[]) ∧ Loading B p ga ca gw cw w N (mixW R0 R (k + 1)) rb l w') ∧ wr.cell? ⟨gw, k, none⟩ = some (.pointer (some ⟨pk, 0, none⟩)) := by
  obtain ⟨L, ⟨rfl, hvS, hvW⟩, hra, hfo, hrd, hbe, hsz⟩ := h
  obtain ⟨g, cap, hv, cs, hg, hcs⟩ := hra.rowW
  rw [hvW] at hv
  cases hv
  refine ⟨L.wb k, ?_, row_cell hg (hcs k hk)⟩
  have hbB := hfo _ (foot_w hk)
  refine (wload_calls (hra.wk k hk) hrd hbB hsz (hR.place k hk) (hR.fitsW k hk)).mono fun e w' ⟨q1, q2, q3, q4⟩ => ⟨q1, ?_⟩
  obtain ⟨v, hvb, -⟩ := hrd.blk
  have hb : Below B wr w' := ⟨q4.os, q4.tape, q4.output, q4.size, fun z hz => q4.block z (by omega) fun e => by rcases e with e | e; omega; have := hrd.ge; omega⟩
  have hra' := hra.setW hk q2 fun z hz hne => q4.block z (hra.foot_lt hz) fun e => e.elim hne fun e => by subst e; exact hra.not_rd hvb hz
  have e : (⟨(mixW R0 R k).W.set k (R.w k), (mixW R0 R k).S⟩ : Rc) = mixW R0 R (k + 1) := by
    unfold mixW
    have := mix_set R.W R0.W k ⟨0, fun _ => 0, 0⟩ (by rw [hR.lenW]; exact hk) (by rw [h0]; exact hk)
    exact congrArg (fun x => (⟨x, R0.S⟩ : Rc)) this
  rw [e] at hra'
  exact ⟨L, ⟨rfl, hvS, hvW⟩, hra', hfo, q3, hbe.trans hb, Nat.le_trans hsz q4.size⟩

theorem loading_s {B p rb s ga ca gw cw : Nat} {w wr : World} {N : Net} {R0 R : Rc} {l : List Int} (hR : Loads N R0 R) (h0 : R0.S.length = N.streams.length) (hs : s < N.streams.length) (h : Loading B p ga ca gw cw w N (mixS R0 R s) rb (stNums (srcd N s) (R.s s) ++ l) wr) :
    ∃ pk, Calls Tryd.prog 56 #[.pointer (some ⟨pk, 0, none⟩), .pointer (some ⟨rb, 0, none⟩)] wr (fun e w' => e = .returned (.tuple #[]) ∧ Loading B p ga ca gw cw w N (mixS R0 R (s + 1)) rb l w') ∧ wr.cell? ⟨ga, s, none⟩ = some (.pointer (some ⟨pk, 0, none⟩)) := by
  obtain ⟨L, ⟨rfl, hvS, hvW⟩, hra, hfo, hrd, hbe, hsz⟩ := h
  obtain ⟨g, cap, hv, cs, hg, hcs⟩ := hra.env.along.form
  rw [hvS] at hv
  cases hv
  refine ⟨L.st s, ?_, row_cell hg (hcs s hs)⟩
  have hbB := hfo _ (foot_s hs)
  have hst := hra.env.at' s hs
  rw [mixS_at R0 R s (by rw [hR.lenS]; omega)] at hst
  have hls := hR.st s hs
  rw [← hra.ch_iff hs] at hls
  refine (sload_calls hst hrd hbB hsz hls).mono fun e w' ⟨q1, vw', ch', a1, a2, a3, a4, a5, a6⟩ => ⟨q1, ?_⟩
  obtain ⟨v, hvb, -⟩ := hrd.blk
  have hb : Below B wr w' := ⟨a6.os, a6.tape, a6.output, a6.size, fun z hz => a6.block z (by omega) fun e => by rcases e with e | e; omega; have := hrd.ge; omega⟩
  have hra' := hra.setS hs a1 a2 a3 a4 fun z hz hne => a6.block z (hra.foot_lt hz) fun e => e.elim hne fun e => by subst e; exact hra.not_rd hvb hz
  have e : (⟨(mixS R0 R s).W, (mixS R0 R s).S.set s (R.s s)⟩ : Rc) = mixS R0 R (s + 1) := by
    unfold mixS
    have := mix_set R.S R0.S s ⟨[], 0, 0⟩ (by rw [hR.lenS]; exact hs) (by rw [h0]; exact hs)
    exact congrArg (fun x => (⟨R.W, x⟩ : Rc)) this
  rw [e] at hra'
  refine ⟨{ L with VW := fun t => if t = s then vw' else L.VW t, CH := fun t => if t = s then ch' else L.CH t }, ⟨rfl, hvS, hvW⟩, hra', fun z hz => ?_, a5, hbe.trans hb, Nat.le_trans hsz a6.size⟩
  rcases hz with hz | hz | hz | ⟨t, ht, hz⟩ | hz
  · exact hfo z (Or.inl hz)
  · exact hfo z (Or.inr (Or.inl hz))
  · exact hfo z (Or.inr (Or.inr (Or.inl hz)))
  · dsimp only at hz
    by_cases et : t = s
    · subst et
      rw [if_pos rfl, if_pos rfl] at hz
      rcases hz with hz | hz | hz
      · rw [hz]; exact hbB
      · rcases a2 z hz with h1 | h1
        · exact hfo z (Or.inr (Or.inr (Or.inr (Or.inl ⟨t, ht, Or.inr (Or.inl h1)⟩))))
        · omega
      · rcases a3 z hz with h1 | h1
        · exact hfo z (Or.inr (Or.inr (Or.inr (Or.inl ⟨t, ht, Or.inr (Or.inr h1)⟩))))
        · omega
    · rw [if_neg et, if_neg et] at hz
      exact hfo z (Or.inr (Or.inr (Or.inr (Or.inl ⟨t, ht, hz⟩))))
  · exact hfo z (Or.inr (Or.inr (Or.inr (Or.inr hz))))

set_option maxRecDepth 100000 in
set_option maxHeartbeats 2000000 in
theorem rload_calls {B p rb ga ca gw cw : Nat} {w : World} {N : Net} {R0 R : Rc} {l : List Int} (hR : Loads N R0 R) (h0 : R0.W.length = N.workers.length) (h0' : R0.S.length = N.streams.length) (h : Loading B p ga ca gw cw w N R0 rb (saveNums N R ++ l) w) (hok : validB N = true) :
    Calls Tryd.prog 34 #[.pointer (some ⟨p, 0, none⟩), .pointer (some ⟨rb, 0, none⟩)] w fun e w' => e = .returned (.tuple #[]) ∧ Loading B p ga ca gw cw w N R rb l w' := by
  obtain ⟨hs1, hs8, hw1, hw6⟩ := valid_counts hok
  have HC : Hid (∀ R' l' wx, Loading B p ga ca gw cw w N R' rb l' wx → wx.cell? ⟨p, 0, none⟩ = some (.slice (some ⟨ga, 0, none⟩) N.streams.length ca) ∧ wx.cell? ⟨p, 1, none⟩ = some (.slice (some ⟨gw, 0, none⟩) N.workers.length cw)) := fun R' l' wx hx => by
    obtain ⟨L, ⟨rfl, hvS, hvW⟩, hra, -⟩ := hx
    exact ⟨by rw [← hvS]; exact hra.cells.1, by rw [← hvW]; exact hra.cells.2⟩
  have e0 : mixW R0 R 0 = R0 := by simp [mixW]
  have e1 : mixW R0 R N.workers.length = mixS R0 R 0 := by
    simp only [mixW, mixS, List.take_zero, List.drop_zero, List.nil_append]
    rw [List.take_of_length_le (by rw [hR.lenW]; exact Nat.le_refl _), List.drop_of_length_le (by rw [h0]; exact Nat.le_refl _), List.append_nil]
  have e2 : mixS R0 R N.streams.length = R := by
    simp only [mixS]
    rw [List.take_of_length_le (by rw [hR.lenS]; exact Nat.le_refl _), List.drop_of_length_le (by rw [h0']; exact Nat.le_refl _), List.append_nil]
  have H0 : Hid (Loading B p ga ca gw cw w N (mixW R0 R 0) rb (restW R N.workers.length 0 ++ (restS N R N.streams.length 0 ++ l)) w) := by
    rw [e0]
    have : saveNums N R ++ l = restW R N.workers.length 0 ++ (restS N R N.streams.length 0 ++ l) := by simp [saveNums, saveW, saveS, restW, restS]
    rw [← this]; exact h
  have HW : Hid (∀ k, k < N.workers.length → ∀ wx, Loading B p ga ca gw cw w N (mixW R0 R k) rb (restW R N.workers.length k ++ (restS N R N.streams.length 0 ++ l)) wx → ∃ pk, Calls Tryd.prog 55 #[.pointer (some ⟨pk, 0, none⟩), .pointer (some ⟨rb, 0, none⟩)] wx (fun e w' => e = .returned (.tuple #[]) ∧ Loading B p ga ca gw cw w N (mixW R0 R (k + 1)) rb (restW R N.workers.length (k + 1) ++ (restS N R N.streams.length 0 ++ l)) w') ∧ wx.cell? ⟨gw, k, none⟩ = some (.pointer (some ⟨pk, 0, none⟩))) := fun k hk wx hx => by
    rw [restW_step _ _ _ hk, List.append_assoc] at hx
    exact loading_w hR h0 hk hx
  have HS : Hid (∀ s, s < N.streams.length → ∀ wx, Loading B p ga ca gw cw w N (mixS R0 R s) rb (restS N R N.streams.length s ++ l) wx → ∃ pk, Calls Tryd.prog 56 #[.pointer (some ⟨pk, 0, none⟩), .pointer (some ⟨rb, 0, none⟩)] wx (fun e w' => e = .returned (.tuple #[]) ∧ Loading B p ga ca gw cw w N (mixS R0 R (s + 1)) rb (restS N R N.streams.length (s + 1) ++ l) w') ∧ wx.cell? ⟨ga, s, none⟩ = some (.pointer (some ⟨pk, 0, none⟩))) := fun s hs wx hx => by
    rw [restS_step _ _ _ _ hs, List.append_assoc] at hx
    exact loading_s hR h0' hs hx
  have HM : Hid (∀ wx, Loading B p ga ca gw cw w N (mixW R0 R N.workers.length) rb (restW R N.workers.length N.workers.length ++ (restS N R N.streams.length 0 ++ l)) wx → Loading B p ga ca gw cw w N (mixS R0 R 0) rb (restS N R N.streams.length 0 ++ l) wx) := fun wx hx => by
    rw [restW_end, List.nil_append, e1] at hx; exact hx
  have HE : Hid (∀ wx, Loading B p ga ca gw cw w N (mixS R0 R N.streams.length) rb (restS N R N.streams.length N.streams.length ++ l) wx → Loading B p ga ca gw cw w N R rb l wx) := fun wx hx => by
    rw [restS_end, List.nil_append, e2] at hx; exact hx
  clear h hR h0 h0' e0 e1 e2 hok
  generalize N.workers.length = wl at *
  generalize N.streams.length = sl at *
  obtain ⟨c0, c1⟩ := HC.out _ _ _ H0.out
  go_enter Tryd.func34, Tryd.ntmps34
  go_wp2
  go_loopw [13] (fun i wr => ∃ k : Nat, k ≤ wl ∧ i = .int .i64 k ∧ Loading B p ga ca gw cw w N (mixW R0 R k) rb (restW R wl k ++ (restS N R sl 0 ++ l)) wr) (fun i _ => wl - (intOf i).toNat)
  case atStart => exact ⟨0, Nat.zero_le _, rfl, H0.out⟩
  case round =>
    clear H0 c0 c1
    obtain ⟨k, hk, rfl, hld⟩ := hrel
    by_cases hlt : k < wl
    · obtain ⟨pk, hcall, d0⟩ := HW.out k hlt wr hld
      have HCa := hide hcall
      have hk0 : (0 : Int) ≤ (k : Int) := by omega
      have hk1 : (k : Int) < (wl : Int) := by omega
      clear hcall hld HW HS HM HE HC
      go_wp2_with fail
      refine (unhide HCa).mono ?_
      rintro e w1 ⟨rfl, h1⟩
      have H1 := hide h1
      clear h1 HCa
      go_wp2
      go_roundw
      case rel => exact ⟨k + 1, by omega, by go_num, H1.out⟩
      case measure => simp [intOf]; omega
    · have hkl : k = wl := by omega
      subst hkl
      obtain ⟨c0, c1⟩ := HC.out _ _ _ hld
      have H1 := hide (HM.out wr hld)
      clear hld HW HM HC
      go_wp2
      go_loopw [26] (fun i wq => ∃ j : Nat, j ≤ sl ∧ i = .int .i64 j ∧ Loading B p ga ca gw cw w N (mixS R0 R j) rb (restS N R sl j ++ l) wq) (fun i _ => sl - (intOf i).toNat)
      case atStart => exact ⟨0, Nat.zero_le _, rfl, H1.out⟩
      case round =>
        clear H1 c0 c1
        obtain ⟨j, hj, rfl, hld⟩ := hrel
        by_cases hlt2 : j < sl
        · obtain ⟨pk, hcall, d0⟩ := HS.out j hlt2 wr hld
          have HCa := hide hcall
          have hj0 : (0 : Int) ≤ (j : Int) := by omega
          have hj1 : (j : Int) < (sl : Int) := by omega
          clear hcall hld HS HE
          go_wp2_with fail
          refine (unhide HCa).mono ?_
          rintro e w1 ⟨rfl, h1⟩
          have H1 := hide h1
          clear h1 HCa
          go_wp2
          go_roundw
          case rel => exact ⟨j + 1, by omega, by go_num, H1.out⟩
          case measure => simp [intOf]; omega
        · have hjl : j = sl := by omega
          subst hjl
          have H2 := hide (HE.out wr hld)
          clear hld HS HE
          go_wp2
          go_end0
          exact ⟨rfl, H2.out⟩

end Go.Proofs.YthfdgdfnflilfaaDoor
/- Package states: Read; package millrace: Load of what Save tells. -/
namespace Go.Proofs.YthfdgdfnflilfaaDoor
open Go.RowKit Go.Conc

theorem read_idle (w : World) : CallsD Tryd.prog 53 #[] .returning w fun e u' w' => e = .returned (.tuple #[]) ∧ u' = .returning ∧ w' = w := by
  refine callsD_of_wpS Tryd.func53 rfl fun c₀ cs hu => ?_
  apply wpS_seq
  apply wpS_region
  simp [wpOpsS, go_sem, recoverD, hu, Tryd.ntmps53, Exit.thenS]
  refine wpS_of_wp ?_
  go_wp2
  cases c₀
  simp_all [bodyPostS, results, Tryd.results53]

set_option maxRecDepth 100000 in
set_option maxHeartbeats 2000000 in
theorem read_calls {B p ga ca gw cw : Nat} {w : World} {v : Value} {N : Net} {R0 R : Rc} (hR : Loads N R0 R) (h0 : R0.W.length = N.workers.length) (h0' : R0.S.length = N.streams.length) (hok : validB N = true)
    (hl : ∀ wx rb, Below w.heap.size w wx → RdAt B wx rb (saveNums N R) → Loading B p ga ca gw cw wx N R0 rb (saveNums N R) wx)
    (hv : BytesAt w v (bytesOf (saveNums N R))) (hvB : ∀ g, v.ownBlock = some g → g < B) (hB : B ≤ w.heap.size) (hlen : (saveNums N R).length ≤ 4398046511104) :
    Calls Tryd.prog 33 #[v, .func (.func 34) #[.pointer (some ⟨p, 0, none⟩)] #[]] w fun e w' => e = .returned (.bool true) ∧ (∃ L, L.p = p ∧ RaceAt L w' N R ∧ ∀ b, Foot L N b → B ≤ b) ∧ Below B w w' := by
  have hrd : RdAt B (w.alloc (.cells #[v] 97)) w.heap.size (saveNums N R ++ []) := by
    rw [List.append_nil]
    exact ⟨⟨v, heap_alloc_new _ _, hv.below ((Below.refl _ _).alloc (Nat.le_refl _) _), hvB⟩, hB, hlen⟩
  have HL : Hid (Calls Tryd.prog 34 #[.pointer (some ⟨p, 0, none⟩), .pointer (some ⟨w.heap.size, 0, none⟩)] (w.alloc (.cells #[v] 97)) fun e w' => e = .returned (.tuple #[]) ∧ Loading B p ga ca gw cw (w.alloc (.cells #[v] 97)) N R w.heap.size [] w') :=
    rload_calls hR h0 h0' (by rw [List.append_nil] at hrd ⊢; exact hl _ _ ((Below.refl _ _).alloc (Nat.le_refl _) _) hrd) hok
  have HE : Hid (∀ wx, Loading B p ga ca gw cw (w.alloc (.cells #[v] 97)) N R w.heap.size [] wx → Calls Tryd.prog 54 #[.pointer (some ⟨w.heap.size, 0, none⟩)] wx fun e w' => e = .returned (.tuple #[]) ∧ w' = wx) := fun wx hx => by
    obtain ⟨L, -, -, -, h4, -⟩ := hx
    exact end_calls h4
  have HF : Hid (∀ wx, Loading B p ga ca gw cw (w.alloc (.cells #[v] 97)) N R w.heap.size [] wx → (∃ L, L.p = p ∧ RaceAt L wx N R ∧ ∀ b, Foot L N b → B ≤ b) ∧ Below B w wx) := fun wx hx => by
    obtain ⟨L, h1, h2, h3, h4, h5, h6⟩ := hx
    exact ⟨⟨L, h1.1, h2, h3⟩, ((Below.refl _ _).alloc hB _).trans h5⟩
  obtain ⟨av, cv, rfl, -, -⟩ := hv
  clear hR hl hrd
  generalize (bytesOf (saveNums N R)).length = bl at *
  go_enter_defers Tryd.func33, Tryd.ntmps33
  go_wp2_with fail
  refine (unhide HL).mono ?_
  rintro e w1 ⟨rfl, h1⟩
  have H1 := hide h1
  have HE1 := hide (HE.out w1 h1)
  clear h1 HL HE
  go_wp2_with fail
  refine (unhide HE1).mono ?_
  rintro e w2 ⟨rfl, rfl⟩
  go_wp2
  refine leaves_cons (f := 53) (args := #[]) (by simp) (by simp [go_sem]) ?_
  refine (read_idle _).mono ?_
  rintro e u' w'' ⟨rfl, rfl, rfl⟩
  obtain ⟨q1, q2⟩ := HF.out _ H1.out
  simp [Leaves, settle, results, Tryd.results33, go_sem]
  exact ⟨q1, q2⟩

theorem bytes_own {w : World} {v : Value} {l : List Int} (h : BytesAt w v l) (h0 : 0 < l.length) : ∀ g, v.ownBlock = some g → g < w.heap.size := by
  obtain ⟨a, cap, rfl, hn, hcap, hc⟩ := h
  intro g hg
  rcases hc with hc | ⟨b, off, rfl, hc⟩
  · omega
  · have : b = g := by simpa [Value.ownBlock] using hg
    subst this
    exact lt_of_cell (hc 0 h0 0 (by decide))

set_option maxRecDepth 100000 in
set_option maxHeartbeats 2000000 in
/-- Load of a state that tells of R. -/
theorem load_calls {n : Net} {v vb : Value} {w : World} {R : Rc} (hn : NetAt w v n) (hok : validB n = true) (hb : BytesAt w vb (bytesOf (saveNums n R))) (hR : Loads n (initR n n.streams) R) (hlen : (saveNums n R).length ≤ 4398046511104) :
    Calls Tryd.prog 19 #[v, vb] w fun e w' => ∃ p, e = .returned (.tuple #[.pointer (some ⟨p, 0, none⟩), .int .i64 0]) ∧ Has (fun b => b < w.heap.size) p n R w' ∧ Below w.heap.size w w' := by
  have h6 : 0 < (bytesOf (saveNums n R)).length := by
    rw [bytesOf_length, saveNums, List.length_append, saveW_length]
    have := (valid_counts hok).2.2.1
    omega
  have hvB := bytes_own hb h6
  have HN : Hid (∀ wx, Below w.heap.size w wx → Calls Tryd.prog 10 #[v] wx fun e w' => ∃ L : Lay, e = .returned (.tuple #[.pointer (some ⟨L.p, 0, none⟩), .int .i64 0]) ∧ RaceAt L w' n (initR n n.streams) ∧ (∀ b, Foot L n b → wx.heap.size ≤ b) ∧ Below wx.heap.size wx w') := fun wx hx => new_calls (hn.below hx) hok
  have HR : Hid (∀ wx (L : Lay), Below w.heap.size w wx → RaceAt L wx n (initR n n.streams) → (∀ b, Foot L n b → w.heap.size ≤ b) → Calls Tryd.prog 33 #[vb, .func (.func 34) #[.pointer (some ⟨L.p, 0, none⟩)] #[]] wx fun e w' => e = .returned (.bool true) ∧ Has (fun b => b < w.heap.size) L.p n R w' ∧ Below w.heap.size w w') := fun wx L hx hra hfo => by
    obtain ⟨ga, ca, gw, cw, hva, hvw, -⟩ := hra.forms
    refine (read_calls (B := w.heap.size) (ga := ga) (ca := ca) (gw := gw) (cw := cw) (p := L.p) hR hra.lenW hra.lenS hok (fun wy rb hy hr => ⟨L, ⟨rfl, hva, hvw⟩, hra.below hy, hfo, hr, Below.refl _ _, Nat.le_trans hx.size hy.size⟩) (Sl.below hb hx) hvB hx.size hlen).mono fun e w' ⟨q1, ⟨L', q2, q3, q4⟩, q5⟩ => ⟨q1, ⟨⟨L', q2, q3, fun b hb hlt => by have := q4 b hb; omega⟩, fun b hb => ?_⟩, hx.trans q5⟩
    have := hx.size
    have := q5.size
    omega
  obtain ⟨ab, cb, rfl, -, -⟩ := hb
  obtain ⟨vs, vr, vw, rfl, h1, h2, h3⟩ := hn
  obtain ⟨sa, sc, rfl⟩ := h1.form
  obtain ⟨ar, cr, rfl⟩ := h2.form
  obtain ⟨aw, cw, rfl⟩ := h3.form
  have hmf : ∀ (fn : Fn) (first cap : Array Value) (w : World), (Instr.makeFunc fn first cap).run Tryd.prog w = .ok (.func fn first cap) w := fun _ _ _ _ => rfl
  have hb0 : Below w.heap.size w (w.alloc (.cells #[.slice sa n.streams.length sc, .slice ar n.sources.length cr, .slice aw n.workers.length cw] 29)) := (Below.refl _ _).alloc (Nat.le_refl _) _
  have HB0 := hide hb0
  clear h1 h2 h3 hR hb0 hvB
  generalize (bytesOf (saveNums n R)).length = bl at *
  generalize n.workers.length = wl at *
  generalize n.streams.length = sl at *
  generalize n.sources.length = rl at *
  go_enter Tryd.func19, Tryd.ntmps19
  go_wp2_with fail
  refine (unhide HN _ HB0.out).mono ?_
  rintro e w1 ⟨L, rfl, hra, hfo, hb1⟩
  have HB1 : Hid (Below w.heap.size w w1) := HB0.out.trans (hb1.mono HB0.out.size)
  have HR1 := hide (HR.out w1 L HB1.out hra fun b hb => Nat.le_trans HB0.out.size (hfo b hb))
  clear hra hfo hb1 HR HN HB0
  go_wp2_with fail
  refine (unhide HR1).mono ?_
  rintro e w2 ⟨rfl, h1, h2⟩
  have H1 := hide h1
  have H2 := hide h2
  clear h1 h2 HR1
  go_wp2
  go_ret2
  exact ⟨L.p, rfl, H1.out, H2.out⟩

end Go.Proofs.YthfdgdfnflilfaaDoor
/- millracekeep: sure. -/
namespace Go.Proofs.YthfdgdfnflilfaaDoor
open Go.RowKit Go.Conc

theorem netOne_at {w : World} {a b c d e : Nat} (h0 : w.heap[a]? = some (.cells #[.int .i64 2, .int .i64 1] 3 (0, 0))) (h1 : w.heap[b]? = some (.cells #[.int .i64 5, .int .i64 6] 3 (0, 0)))
    (h2 : w.heap[c]? = some (.cells #[.int .i64 0, .slice (some ⟨b, 0, none⟩) 2 2] 25 (0, 0)))
    (h3 : w.heap[d]? = some (.cells #[.int .i64 1, .int .i64 0, .int .i64 0, .int .i64 4, .int .i64 4, .int .i64 0, .int .i64 0, .int .i64 0, .int .i64 2, .int .i64 0, .int .i64 1, .int .i64 0, .int .i64 9, .int .i64 0, .int .i64 0, .int .i64 0] 31 (0, 0)))
    (h4 : w.heap[e]? = some (.cells #[.slice (some ⟨d, 0, none⟩) 4 4] 32 (0, 0))) :
    NetAt w (.agg #[.slice (some ⟨a, 0, none⟩) 2 2, .slice (some ⟨c, 0, none⟩) 1 1, .slice (some ⟨e, 0, none⟩) 1 1]) netOne := by
  refine ⟨_, _, _, rfl, ⟨some ⟨a, 0, none⟩, 2, rfl, by decide, by decide, Or.inr ⟨a, 0, rfl, fun i hi j hj => ?_⟩⟩, ⟨fun _ => .slice (some ⟨b, 0, none⟩) 2 2, ⟨some ⟨c, 0, none⟩, 1, rfl, by decide, by decide, Or.inr ⟨c, 0, rfl, fun i hi j hj => ?_⟩⟩, fun i hi => ?_⟩, ⟨fun _ => .slice (some ⟨d, 0, none⟩) 4 4, ⟨some ⟨e, 0, none⟩, 1, rfl, by decide, by decide, Or.inr ⟨e, 0, rfl, fun i hi j hj => ?_⟩⟩, fun i hi => ?_⟩⟩
  · have hi' : i < 2 := hi
    have hc : (i = 0 ∨ i = 1) ∧ j = 0 := by omega
    obtain ⟨rfl | rfl, rfl⟩ := hc <;> exact row_cell h0 rfl
  · have hi' : i < 1 := hi
    have hc : i = 0 ∧ (j = 0 ∨ j = 1) := by omega
    obtain ⟨rfl, rfl | rfl⟩ := hc <;> exact row_cell h2 rfl
  · have hi' : i < 1 := hi
    have hc : i = 0 := by omega
    subst hc
    refine ⟨some ⟨b, 0, none⟩, 2, rfl, by simp [netOne], by simp [netOne], Or.inr ⟨b, 0, rfl, fun i hi j hj => ?_⟩⟩
    have hi' : i < 2 := hi
    have hc : (i = 0 ∨ i = 1) ∧ j = 0 := by omega
    obtain ⟨rfl | rfl, rfl⟩ := hc <;> exact row_cell h1 rfl
  · have hi' : i < 1 := hi
    have hc : i = 0 ∧ j = 0 := by omega
    obtain ⟨rfl, rfl⟩ := hc
    exact row_cell h4 rfl
  · have hi' : i < 1 := hi
    have hc : i = 0 := by omega
    subst hc
    refine ⟨some ⟨d, 0, none⟩, 4, rfl, by simp [netOne], by simp [netOne], Or.inr ⟨d, 0, rfl, fun i hi j hj => ?_⟩⟩
    have hi' : i < 4 := hi
    have hc : (i = 0 ∨ i = 1 ∨ i = 2 ∨ i = 3) ∧ (j = 0 ∨ j = 1 ∨ j = 2 ∨ j = 3) := by omega
    obtain ⟨rfl | rfl | rfl | rfl, rfl | rfl | rfl | rfl⟩ := hc <;> exact row_cell h3 rfl

theorem netTwo_at {w : World} {a c d e : Nat} (h0 : w.heap[a]? = some (.cells #[.int .i64 1, .int .i64 1] 3 (0, 0)))
    (h2 : w.heap[c]? = some (.cells #[.int .i64 2, .int .i64 0, .int .i64 0, .int .i64 0, .int .i64 2, .int .i64 0, .int .i64 0, .int .i64 0, .int .i64 2, .int .i64 0, .int .i64 1, .int .i64 0] 31 (0, 0)))
    (h3 : w.heap[d]? = some (.cells #[.int .i64 1, .int .i64 0, .int .i64 1, .int .i64 0, .int .i64 1, .int .i64 0, .int .i64 0, .int .i64 0, .int .i64 1, .int .i64 0, .int .i64 0, .int .i64 0] 31 (0, 0)))
    (h4 : w.heap[e]? = some (.cells #[.slice (some ⟨c, 0, none⟩) 3 3, .slice (some ⟨d, 0, none⟩) 3 3] 32 (0, 0))) :
    NetAt w (.agg #[.slice (some ⟨a, 0, none⟩) 2 2, .slice none 0 0, .slice (some ⟨e, 0, none⟩) 2 2]) netTwo := by
  refine ⟨_, _, _, rfl, ⟨some ⟨a, 0, none⟩, 2, rfl, by decide, by decide, Or.inr ⟨a, 0, rfl, fun i hi j hj => ?_⟩⟩, ⟨fun _ => .bool false, ⟨none, 0, rfl, by decide, by decide, Or.inl rfl⟩, fun i hi => ?_⟩, ⟨fun i => if i = 0 then .slice (some ⟨c, 0, none⟩) 3 3 else .slice (some ⟨d, 0, none⟩) 3 3, ⟨some ⟨e, 0, none⟩, 2, rfl, by decide, by decide, Or.inr ⟨e, 0, rfl, fun i hi j hj => ?_⟩⟩, fun i hi => ?_⟩⟩
  · have hi' : i < 2 := hi
    have hc : (i = 0 ∨ i = 1) ∧ j = 0 := by omega
    obtain ⟨rfl | rfl, rfl⟩ := hc <;> exact row_cell h0 rfl
  · exact absurd hi (by have : netTwo.sources.length = 0 := rfl; omega)
  · have hi' : i < 2 := hi
    have hc : (i = 0 ∨ i = 1) ∧ j = 0 := by omega
    obtain ⟨rfl | rfl, rfl⟩ := hc <;> exact row_cell h4 rfl
  · have hi' : i < 2 := hi
    have hc : i = 0 ∨ i = 1 := by omega
    rcases hc with rfl | rfl
    · refine ⟨some ⟨c, 0, none⟩, 3, rfl, by simp [netTwo], by simp [netTwo], Or.inr ⟨c, 0, rfl, fun i hi j hj => ?_⟩⟩
      have hi' : i < 3 := hi
      have hc : (i = 0 ∨ i = 1 ∨ i = 2) ∧ (j = 0 ∨ j = 1 ∨ j = 2 ∨ j = 3) := by omega
      obtain ⟨rfl | rfl | rfl, rfl | rfl | rfl | rfl⟩ := hc <;> exact row_cell h2 rfl
    · refine ⟨some ⟨d, 0, none⟩, 3, rfl, by simp [netTwo], by simp [netTwo], Or.inr ⟨d, 0, rfl, fun i hi j hj => ?_⟩⟩
      have hi' : i < 3 := hi
      have hc : (i = 0 ∨ i = 1 ∨ i = 2) ∧ (j = 0 ∨ j = 1 ∨ j = 2 ∨ j = 3) := by omega
      obtain ⟨rfl | rfl | rfl, rfl | rfl | rfl | rfl⟩ := hc <;> exact row_cell h3 rfl

theorem small_init {N : Net} (h : validB N = true) : SmallR N (initR N N.streams) := fun s hs => by have := init_words h s hs; omega

end Go.Proofs.YthfdgdfnflilfaaDoor
/- millracekeep: sure, the walk. -/
namespace Go.Proofs.YthfdgdfnflilfaaDoor
open Go.RowKit Go.Conc

theorem heap_new' {w : World} {o : Obj} {k : Nat} (h : k = w.heap.size) : (w.alloc o).heap[k]? = some o := by subst h; exact heap_alloc_new _ _
theorem heap_old' {w : World} {o o' : Obj} {k : Nat} (h : k < w.heap.size) (hh : w.heap[k]? = some o') : (w.alloc o).heap[k]? = some o' := (Below.heap_alloc _ _ _ h).trans hh
theorem allocs5 (w : World) (o0 o1 o2 o3 o4 : Obj) : (((((w.alloc o0).alloc o1).alloc o2).alloc o3).alloc o4).heap[w.heap.size]? = some o0 ∧ (((((w.alloc o0).alloc o1).alloc o2).alloc o3).alloc o4).heap[w.heap.size + 1]? = some o1 ∧
    (((((w.alloc o0).alloc o1).alloc o2).alloc o3).alloc o4).heap[w.heap.size + 1 + 1]? = some o2 ∧ (((((w.alloc o0).alloc o1).alloc o2).alloc o3).alloc o4).heap[w.heap.size + 1 + 1 + 1]? = some o3 ∧ (((((w.alloc o0).alloc o1).alloc o2).alloc o3).alloc o4).heap[w.heap.size + 1 + 1 + 1 + 1]? = some o4 := by
  refine ⟨?_, ?_, ?_, ?_, ?_⟩
  all_goals (repeat (first | exact heap_new' (by simp) | refine heap_old' (by first | (simp; done) | (simp; omega)) ?_))
theorem allocs6 (w : World) (o0 o1 o2 o3 o4 o5 : Obj) : ((((((w.alloc o0).alloc o1).alloc o2).alloc o3).alloc o4).alloc o5).heap[w.heap.size]? = some o0 ∧ ((((((w.alloc o0).alloc o1).alloc o2).alloc o3).alloc o4).alloc o5).heap[w.heap.size + 1]? = some o1 ∧
    ((((((w.alloc o0).alloc o1).alloc o2).alloc o3).alloc o4).alloc o5).heap[w.heap.size + 1 + 1]? = some o2 ∧ ((((((w.alloc o0).alloc o1).alloc o2).alloc o3).alloc o4).alloc o5).heap[w.heap.size + 1 + 1 + 1]? = some o3 ∧ ((((((w.alloc o0).alloc o1).alloc o2).alloc o3).alloc o4).alloc o5).heap[w.heap.size + 1 + 1 + 1 + 1]? = some o4 := by
  refine ⟨?_, ?_, ?_, ?_, ?_⟩
  all_goals (repeat (first | exact heap_new' (by simp) | refine heap_old' (by first | (simp; done) | (simp; omega)) ?_))

set_option maxRecDepth 100000 in
set_option maxHeartbeats 4000000 in
theorem sure_calls (w : World) : Calls Tryd.prog 8 #[] w fun e w' => e = .returned (.bool true) ∧ Below w.heap.size w w' := by
  have HN1 : Hid (∀ wx, NetAt wx (.agg #[.slice (some ⟨w.heap.size, 0, none⟩) 2 2, .slice (some ⟨w.heap.size + 1 + 1, 0, none⟩) 1 1, .slice (some ⟨w.heap.size + 1 + 1 + 1 + 1, 0, none⟩) 1 1]) netOne → Calls Tryd.prog 10 #[.agg #[.slice (some ⟨w.heap.size, 0, none⟩) 2 2, .slice (some ⟨w.heap.size + 1 + 1, 0, none⟩) 1 1, .slice (some ⟨w.heap.size + 1 + 1 + 1 + 1, 0, none⟩) 1 1]] wx fun e w' => ∃ p, e = .returned (.tuple #[.pointer (some ⟨p, 0, none⟩), .int .i64 0]) ∧ Has (fun b => b < wx.heap.size) p netOne (initR netOne netOne.streams) w' ∧ Below wx.heap.size wx w') := fun wx hx => has_new hx netOne_ok
  have HF1 : Hid (∀ wx p, Has (fun b => b < w.heap.size) p netOne (initR netOne netOne.streams) wx → Calls Tryd.prog 12 #[.pointer (some ⟨p, 0, none⟩), .int .i64 100] wx fun e w' => e = .returned (.tuple #[.int .i64 9, .int .i64 3]) ∧ Has (fun b => b < w.heap.size) p netOne (oneAt 9) w' ∧ Keeps (fun b => b < w.heap.size) wx w') := fun wx p hx => by
    refine (has_flow hx (init_roomR netOne_ok) (fun s hs => by have := init_words netOne_ok s hs; omega) 100 (by decide)).mono fun e w' ⟨d, b, S, h1, h2, h3, h4⟩ => ?_
    obtain ⟨rfl, rfl, rfl⟩ := flow_one.unique h1
    exact ⟨h2, h3, h4⟩
  have HH1 : Hid (∀ wx p, Has (fun b => b < w.heap.size) p netOne (oneAt 9) wx → Calls Tryd.prog 13 #[.pointer (some ⟨p, 0, none⟩), .int .i64 1] wx fun e w' => ∃ g c', e = .returned (.tuple #[.slice (some ⟨g, 0, none⟩) 2 c', .int .i64 0]) ∧ w'.cell? ⟨g, 0, none⟩ = some (.int .i64 10) ∧ w'.cell? ⟨g, 1, none⟩ = some (.int .i64 12) ∧ Below wx.heap.size wx w') := fun wx p hx => by
    refine (has_history hx 1 (by decide)).mono fun e w' ⟨a', c', h1, h2, h3⟩ => ?_
    rw [oneAt_hist] at h1 h2
    obtain ⟨g, rfl, -, q0⟩ := own_get h2 0 (by decide)
    obtain ⟨g', hg', -, q1⟩ := own_get h2 1 (by decide)
    cases hg'
    exact ⟨g, c', h1, q0, q1, h3⟩
  have HN2 : Hid (∀ (n : Nat) wx, NetAt wx (.agg #[.slice (some ⟨n, 0, none⟩) 2 2, .slice none 0 0, .slice (some ⟨n + 1 + 1 + 1, 0, none⟩) 2 2]) netTwo → Calls Tryd.prog 10 #[.agg #[.slice (some ⟨n, 0, none⟩) 2 2, .slice none 0 0, .slice (some ⟨n + 1 + 1 + 1, 0, none⟩) 2 2]] wx fun e w' => ∃ p, e = .returned (.tuple #[.pointer (some ⟨p, 0, none⟩), .int .i64 0]) ∧ Has (fun b => b < wx.heap.size) p netTwo (initR netTwo netTwo.streams) w' ∧ Below wx.heap.size wx w') := fun n wx hx => has_new hx netTwo_ok
  have HS1 : Hid (∀ wx p, Has (fun b => b < w.heap.size) p netTwo (initR netTwo netTwo.streams) wx → Calls Tryd.prog 17 #[.pointer (some ⟨p, 0, none⟩), .int .i64 0] wx fun e w' => e = .returned (.tuple #[.int .i64 1, .int .i64 0]) ∧ Has (fun b => b < w.heap.size) p netTwo twoAt w' ∧ Keeps (fun b => b < w.heap.size) wx w') := fun wx p hx => by
    have := has_step hx 0 (by decide) (small_init netTwo_ok)
    rw [stepR, if_pos two_a, two_a] at this
    exact this
  have hsm2 : SmallR netTwo twoAt := fun s hs => by
    have h1 := (doStep_s (N := netTwo) (R := initR netTwo netTwo.streams) (k := 0) (s := s) (by simpa [initR] using hs)).2
    have h2 := init_words netTwo_ok s hs
    unfold twoAt
    omega
  have HS2 : Hid (∀ wx p, Has (fun b => b < w.heap.size) p netTwo twoAt wx → Calls Tryd.prog 17 #[.pointer (some ⟨p, 0, none⟩), .int .i64 0] wx fun e w' => e = .returned (.tuple #[.int .i64 3, .int .i64 0]) ∧ Has (fun b => b < w.heap.size) p netTwo twoAt w' ∧ Keeps (fun b => b < w.heap.size) wx w') := fun wx p hx => by
    have := has_step hx 0 (by decide) hsm2
    rw [stepR, if_neg (by rw [two_b]; decide), two_b] at this
    exact this
  have HS3 : Hid (∀ wx p, Has (fun b => b < w.heap.size) p netTwo twoAt wx → Calls Tryd.prog 17 #[.pointer (some ⟨p, 0, none⟩), .int .i64 1] wx fun e w' => e = .returned (.tuple #[.int .i64 2, .int .i64 0]) ∧ Has (fun b => b < w.heap.size) p netTwo twoAt w' ∧ Keeps (fun b => b < w.heap.size) wx w') := fun wx p hx => by
    have := has_step hx 1 (by decide) hsm2
    rw [stepR, if_neg (by rw [two_c]; decide), two_c] at this
    exact this
  have hro2 : RoomR netTwo twoAt := fun s hs => by
    rw [show twoAt = doStep netTwo (initR netTwo netTwo.streams) 0 from rfl, (doStep_s (by simpa [initR] using hs)).1]
    exact init_roomR netTwo_ok s hs
  have HG1 : Hid (∀ wx p, Has (fun b => b < w.heap.size) p netTwo twoAt wx → Calls Tryd.prog 20 #[.pointer (some ⟨p, 0, none⟩)] wx fun e w' => e = .returned (.tuple #[.int .i64 0, .int .i64 0]) ∧ Has (fun b => b < w.heap.size) p netTwo (growS twoAt 0) w' ∧ Keeps (fun b => b < w.heap.size) wx w') := fun wx p hx => by
    refine (has_grow hx hro2).mono fun e w' ⟨a, b, o, h1, h2, h3, h4⟩ => ?_
    obtain ⟨rfl, rfl, rfl⟩ := grows_one h1 two_d
    exact ⟨h2, h3, h4⟩
  have HG2 : Hid (∀ wx p, Has (fun b => b < w.heap.size) p netTwo (growS twoAt 0) wx → Calls Tryd.prog 20 #[.pointer (some ⟨p, 0, none⟩)] wx fun e w' => e = .returned (.tuple #[.int .i64 0, .int .i64 3]) ∧ Keeps (fun b => b < w.heap.size) wx w') := fun wx p hx => by
    have hro3 : RoomR netTwo (growS twoAt 0) := fun s hs => by
      have h1 : s = 0 ∨ s = 1 := by have : netTwo.streams.length = 2 := rfl; omega
      rcases h1 with rfl | rfl <;> decide +kernel
    refine (has_grow hx hro3).mono fun e w' ⟨a, b, o, h1, h2, h3, h4⟩ => ?_
    obtain ⟨rfl, rfl, rfl⟩ := grows_one h1 two_o
    exact ⟨h2, h4⟩
  clear hsm2 hro2
  go_enter Tryd.func8, Tryd.ntmps8
  go_wp2_with fail
  refine (unhide HN1 _ (netOne_at (allocs6 w _ _ _ _ _ _).1 (allocs6 w _ _ _ _ _ _).2.1 (allocs6 w _ _ _ _ _ _).2.2.1 (allocs6 w _ _ _ _ _ _).2.2.2.1 (allocs6 w _ _ _ _ _ _).2.2.2.2)).mono ?_
  rintro e w1 ⟨p, rfl, hr1, hb1⟩
  have hb0 : Below w.heap.size w w1 := by
    refine Below.trans ?_ (hb1.mono (by simp; omega))
    refine ((((((Below.refl _ _).alloc ?_ _).alloc ?_ _).alloc ?_ _).alloc ?_ _).alloc ?_ _).alloc ?_ _ <;> simp <;> omega
  have hr1' : Has (fun b => b < w.heap.size) p netOne (initR netOne netOne.streams) w1 := hr1.mono fun b hb => by simp; omega
  have HR1 := hide hr1'
  have HB0 := hide hb0
  clear hr1 hr1' hb1 hb0 HN1
  go_wp2_with fail
  refine (unhide HF1 _ _ HR1.out).mono ?_
  rintro e w2 ⟨rfl, hr2, hk2⟩
  have HR2 := hide hr2
  have HB2 : Hid (Below w.heap.size w w2) := HB0.out.trans (hk2.below HB0.out.size fun b hb => hb)
  clear hr2 hk2 HR1 HB0 HF1
  go_wp2_with fail
  refine (unhide HH1 _ _ HR2.out).mono ?_
  rintro e w3 ⟨g, c', rfl, d0, d1, hb3⟩
  have HB3 : Hid (Below w.heap.size w w3) := HB2.out.trans (hb3.mono HB2.out.size)
  clear hb3 HR2 HB2 HH1
  go_wp2_with fail
  refine (unhide HN2 w3.heap.size _ (netTwo_at (allocs5 w3 _ _ _ _ _).1 (allocs5 w3 _ _ _ _ _).2.1 (allocs5 w3 _ _ _ _ _).2.2.1 (allocs5 w3 _ _ _ _ _).2.2.2.1)).mono ?_
  rintro e w4 ⟨p2, rfl, hr4, hb4⟩
  have hb0 : Below w.heap.size w w4 := by
    have hs := HB3.out.size
    refine Below.trans ?_ (hb4.mono (by simp; omega))
    refine (((((HB3.out.alloc ?_ _).alloc ?_ _).alloc ?_ _).alloc ?_ _).alloc ?_ _) <;> first | omega | (simp; omega)
  have hr4' : Has (fun b => b < w.heap.size) p2 netTwo (initR netTwo netTwo.streams) w4 := hr4.mono fun b hb => by have := HB3.out.size; simp; omega
  have HR1 := hide hr4'
  have HB0 := hide hb0
  clear hr4 hr4' hb4 hb0 HN2 d0 d1 HB3
  go_wp2_with fail
  refine (unhide HS1 _ _ HR1.out).mono ?_
  rintro e w5 ⟨rfl, hr, hk⟩
  have HR2 := hide hr
  have HB2 : Hid (Below w.heap.size w w5) := HB0.out.trans (hk.below HB0.out.size fun b hb => hb)
  clear hr hk HR1 HB0 HS1
  go_wp2_with fail
  refine (unhide HS2 _ _ HR2.out).mono ?_
  rintro e w6 ⟨rfl, hr, hk⟩
  have HR1 := hide hr
  have HB0 : Hid (Below w.heap.size w w6) := HB2.out.trans (hk.below HB2.out.size fun b hb => hb)
  clear hr hk HR2 HB2 HS2
  go_wp2_with fail
  refine (unhide HS3 _ _ HR1.out).mono ?_
  rintro e w7 ⟨rfl, hr, hk⟩
  have HR2 := hide hr
  have HB2 : Hid (Below w.heap.size w w7) := HB0.out.trans (hk.below HB0.out.size fun b hb => hb)
  clear hr hk HR1 HB0 HS3
  go_wp2_with fail
  refine (unhide HG1 _ _ HR2.out).mono ?_
  rintro e w8 ⟨rfl, hr, hk⟩
  have HR1 := hide hr
  have HB0 : Hid (Below w.heap.size w w8) := HB2.out.trans (hk.below HB2.out.size fun b hb => hb)
  clear hr hk HR2 HB2 HG1
  go_wp2_with fail
  refine (unhide HG2 _ _ HR1.out).mono ?_
  rintro e w9 ⟨rfl, hk⟩
  have HB2 : Hid (Below w.heap.size w w9) := HB0.out.trans (hk.below HB0.out.size fun b hb => hb)
  clear hk HR1 HB0 HG2
  go_wp2
  go_ret
  exact ⟨rfl, HB2.out⟩

end Go.Proofs.YthfdgdfnflilfaaDoor
/- millracekeep: what Bounded keeps. -/
namespace Go.Proofs.YthfdgdfnflilfaaDoor
open Go.RowKit Go.Conc

theorem Has.set {A : Nat → Prop} {p : Nat} {N : Net} {R : Rc} {w : World} (h : Has A p N R w) {q : Addr} (hq : A q.block) (v : Value) : Has A p N R (w.setCell q v) := by
  obtain ⟨L, h1, h2, h3⟩ := h.ex
  refine ⟨⟨L, h1, h2.frame fun b hb => Below.heap_setCell _ _ _ _ (fun e => h3 b hb (e ▸ hq)), h3⟩, fun b hb => ?_⟩
  have := h.lt b hb
  simpa [World.setCell] using this

/-- Rooms are the net's and what they grew by. -/
def GrewH (N : Net) (R : Rc) (M : List Int) : Prop :=
  M.length = N.streams.length ∧ ∀ s (_ : s < N.streams.length), if heldB N s = true then ((R.s s).room : Int) = N.streams.getD s 0 + M.getD s 0 ∧ 1 ≤ (R.s s).room ∧ (R.s s).room ≤ 40 ∧ 0 ≤ M.getD s 0 else M.getD s 0 = 0

structure BInv (N : Net) (R : Rc) (M : List Int) (k : Nat) : Prop where
  room : RoomR N R
  words : ∀ s, s < N.streams.length → (R.s s).words.length ≤ 50 + k
  grew : GrewH N R M

theorem BInv.init {N : Net} (h : validB N = true) : BInv N (initR N N.streams) (List.replicate N.streams.length 0) 0 := by
  refine ⟨init_roomR h, fun s hs => init_words h s hs, by simp, fun s hs => ?_⟩
  have hz : (List.replicate N.streams.length (0 : Int)).getD s 0 = 0 := by simp [List.getD, hs]
  rw [hz]
  obtain ⟨h1, h2, h3⟩ := init_room h s hs
  split
  · rw [h1, getD_eq _ _ _ hs]; omega
  · rfl

theorem BInv.mono {N : Net} {R : Rc} {M : List Int} {k : Nat} (h : BInv N R M k) : BInv N R M (k + 1) := ⟨h.room, fun s hs => by have := h.words s hs; omega, h.grew⟩

theorem BInv.step {N : Net} {R : Rc} {M : List Int} {k : Nat} (h : BInv N R M k) (hl : R.S.length = N.streams.length) (c : Nat) : BInv N (doStep N R c) M (k + 1) := by
  have hs' : ∀ s, s < N.streams.length → _ := fun s hs => doStep_s (N := N) (R := R) (k := c) (s := s) (by omega)
  refine ⟨fun s hs => by rw [(hs' s hs).1]; exact h.room s hs, fun s hs => by have := (hs' s hs).2; have := h.words s hs; omega, h.grew.1, fun s hs => ?_⟩
  rw [(hs' s hs).1]; exact h.grew.2 s hs

theorem growS_words (R : Rc) (t s : Nat) : ((growS R t).s s).words = (R.s s).words := by
  by_cases e : s = t
  · subst e
    rcases Nat.lt_or_ge s R.S.length with h | h
    · have : (growS R s).s s = { R.s s with room := (R.s s).room + 1 } := getD_set_self _ _ _ _ h
      rw [this]
    · simp [growS, Rc.s, List.set_eq_of_length_le h]
  · have : (growS R t).s s = R.s s := getD_set_ne _ _ _ _ _ (fun e' => e e'.symm)
    rw [this]

theorem BInv.grow {N : Net} {R : Rc} {M : List Int} {k t : Nat} (h : BInv N R M k) (hl : R.S.length = N.streams.length) (hv : validB N = true) {a b : Int} (hg : Grows N R a b (some t)) : BInv N (growS R t) (M.set t (M.getD t 0 + 1)) (k + 1) := by
  obtain ⟨-, -, ht, hr⟩ := grows_ok hg
  have hh : heldB N t = true := by
    cases hg with
    | grows h1 h2 h3 => obtain ⟨-, q1, q2⟩ := needs_stream hv h2.2.1; simp [heldB, q1, q2]
  refine ⟨fun s hs => ?_, fun s hs => by rw [growS_words]; have := h.words s hs; omega, by simp [h.grew.1], fun s hs => ?_⟩
  · rw [growS_s _ _ _ (by omega)]
    have := h.room s hs
    split
    · rename_i e; subst e; omega
    · omega
  · have hq := h.grew.2 s hs
    by_cases e : s = t
    · subst e
      rw [if_pos hh] at hq ⊢
      rw [growS_s _ _ _ (by omega), if_pos rfl, getD_set_self _ _ _ _ (by rw [h.grew.1]; exact hs)]
      omega
    · rw [growS_s _ _ _ (by omega), if_neg e, getD_set_ne _ _ _ _ _ (fun e' => e e'.symm)]
      exact hq

theorem doStep_steps {N : Net} {R : Rc} {c : Nat} (hc : c < R.W.length) (h : stateOf N R c = 1) : ((doStep N R c).w c).steps = wrap64 ((R.w c).steps + 1) := by
  cases hi : insAt N c (R.w c) with
  | none => simp [stateOf, hi] at h
  | some i =>
    have : (doStep N R c).w c = nextW (R.w c) i (R.s i.b.toNat).words[(R.s i.b.toNat).read]? := by
      rw [doStep_some hi]; exact getD_set_self _ _ _ _ hc
    rw [this]
    unfold nextW
    repeat' split
    all_goals rfl

theorem goesB_succ (N : Net) (R : Rc) (k : Nat) : goesB N R (k + 1) = (goesB N R k || stateOf N R k == 1) := range_any_succ _ _

theorem ints_of_blk {w : World} {g : Nat} {M : List Int} (h : w.heap[g]? = some (.cells (intRow M).toArray 3 (0, 0))) (hl : M.length ≤ 8) : IntsAt w (.slice (some ⟨g, 0, none⟩) M.length M.length) M := by
  refine ⟨some ⟨g, 0, none⟩, M.length, rfl, by omega, Nat.le_refl _, Or.inr ⟨g, 0, rfl, fun i hi j hj => ?_⟩⟩
  have hj0 : j = 0 := by omega
  subst hj0
  have := row_cell (i := i) (v := .int .i64 (M.getD i 0)) h (by rw [intRow_get _ _ hi, getD_eq _ _ _ hi])
  simpa using this

theorem intRow_set (l : List Int) (i : Nat) (x : Int) : intRow (l.set i x) = (intRow l).set i (.int .i64 x) := by simp [intRow, List.map_set]

/-- Bounded's memory between two rounds: A holds all that was there, the net's box, and the rooms' row. -/
structure BAt (w : World) (box : Obj) (p g : Nat) (N : Net) (R : Rc) (M : List Int) (k : Nat) (wr : World) : Prop where
  has : Has (fun b => b < w.heap.size + 1 ∨ b = g) p N R wr
  inv : BInv N R M k
  row : wr.heap[g]? = some (.cells (intRow M).toArray 3 (0, 0))
  bel : Below (w.heap.size + 1) (w.alloc box) wr
  gt : w.heap.size + 1 ≤ g

theorem BAt.below {w wr w' : World} {box : Obj} {p g : Nat} {N : Net} {R : Rc} {M : List Int} {k : Nat} (h : BAt w box p g N R M k wr) (hb : Below wr.heap.size wr w') : BAt w box p g N R M k w' :=
  ⟨h.has.below hb, h.inv, (hb.block g (lt_of_blk h.row)).trans h.row, h.bel.trans (hb.mono (by have := h.bel.size; simp at this; omega)), h.gt⟩

theorem BAt.keeps {w wr w' : World} {box : Obj} {p g : Nat} {N : Net} {R S : Rc} {M : List Int} {k : Nat} (h : BAt w box p g N R M k wr) (hs : Has (fun b => b < w.heap.size + 1 ∨ b = g) p N S w') (hk : Keeps (fun b => b < w.heap.size + 1 ∨ b = g) wr w') (hi : BInv N S M (k + 1)) : BAt w box p g N S M (k + 1) w' := by
  have hsz := h.bel.size
  simp at hsz
  refine ⟨hs, hi, (hk.block g (lt_of_blk h.row) (fun e => e (Or.inr rfl))).trans h.row, h.bel.trans (hk.below (by omega) fun b hb => Or.inl hb), h.gt⟩

theorem BAt.mono {w wr : World} {box : Obj} {p g : Nat} {N : Net} {R : Rc} {M : List Int} {k : Nat} (h : BAt w box p g N R M k wr) : BAt w box p g N R M (k + 1) wr := ⟨h.has, h.inv.mono, h.row, h.bel, h.gt⟩

end Go.Proofs.YthfdgdfnflilfaaDoor
/- What holds of races that are stepped, grown, saved and loaded. -/
namespace Go.Proofs.YthfdgdfnflilfaaDoor
open Go.RowKit Go.Conc

structure NetFits (N : Net) : Prop where
  c : ∀ k, k < N.workers.length → ∀ i ∈ codeOf N k, Fits64 i.c
  words : ∀ s ∈ N.sources, ∀ x ∈ s.words, Fits64 x

structure FitsA (x : Wk) : Prop where
  r : ∀ i, Fits64 (x.r i)
  steps : Fits64 x.steps

structure Good (N : Net) (R : Rc) (c : Nat) : Prop where
  run : ∃ es, (grun N N.streams es).1 = R ∧ ∀ k, ((grun N N.streams es).2 k).length ≤ c
  room : RoomR N R
  grew : ∀ s, s < N.streams.length → if heldB N s = true then (N.streams.getD s 0).toNat ≤ (R.s s).room else (R.s s).room = (N.streams.getD s 0).toNat
  words : ∀ s, s < N.streams.length → (R.s s).words.length ≤ 50 + c
  fitsW : ∀ k, k < N.workers.length → FitsA (R.w k)
  fitsS : ∀ s, s < N.streams.length → ∀ x ∈ (R.s s).words, Fits64 x

theorem fits_zero : Fits64 0 := ⟨by decide, by decide⟩
theorem fits_wrap (x : Int) : Fits64 (wrap64 x) := by unfold Fits64 wrap64; omega
theorem fits_alu (op b c : Int) : Fits64 (alu op b c) := by
  unfold alu
  repeat' split
  all_goals first | exact fits_wrap _ | exact ⟨by decide, by decide⟩

theorem srcWords_fits {N : Net} (h : NetFits N) (s : Nat) : ∀ x ∈ srcWords N s, Fits64 x := by
  intro x hx
  unfold srcWords at hx
  cases hf : N.sources.find? fun y => y.stream == (s : Int) with
  | none => rw [hf] at hx; simp at hx
  | some y =>
    rw [hf] at hx
    exact h.words y (List.mem_of_find?_eq_some hf) x (by simpa using hx)

theorem initG_s {N : Net} (rooms : List Int) (s : Nat) (hs : s < N.streams.length) : (initR N rooms).s s = ⟨if srcd N s then srcWords N s else [], 0, (rooms.getD s 0).toNat⟩ := by simp [Rc.s, initR, List.getD, hs]
theorem initG_w (N : Net) (rooms : List Int) (k : Nat) : (initR N rooms).w k = ⟨0, fun _ => 0, 0⟩ := by
  simp only [Rc.w, initR, List.getD]
  rw [List.getElem?_replicate]
  split <;> rfl

theorem Good.init {N : Net} (hv : validB N = true) (hf : NetFits N) : Good N (initR N N.streams) 0 := by
  refine ⟨⟨[], rfl, fun _ => Nat.le_refl _⟩, init_roomR hv, fun s hs => ?_, fun s hs => init_words hv s hs, fun k _ => ?_, fun s hs => ?_⟩
  · rw [initG_s _ _ hs]; split
    · exact Nat.le_refl _
    · rfl
  · rw [initG_w]; exact ⟨fun _ => fits_zero, fits_zero⟩
  · rw [initG_s _ _ hs]
    dsimp only
    split
    · exact srcWords_fits hf s
    · intro x hx; cases hx

theorem Good.mono {N : Net} {R : Rc} {c : Nat} (h : Good N R c) : Good N R (c + 1) := ⟨let ⟨es, he, hc⟩ := h.run; ⟨es, he, fun k => Nat.le_succ_of_le (hc k)⟩, h.room, h.grew, fun s hs => by have := h.words s hs; omega, h.fitsW, h.fitsS⟩

theorem Good.gi {N : Net} {R : Rc} {c : Nat} (h : Good N R c) (hv : validB N = true) : ∃ es, (grun N N.streams es).1 = R ∧ GI N (grun N N.streams es) := by
  obtain ⟨es, he, -⟩ := h.run
  exact ⟨es, he, gi_run (valid_ok hv) _ es⟩

theorem nextW_fits {x : Wk} {i : Ins} {inp : Option Int} (hx : FitsA x) (hc : Fits64 i.c) (hi : ∀ v, inp = some v → Fits64 v) : FitsA (nextW x i inp) := by
  have hu : ∀ a v, Fits64 v → ∀ j, Fits64 (upd x.r a v j) := fun a v hv j => by
    unfold upd; split
    · exact hv
    · exact hx.r j
  unfold nextW
  split
  · split
    · rename_i v
      exact ⟨hu _ _ (hi v rfl), fits_wrap _⟩
    · exact ⟨hx.r, fits_wrap _⟩
  · split
    · exact ⟨hx.r, fits_wrap _⟩
    · split
      · exact ⟨hu _ _ hc, fits_wrap _⟩
      · split
        · exact ⟨hx.r, fits_wrap _⟩
        · split
          · exact ⟨hx.r, fits_wrap _⟩
          · exact ⟨hu _ _ (fits_alu _ _ _), fits_wrap _⟩

theorem Good.step {N : Net} {R : Rc} {c k : Nat} (h : Good N R c) (hv : validB N = true) (hf : NetFits N) (hk : k < N.workers.length) (hst : stateOf N R k = 1) : Good N (doStep N R k) (c + 1) := by
  obtain ⟨es, he, hcn⟩ := h.run
  have gi := gi_run (valid_ok hv) N.streams es
  have hlS : R.S.length = N.streams.length := by rw [← he]; exact gi.lenS
  have hlW : R.W.length = N.workers.length := by rw [← he]; exact gi.lenW
  have hs' : ∀ s, s < N.streams.length → _ := fun s hs => doStep_s (N := N) (R := R) (k := k) (s := s) (by omega)
  cases hi : insAt N k (R.w k) with
  | none => simp [stateOf, hi] at hst
  | some i =>
    have hm : i ∈ codeOf N k := List.mem_of_getElem? hi
    have hin : ∀ v, (R.s i.b.toNat).words[(R.s i.b.toNat).read]? = some v → Fits64 v := fun v hv' => by
      rcases Nat.lt_or_ge i.b.toNat N.streams.length with hb | hb
      · exact h.fitsS _ hb v (List.mem_of_getElem? hv')
      · have : R.s i.b.toNat = ⟨[], 0, 0⟩ := by simp only [Rc.s, List.getD]; rw [List.getElem?_eq_none (by omega)]; rfl
        rw [this] at hv'; simp at hv'
    refine ⟨⟨.inl k :: es, ?_, fun j => ?_⟩, fun s hs => by rw [(hs' s hs).1]; exact h.room s hs, fun s hs => by rw [(hs' s hs).1]; exact h.grew s hs, fun s hs => by have := (hs' s hs).2; have := h.words s hs; omega, fun j hj => ?_, fun s hs => ?_⟩
    · simp only [grun, ev]
      rw [if_pos ⟨hk, by rw [he]; exact hst⟩, he]
    · simp only [grun, ev]
      rw [if_pos ⟨hk, by rw [he]; exact hst⟩]
      have h1 := hcn j
      have h2 := hcn k
      dsimp only
      split
      · simp; omega
      · omega
    · by_cases e : j = k
      · subst e
        have : (doStep N R j).w j = nextW (R.w j) i (R.s i.b.toNat).words[(R.s i.b.toNat).read]? := by
          rw [doStep_some hi]; exact getD_set_self _ _ _ _ (by omega)
        rw [this]
        exact nextW_fits (h.fitsW j hj) (hf.c j hj i hm) hin
      · rw [doStep_w_ne N R k j e]; exact h.fitsW j hj
    · rw [doStep_some hi, step_s _ _ (by omega)]
      intro x hx
      split at hx
      · exact h.fitsS s hs x hx
      · split at hx
        · rcases List.mem_append.1 hx with h1 | h1
          · exact h.fitsS s hs x h1
          · rw [List.mem_singleton.1 h1]; exact (h.fitsW k hk).r _
        · exact h.fitsS s hs x hx

theorem Good.grow {N : Net} {R : Rc} {c t : Nat} (h : Good N R c) (hv : validB N = true) {a b : Int} (hg : Grows N R a b (some t)) : Good N (growS R t) (c + 1) := by
  obtain ⟨-, -, ht, hr⟩ := grows_ok hg
  obtain ⟨es, he, hcn⟩ := h.run
  have gi := gi_run (valid_ok hv) N.streams es
  have hlS : R.S.length = N.streams.length := by rw [← he]; exact gi.lenS
  have hh : heldB N t = true := by
    cases hg with
    | grows h1 h2 h3 => obtain ⟨-, q1, q2⟩ := needs_stream hv h2.2.1; simp [heldB, q1, q2]
  refine ⟨⟨.inr t :: es, by simp only [grun, ev]; rw [he], fun k => Nat.le_succ_of_le (hcn k)⟩, fun s hs => ?_, fun s hs => ?_, fun s hs => by rw [growS_words]; have := h.words s hs; omega, h.fitsW, fun s hs => by rw [growS_words]; exact h.fitsS s hs⟩
  · rw [growS_s _ _ _ (by omega)]
    have := h.room s hs
    split
    · rename_i e; subst e; omega
    · omega
  · have hq := h.grew s hs
    rw [growS_s _ _ _ (by omega)]
    split
    · rename_i hp; rw [if_pos hp] at hq; omega
    · rename_i hp
      rw [if_neg hp] at hq
      by_cases e : s = t
      · subst e; exact absurd hh hp
      · rw [if_neg e]; exact hq

theorem unused_uses {N : Net} {s : Nat} (h : used N s = false) : ∀ k, usesB (codeOf N k) 1 s = false := fun k => by
  cases hu : usesB (codeOf N k) 1 s
  · rfl
  · have := uses_pos hu
    simp [used] at h
    omega

theorem Good.saves {N : Net} {R : Rc} {c : Nat} (h : Good N R c) (hv : validB N = true) (hc : c ≤ 200000000) : Saves N R := by
  obtain ⟨es, he, gi⟩ := h.gi hv
  refine ⟨fun s hs hu _ => ?_, fun s hs => by have := h.words s hs; omega⟩
  rw [← he]
  exact gi.nord s hs fun k _ => unused_uses hu k

theorem Good.loads {A : Nat → Prop} {p : Nat} {w : World} {N : Net} {R : Rc} {c : Nat} (h : Good N R c) (ha : Has A p N R w) (hc : c ≤ 200000000) : Loads N (initR N N.streams) R := by
  obtain ⟨L, rfl, hra, -⟩ := ha.ex
  have hv := hra.ok
  obtain ⟨es, he, gi⟩ := h.gi hv
  refine ⟨hra.lenW, hra.lenS, fun k hk => (hra.wk k hk).le, fun k hk => ⟨fun i _ => (h.fitsW k hk).r i, (h.fitsW k hk).steps⟩, fun s hs => ?_⟩
  rw [initG_s _ _ hs]
  have hq := h.grew s hs
  have hst := hra.env.at' s hs
  refine ⟨fun hsr => ?_, fun hsr hh => ?_, fun hsr hh => ?_, hst.le, h.fitsS s hs, by have := h.words s hs; omega⟩
  · have hh : heldB N s = false := by simp [heldB, hsr]
    rw [if_neg (by rw [hh]; decide)] at hq
    refine ⟨?_, hq⟩
    dsimp only
    rw [if_pos hsr, ← he]
    exact gi.src s hs hsr
  · rw [if_neg (by rw [hh]; decide)] at hq
    have hu : used N s = false := by simpa [heldB, hsr] using hh
    refine ⟨?_, hq, ?_⟩
    · rw [← he]; exact gi.nord s hs fun k _ => unused_uses hu k
    · have := valid_room hv s hs
      dsimp only
      rw [getD_eq _ _ _ hs]; omega
  · rw [if_pos hh] at hq
    refine ⟨hq, h.room s hs, ?_⟩
    have hsome := hra.ch_iff hs
    rw [hh] at hsome
    obtain ⟨c', hc'⟩ := Option.isSome_iff_exists.1 hsome
    exact (hst.chan c' hc').2.1

/-- A worker's Steps count its instructions. -/
theorem steps_count {N : Net} (r : List Int) (k : Nat) (hk : k < N.workers.length) (ok : Ok N) : ∀ es, ((grun N r es).1.w k).steps = wrap64 (((grun N r es).2 k).length : Int)
  | [] => by simp only [grun]; rw [initG_w]; simp [wrap64]
  | e :: es => by
    have ih := steps_count r k hk ok es
    have gi := gi_run ok r es
    simp only [grun]
    cases e with
    | inr s => exact ih
    | inl j =>
      simp only [ev]
      split
      · rename_i hs
        by_cases e : k = j
        · subst e
          dsimp only
          rw [if_pos rfl, doStep_steps (by rw [gi.lenW]; exact hk) hs.2, ih]
          unfold wrap64
          simp
          omega
        · dsimp only
          rw [if_neg e, doStep_w_ne N _ j k e]; exact ih
      · exact ih

theorem steps_small (n : Nat) (h : n ≤ 1000000000000) : wrap64 (n : Int) = (n : Int) := by unfold wrap64; omega

end Go.Proofs.YthfdgdfnflilfaaDoor

/- Part 18: Load6, Save3, Save4, Load7, Load8, Keep3, Keep4. -/
import Derived.Defers
import Derived.Recover
import Derived.Test.YthfdgdfnflilfaaGreatDoorPart17
/- A race in memory: one worker, one stream put anew. -/
namespace Go.Proofs.YthfdgdfnflilfaaGreatDoor
open Go.RowKit Go.Conc

theorem foot_w {L : Lay} {N : Net} {k : Nat} (hk : k < N.workers.length) : Foot L N (L.wb k) := Or.inr (Or.inr (Or.inr (Or.inr ⟨k, hk, Or.inl rfl⟩)))
theorem foot_s {L : Lay} {N : Net} {s : Nat} (hs : s < N.streams.length) : Foot L N (L.st s) := Or.inr (Or.inr (Or.inr (Or.inl ⟨s, hs, Or.inl rfl⟩)))

theorem RaceAt.setW {L : Lay} {w w' : World} {N : Net} {R : Rc} (h : RaceAt L w N R) {k : Nat} (hk : k < N.workers.length) {y : Wk}
    (hw' : WkAt w' (L.wb k) (L.VC k) (codeOf N k) y) (hf : ∀ z, Foot L N z → z ≠ L.wb k → w'.heap[z]? = w.heap[z]?) : RaceAt L w' N ⟨R.W.set k y, R.S⟩ := by
  have hwb := (h.wk k hk).blk
  obtain ⟨⟨ga, gcap, hva, csa, hga, hcsa⟩, hsm⟩ := h.env.along
  obtain ⟨gw, wcap, hvw', csw, hgw, hcsw⟩ := h.rowW
  have hlk : k < R.W.length := by rw [h.lenW]; exact hk
  refine ⟨?_, ⟨⟨⟨ga, gcap, hva, csa, ?_, hcsa⟩, hsm⟩, fun t ht => ?_⟩, ⟨gw, wcap, hvw', csw, ?_, hcsw⟩, fun j hj => ?_, h.ch, h.injS, h.injW, by simp [h.lenW], h.lenS, h.ok⟩
  · rw [hf _ (Or.inl rfl) (ne_of_types h.blk hwb (by decide))]; exact h.blk
  · rw [hf _ (Or.inr (Or.inl (by rw [hva]; rfl))) (ne_of_types hga hwb (by decide))]; exact hga
  · have hT := h.env.at' t ht
    refine hT.stays fun z hz => hf z (Or.inr (Or.inr (Or.inr (Or.inl ⟨t, ht, hz⟩)))) ?_
    rcases hz with rfl | hz | hz
    · exact ne_of_types hT.blk hwb (by decide)
    · obtain ⟨cur, hc⟩ := own_block hT.own hz; exact ne_of_types hc hwb (by decide)
    · obtain ⟨⟨a, r, h1⟩, _⟩ := hT.chan z hz; exact chan_ne_cells h1 hwb
  · rw [hf _ (Or.inr (Or.inr (Or.inl (by rw [hvw']; rfl)))) (ne_of_types hgw hwb (by decide))]; exact hgw
  · by_cases e : j = k
    · subst e
      have : (⟨R.W.set j y, R.S⟩ : Rc).w j = y := getD_set_self _ _ _ _ hlk
      rw [this]; exact hw'
    · have : (⟨R.W.set k y, R.S⟩ : Rc).w j = R.w j := getD_set_ne _ _ _ _ _ (fun e' => e e'.symm)
      rw [this]
      have hJ := h.wk j hj
      refine hJ.stays fun z hz => hf z (Or.inr (Or.inr (Or.inr (Or.inr ⟨j, hj, hz⟩)))) ?_
      rcases hz with rfl | hz
      · exact h.injW j k hj hk e
      · obtain ⟨cur, hc⟩ := own_block hJ.own hz; exact ne_of_types hc hwb (by decide)

theorem RaceAt.setS {L : Lay} {w w' : World} {N : Net} {R : Rc} (h : RaceAt L w N R) {s : Nat} (hs : s < N.streams.length) {vw' : Value} {ch' : Option Nat} {m' : Sm}
    (hst : StAt w' (L.st s) vw' ch' (srcd N s) m') (hvw : ∀ g, vw'.ownBlock = some g → (L.VW s).ownBlock = some g ∨ w.heap.size ≤ g) (hch : ∀ c, ch' = some c → L.CH s = some c ∨ w.heap.size ≤ c) (hsome : ch'.isSome = (L.CH s).isSome)
    (hf : ∀ z, Foot L N z → z ≠ L.st s → w'.heap[z]? = w.heap[z]?) :
    RaceAt { L with VW := fun t => if t = s then vw' else L.VW t, CH := fun t => if t = s then ch' else L.CH t } w' N ⟨R.W, R.S.set s m'⟩ := by
  have hsA := h.env.at' s hs
  have hsb := hsA.blk
  obtain ⟨⟨ga, gcap, hva, csa, hga, hcsa⟩, hsm⟩ := h.env.along
  obtain ⟨gw, wcap, hvw', csw, hgw, hcsw⟩ := h.rowW
  have hls : s < R.S.length := by rw [h.lenS]; exact hs
  refine ⟨?_, ⟨⟨⟨ga, gcap, hva, csa, ?_, hcsa⟩, hsm⟩, fun t ht => ?_⟩, ⟨gw, wcap, hvw', csw, ?_, hcsw⟩, fun j hj => ?_, fun t ht hq => ?_, fun t u ht hu hne => ?_, h.injW, h.lenW, by simp [h.lenS], h.ok⟩
  · rw [hf _ (Or.inl rfl) (ne_of_types h.blk hsb (by decide))]; exact h.blk
  · rw [hf _ (Or.inr (Or.inl (by rw [hva]; rfl))) (ne_of_types hga hsb (by decide))]; exact hga
  · dsimp only
    by_cases e : t = s
    · subst e
      rw [if_pos rfl, if_pos rfl]
      have : (⟨R.W, R.S.set t m'⟩ : Rc).s t = m' := getD_set_self _ _ _ _ hls
      rw [this]; exact hst
    · rw [if_neg e, if_neg e]
      have : (⟨R.W, R.S.set s m'⟩ : Rc).s t = R.s t := getD_set_ne _ _ _ _ _ (fun e' => e e'.symm)
      rw [this]
      have hT := h.env.at' t ht
      refine hT.stays fun z hz => hf z (Or.inr (Or.inr (Or.inr (Or.inl ⟨t, ht, hz⟩)))) ?_
      rcases hz with rfl | hz | hz
      · exact (h.injS t s ht hs e).1
      · obtain ⟨cur, hc⟩ := own_block hT.own hz; exact ne_of_types hc hsb (by decide)
      · obtain ⟨⟨a, r, h1⟩, _⟩ := hT.chan z hz; exact chan_ne_cells h1 hsb
  · rw [hf _ (Or.inr (Or.inr (Or.inl (by rw [hvw']; rfl)))) (ne_of_types hgw hsb (by decide))]; exact hgw
  · have hJ := h.wk j hj
    refine hJ.stays fun z hz => hf z (Or.inr (Or.inr (Or.inr (Or.inr ⟨j, hj, hz⟩)))) ?_
    rcases hz with rfl | hz
    · exact ne_of_types hJ.blk hsb (by decide)
    · obtain ⟨cur, hc⟩ := own_block hJ.own hz; exact ne_of_types hc hsb (by decide)
  · dsimp only
    by_cases e : t = s
    · subst e
      rw [if_pos rfl, hsome]; exact h.ch t ht hq
    · rw [if_neg e]; exact h.ch t ht hq
  · obtain ⟨i1, i2, i3⟩ := h.injS t u ht hu hne
    have own_lt : ∀ x, x < N.streams.length → ∀ g, (L.VW x).ownBlock = some g → g < w.heap.size := fun x hx g hg => by
      obtain ⟨cur, hc⟩ := own_block (h.env.at' x hx).own hg; exact lt_of_blk hc
    have ch_lt : ∀ x, x < N.streams.length → ∀ c, L.CH x = some c → c < w.heap.size := fun x hx c hc => by
      obtain ⟨⟨a, r, h1⟩, _⟩ := (h.env.at' x hx).chan c hc; exact lt_of_blk h1
    refine ⟨i1, fun g hg hg' => ?_, fun c hc hc' => ?_⟩
    · dsimp only at hg hg'
      by_cases e : t = s
      · subst e
        rw [if_pos rfl] at hg
        rw [if_neg (fun e' => hne e'.symm)] at hg'
        rcases hvw g hg with h1 | h1
        · exact i2 g h1 hg'
        · have := own_lt u hu g hg'; omega
      · rw [if_neg e] at hg
        by_cases e2 : u = s
        · subst e2
          rw [if_pos rfl] at hg'
          rcases hvw g hg' with h1 | h1
          · exact i2 g hg h1
          · have := own_lt t ht g hg; omega
        · rw [if_neg e2] at hg'
          exact i2 g hg hg'
    · dsimp only at hc hc'
      by_cases e : t = s
      · subst e
        rw [if_pos rfl] at hc
        rw [if_neg (fun e' => hne e'.symm)] at hc'
        rcases hch c hc with h1 | h1
        · exact i3 c h1 hc'
        · have := ch_lt u hu c hc'; omega
      · rw [if_neg e] at hc
        by_cases e2 : u = s
        · subst e2
          rw [if_pos rfl] at hc'
          rcases hch c hc' with h1 | h1
          · exact i3 c hc h1
          · have := ch_lt t ht c hc; omega
        · rw [if_neg e2] at hc'
          exact i3 c hc hc'

/-- No block of a race is a reader's. -/
theorem RaceAt.not_rd {L : Lay} {w : World} {N : Net} {R : Rc} (h : RaceAt L w N R) {rb : Nat} {v : Value} (hb : w.heap[rb]? = some (.cells #[v] 158 (0, 0))) : ¬ Foot L N rb := fun hf => by
  rcases hf with rfl | hf | hf | ⟨s, hs, hf⟩ | ⟨j, hj, hf⟩
  · exact ne_of_types h.blk hb (by decide) rfl
  · obtain ⟨g2, cap2, hv2, cs2, hg2, hcs2⟩ := h.env.along.form
    rw [hv2] at hf
    have : g2 = rb := by simpa [Value.ownBlock] using hf
    subst this
    exact ne_of_types hg2 hb (by decide) rfl
  · obtain ⟨g, cap, hv, cs, hg, hcs⟩ := h.rowW
    rw [hv] at hf
    have : g = rb := by simpa [Value.ownBlock] using hf
    subst this
    exact ne_of_types hg hb (by decide) rfl
  · have hst := h.env.at' s hs
    rcases hf with rfl | hf | hf
    · exact ne_of_types hst.blk hb (by decide) rfl
    · obtain ⟨cur, hc⟩ := own_block hst.own hf; exact ne_of_types hc hb (by decide) rfl
    · obtain ⟨⟨s', r, h1⟩, _⟩ := hst.chan rb hf; exact ne_of_chan hb h1 rfl
  · have hw := h.wk j hj
    rcases hf with rfl | hf
    · exact ne_of_types hw.blk hb (by decide) rfl
    · obtain ⟨cur, hc⟩ := own_block hw.own hf; exact ne_of_types hc hb (by decide) rfl

end Go.Proofs.YthfdgdfnflilfaaGreatDoor
/- A stream behind a state. -/
namespace Go.Proofs.YthfdgdfnflilfaaGreatDoor
open Go.RowKit Go.Conc

theorem StAt.saved {w w1 : World} {b : Nat} {vw : Value} {ch : Option Nat} {sourced : Bool} {m : Sm} (h : StAt w b vw ch sourced m) {B : Nat} {v v1 : Value} {s s1 : List Int} (hs : SvAt B w v s) (h1 : Wrote B w v s1 v1 w1) : StAt w1 b vw ch sourced m := by
  refine h.stays fun y hy => ?_
  rcases hy with rfl | hy | hy
  · exact h1.fr.block _ (lt_of_blk h.blk) (hs.ne h.blk (by decide))
  · obtain ⟨cur, hc⟩ := own_block h.own hy
    exact h1.fr.block _ (lt_of_blk hc) (hs.ne hc (by decide))
  · obtain ⟨⟨p, q, hc⟩, -⟩ := h.chan y hy
    exact h1.fr.block _ (lt_of_blk hc) (hs.ne_chan hc)

theorem StAt.ints {w : World} {b : Nat} {vw : Value} {ch : Option Nat} {sourced : Bool} {m : Sm} (h : StAt w b vw ch sourced m) : IntsAt w vw m.words := by
  obtain ⟨a, cap, rfl, hcap, hc⟩ := own_form h.own
  refine ⟨a, cap, rfl, by have := h.small; omega, hcap, ?_⟩
  rcases Nat.eq_zero_or_pos m.words.length with h0 | h0
  · exact Or.inl h0
  · obtain ⟨g, rfl, -⟩ := hc 0 h0
    refine Or.inr ⟨g, 0, rfl, fun i hi j hj => ?_⟩
    obtain ⟨g', e, d⟩ := hc i hi
    cases e
    have hj0 : j = 0 := by omega
    subst hj0
    simpa using d

set_option maxRecDepth 100000 in
set_option maxHeartbeats 2000000 in
theorem ssave_src {w : World} {b : Nat} {vw : Value} {m : Sm} (h : StAt w b vw none true m) {B : Nat} {v : Value} {s : List Int} (hB : B ≤ w.heap.size) (hs : SvAt B w v s) (hlen : s.length ≤ 274877906944) :
    Calls Tryz.prog 73 #[.pointer (some ⟨b, 0, none⟩), v] w fun e w' => ∃ v', e = .returned v' ∧ Wrote B w v (s ++ bytesOf (stNums true m)) v' w' := by
  obtain ⟨c0, c1, c2, c3, cf⟩ := h.cells
  simp only [if_true] at c2
  have HA1 : Hid (Calls Tryz.prog 88 #[v, .slice (some ⟨w.heap.size, 0, none⟩) 1 1] (w.alloc (.cells #[.int .i64 m.read] 3)) fun e w' => ∃ v', e = .returned v' ∧ Wrote B w v (s ++ bytesOf (stNums true m)) v' w') := append_new [(m.read : Int)] (by simp) hB hs (by omega)
  clear h hs cf
  go_enter Tryz.func73, Tryz.ntmps73
  go_wp2_with fail
  refine (unhide HA1).mono ?_
  rintro e w1 ⟨v1, rfl, h1⟩
  have H1 := hide h1
  clear h1 HA1
  go_wp2
  go_ret
  exact ⟨v1, rfl, H1.out⟩

/-- What follows the three numbers. -/
theorem ssave_rest {w : World} {b : Nat} {vw : Value} {ch : Option Nat} {m : Sm} (h : StAt w b vw ch false m) {B : Nat} {v : Value} {s : List Int} (hB : B ≤ w.heap.size) (hs : SvAt B w v s) (hlen : s.length ≤ 274877906944) (hw : m.words.length ≤ 4294967296) (q : Nat) :
    Calls Tryz.prog 88 #[v, .slice (some ⟨w.heap.size, 0, none⟩) 3 3] ((w.drewN q).alloc (.cells #[.int .i64 m.room, .int .i64 m.read, .int .i64 m.words.length] 3)) fun e w' => ∃ v', e = .returned v' ∧ (w'.cell? ⟨b, 1, none⟩ = some vw ∧
      Calls Tryz.prog 88 #[v', vw] w' fun e w'' => ∃ v'', e = .returned v'' ∧ Wrote B w v (s ++ bytesOf (stNums false m)) v'' w'') := by
  have h' : StAt (w.drewN q) b vw ch false m := h.stays fun _ _ => rfl
  refine (append_new (w := w.drewN q) [(m.room : Int), (m.read : Int), (m.words.length : Int)] (by simp) hB hs (by omega)).mono fun e w' ⟨v', q1, q2⟩ => ⟨v', q1, ?_⟩
  have h1 := h'.saved hs q2
  refine ⟨h1.cells.2.1, (append_calls (Nat.le_trans hB q2.fr.size) q2.at' h1.ints (fun g hg e => ?_) (by simp [bytesOf_length]; omega)).mono fun e w'' ⟨v'', r1, r2⟩ => ⟨v'', r1, ?_⟩⟩
  · obtain ⟨cur, hc⟩ := own_block h1.own e
    exact q2.at'.ne hc (by decide) hg
  · have e : s ++ bytesOf [(m.room : Int), (m.read : Int), (m.words.length : Int)] ++ bytesOf m.words = s ++ bytesOf (stNums false m) := by simp [bytesOf, stNums]
    rw [e] at r2
    exact (q2.trans r2).of_draw

set_option maxRecDepth 100000 in
set_option maxHeartbeats 2000000 in
theorem ssave_unread {w : World} {b : Nat} {vw : Value} {m : Sm} (h : StAt w b vw none false m) (hr : m.read = 0) {B : Nat} {v : Value} {s : List Int} (hB : B ≤ w.heap.size) (hs : SvAt B w v s) (hlen : s.length ≤ 274877906944) (hw : m.words.length ≤ 4294967296) :
    Calls Tryz.prog 73 #[.pointer (some ⟨b, 0, none⟩), v] w fun e w' => ∃ v', e = .returned v' ∧ Wrote B w v (s ++ bytesOf (stNums false m)) v' w' := by
  obtain ⟨c0, c1, c2, c3, cf⟩ := h.cells
  have c4 : w.cell? ⟨b, 4, none⟩ = some (.int .i64 (m.room : Int)) := row_cell h.blk rfl
  have hne := fun (wx : World) (a : Option Nat) => run_neq_chan_nil (P := Tryz.prog) wx 109 a Tryz.underlying109
  have HA := hide (ssave_rest h hB hs hlen hw 0)
  rw [hr] at HA
  obtain ⟨aw, capw, hvw, -, -⟩ := own_form h.own
  clear h hs cf c2
  subst hvw
  generalize m.words.length = ml at *
  generalize (m.room : Int) = mr at *
  go_enter Tryz.func73, Tryz.ntmps73
  go_wp2_with fail
  refine (unhide HA).mono ?_
  rintro e w1 ⟨v1, rfl, d1, h1⟩
  have H1 := hide h1
  clear h1 HA
  go_wp2_with fail
  refine (unhide H1).mono ?_
  rintro e w2 ⟨v2, rfl, h2⟩
  have H2 := hide h2
  clear h2 H1
  go_wp2
  go_ret
  exact ⟨v2, rfl, H2.out⟩

set_option maxRecDepth 100000 in
set_option maxHeartbeats 2000000 in
theorem ssave_held {w : World} {b c : Nat} {vw : Value} {m : Sm} (h : StAt w b vw (some c) false m) {B : Nat} {v : Value} {s : List Int} (hB : B ≤ w.heap.size) (hs : SvAt B w v s) (hlen : s.length ≤ 274877906944) (hw : m.words.length ≤ 4294967296) :
    Calls Tryz.prog 73 #[.pointer (some ⟨b, 0, none⟩), v] w fun e w' => ∃ v', e = .returned v' ∧ Wrote B w v (s ++ bytesOf (stNums false m)) v' w' := by
  obtain ⟨c0, c1, c2, c3, cf⟩ := h.cells
  have c4 : w.cell? ⟨b, 4, none⟩ = some (.int .i64 0) := row_cell h.blk rfl
  have hne := fun (wx : World) (a : Option Nat) => run_neq_chan_nil (P := Tryz.prog) wx 109 a Tryz.underlying109
  obtain ⟨⟨s0, r0, hc⟩, hcap, hroom⟩ := h.chan c rfl
  have hlen' := fun (q : Nat) ty => run_len_chan (P := Tryz.prog) (w := w.drewN q) 109 ty Tryz.underlying109 hc
  have hcp := fun (q : Nat) ty => run_cap_chan (P := Tryz.prog) (w := w.drewN q) 109 ty Tryz.underlying109 hc
  simp only [unread_size] at hlen'
  have hle := h.le
  have HA := hide (fun q => ssave_rest h hB hs hlen hw q)
  have wr1 : IntKind.i64.wrap ((m.words.length : Int) - ((m.words.length - m.read : Nat) : Int)) = (m.read : Int) := by rw [IntKind.wrap_i64]; omega
  obtain ⟨aw, capw, hvw, -, -⟩ := own_form h.own
  clear h hs cf c2 hc
  subst hvw
  generalize m.words.length - m.read = un at *
  generalize m.words.length = ml at *
  go_enter Tryz.func73, Tryz.ntmps73
  go_wp2
  go_quiet (fail)
  go_wp2_with fail
  refine (unhide HA _).mono ?_
  rintro e w1 ⟨v1, rfl, d1, h1⟩
  have H1 := hide h1
  clear h1 HA
  go_wp2_with fail
  refine (unhide H1).mono ?_
  rintro e w2 ⟨v2, rfl, h2⟩
  have H2 := hide h2
  clear h2 H1
  go_wp2
  go_ret
  exact ⟨v2, rfl, H2.out⟩

theorem ssave_calls {w : World} {b : Nat} {ch : Option Nat} {sourced : Bool} {vw : Value} {m : Sm} (h : StAt w b vw ch sourced m) (hr : ch = none → sourced = false → m.read = 0) {B : Nat} {v : Value} {s : List Int} (hB : B ≤ w.heap.size) (hs : SvAt B w v s) (hlen : s.length ≤ 274877906944) (hw : m.words.length ≤ 4294967296) :
    Calls Tryz.prog 73 #[.pointer (some ⟨b, 0, none⟩), v] w fun e w' => ∃ v', e = .returned v' ∧ Wrote B w v (s ++ bytesOf (stNums sourced m)) v' w' := by
  cases sourced with
  | true =>
    cases ch with
    | none => exact ssave_src h hB hs hlen
    | some c => have := h.nosrc c rfl; cases this
  | false =>
    cases ch with
    | none => exact ssave_unread h (hr rfl rfl) hB hs hlen hw
    | some c => exact ssave_held h hB hs hlen hw

end Go.Proofs.YthfdgdfnflilfaaGreatDoor
/- Package millrace: Save. -/
namespace Go.Proofs.YthfdgdfnflilfaaGreatDoor
open Go.RowKit Go.Conc

def saveW (R : Rc) (k : Nat) : List Int := (List.range k).flatMap fun j => wkNums (R.w j)
def saveS (N : Net) (R : Rc) (k : Nat) : List Int := (List.range k).flatMap fun s => stNums (srcd N s) (R.s s)
/-- The numbers of a state. -/
def saveNums (N : Net) (R : Rc) : List Int := saveW R N.workers.length ++ saveS N R N.streams.length

theorem saveW_succ (R : Rc) (k : Nat) : saveW R (k + 1) = saveW R k ++ wkNums (R.w k) := by simp [saveW, List.range_succ]
theorem saveS_succ (N : Net) (R : Rc) (k : Nat) : saveS N R (k + 1) = saveS N R k ++ stNums (srcd N k) (R.s k) := by simp [saveS, List.range_succ]
theorem saveW_length (R : Rc) (k : Nat) : (saveW R k).length = 6 * k := by
  induction k with
  | zero => rfl
  | succ k ih => rw [saveW_succ, List.length_append, ih]; simp [wkNums]; omega
theorem saveS_length (N : Net) (R : Rc) (k W : Nat) (h : ∀ s, s < k → (R.s s).words.length ≤ W) : (saveS N R k).length ≤ k * (3 + W) := by
  induction k with
  | zero => simp [saveS]
  | succ k ih =>
    rw [saveS_succ, List.length_append]
    have h1 := ih fun s hs => h s (by omega)
    have h2 := h k (by omega)
    have h3 : (stNums (srcd N k) (R.s k)).length ≤ 3 + W := by
      unfold stNums
      split
      · simp; omega
      · simp; omega
    rw [Nat.succ_mul]; omega

/-- What of a race Save leans on. -/
structure Saves (N : Net) (R : Rc) : Prop where
  rd : ∀ s, s < N.streams.length → used N s = false → srcd N s = false → (R.s s).read = 0
  words : ∀ s, s < N.streams.length → (R.s s).words.length ≤ 268435456

theorem Wrote.below {B : Nat} {w w' : World} {v v' : Value} {s s' : List Int} (h : Wrote B w v s' v' w') (hs : SvAt B w v s) (hB : B ≤ w.heap.size) : Below B w w' :=
  ⟨h.fr.os, h.fr.tape, h.fr.output, h.fr.size, fun k hk => h.fr.block k (by omega) fun e => by have := (hs.lt e).2; omega⟩

set_option maxRecDepth 100000 in
set_option maxHeartbeats 2000000 in
theorem rsave_calls {L : Lay} {w : World} {N : Net} {R : Rc} (h : RaceAt L w N R) (hsv : Saves N R) :
    Calls Tryz.prog 40 #[.pointer (some ⟨L.p, 0, none⟩)] w fun e w' => ∃ v', e = .returned v' ∧ SvAt w.heap.size w' v' (bytesOf (saveNums N R)) ∧ Below w.heap.size w w' := by
  obtain ⟨hs1, hs8, hw1, hw6⟩ := valid_counts h.ok
  obtain ⟨ga, ca, gw, cw, hva, hvw, hc⟩ := h.forms
  have HC : Hid (∀ wx, Below w.heap.size w wx → wx.cell? ⟨L.p, 0, none⟩ = some (.slice (some ⟨ga, 0, none⟩) N.streams.length ca) ∧ wx.cell? ⟨L.p, 1, none⟩ = some (.slice (some ⟨gw, 0, none⟩) N.workers.length cw) ∧ (∀ s, s < N.streams.length → wx.cell? ⟨ga, s, none⟩ = some (.pointer (some ⟨L.st s, 0, none⟩))) ∧ (∀ k, k < N.workers.length → wx.cell? ⟨gw, k, none⟩ = some (.pointer (some ⟨L.wb k, 0, none⟩)))) := fun wx hx => by
    obtain ⟨q0, q1, q2, q3⟩ := hc wx hx
    rw [hva] at q0; rw [hvw] at q1
    exact ⟨q0, q1, q2, q3⟩
  have HW : Hid (∀ wx, Below w.heap.size w wx → ∀ k, k < N.workers.length → ∀ v, SvAt w.heap.size wx v (bytesOf (saveW R k)) → Calls Tryz.prog 72 #[.pointer (some ⟨L.wb k, 0, none⟩), v] wx fun e w' => ∃ v', e = .returned v' ∧ SvAt w.heap.size w' v' (bytesOf (saveW R (k + 1))) ∧ Below w.heap.size w w') := fun wx hx k hk v hv => by
    refine (wsave_calls ((h.below hx).wk k hk) hx.size hv (by rw [bytesOf_length, saveW_length]; omega)).mono fun e w' ⟨v', q1, q2⟩ => ⟨v', q1, ?_, hx.trans (q2.below hv hx.size)⟩
    rw [saveW_succ, bytesOf_append]; exact q2.at'
  have HS : Hid (∀ wx, Below w.heap.size w wx → ∀ k, k < N.streams.length → ∀ v, SvAt w.heap.size wx v (bytesOf (saveW R N.workers.length ++ saveS N R k)) → Calls Tryz.prog 73 #[.pointer (some ⟨L.st k, 0, none⟩), v] wx fun e w' => ∃ v', e = .returned v' ∧ SvAt w.heap.size w' v' (bytesOf (saveW R N.workers.length ++ saveS N R (k + 1))) ∧ Below w.heap.size w w') := fun wx hx k hk v hv => by
    have hr := h.below hx
    have hl : (bytesOf (saveW R N.workers.length ++ saveS N R k)).length ≤ 274877906944 := by
      rw [bytesOf_length, List.length_append, saveW_length]
      have h1 := saveS_length N R k 268435456 fun s hs => hsv.words s (by omega)
      have h2 : k * (3 + 268435456) ≤ 8 * (3 + 268435456) := Nat.mul_le_mul_right _ (by omega)
      omega
    refine (ssave_calls (hr.env.at' k hk) (fun q1 q2 => hsv.rd k hk ?_ q2) hx.size hv hl (by have := hsv.words k hk; omega)).mono fun e w' ⟨v', q1, q2⟩ => ⟨v', q1, ?_, hx.trans (q2.below hv hx.size)⟩
    · have := hr.ch_iff hk
      rw [q1] at this
      simp [heldB, q2] at this
      exact this
    · rw [saveS_succ, ← List.append_assoc, bytesOf_append _ (stNums _ _)]; exact q2.at'
  have H0 : Hid (SvAt w.heap.size w (.slice none 0 0) (bytesOf (saveW R 0))) := ⟨rfl, Or.inl ⟨rfl, rfl⟩⟩
  have HE : Hid (saveNums N R = saveW R N.workers.length ++ saveS N R N.streams.length) := rfl
  have HE0 : Hid (∀ k, saveW R k ++ saveS N R 0 = saveW R k) := fun k => by simp [saveS]
  clear h hc hva hvw hsv
  generalize N.workers.length = wl at *
  generalize N.streams.length = sl at *
  obtain ⟨q0, q1, -, -⟩ := HC.out w (Below.refl _ _)
  go_enter Tryz.func40, Tryz.ntmps40
  go_wp2
  go_loopw [3, 13] (fun st i wr => ∃ (k : Nat) (v' : Value), k ≤ wl ∧ i = .int .i64 k ∧ v' = st ∧ SvAt w.heap.size wr v' (bytesOf (saveW R k)) ∧ Below w.heap.size w wr) (fun _ i _ => wl - (intOf i).toNat)
  case atStart => exact ⟨0, _, Nat.zero_le _, rfl, rfl, H0.out, Below.refl _ _⟩
  case round =>
    clear H0 q0 q1
    obtain ⟨k, v1, hk, rfl, rfl, hsv, hb⟩ := hrel
    obtain ⟨q0, q1, q2, q3⟩ := HC.out wr hb
    by_cases hlt : k < wl
    · have d0 := q3 k hlt
      have HW1 := hide (HW.out wr hb k hlt v1 hsv)
      have hk0 : (0 : Int) ≤ (k : Int) := by omega
      have hk1 : (k : Int) < (wl : Int) := by omega
      clear HW HS HC q2 q3 hsv hb
      go_wp2_with fail
      refine (unhide HW1).mono ?_
      rintro e w1 ⟨v2, rfl, h1, h2⟩
      have H1 := hide h1
      have H2 := hide h2
      clear h1 h2 HW1
      go_wp2
      go_roundw
      case rel => exact ⟨k + 1, _, by omega, by go_num, rfl, H1.out, H2.out⟩
      case measure => simp [intOf]; omega
    · have hkl : k = wl := by omega
      subst hkl
      have HSv : Hid (SvAt w.heap.size wr v1 (bytesOf (saveW R k ++ saveS N R 0))) := by rw [HE0.out]; exact hsv
      have HB := hide hb
      clear HW q2 q3 hsv hb
      go_wp2
      go_loopw [3, 26] (fun st i wq => ∃ (j : Nat) (v' : Value), j ≤ sl ∧ i = .int .i64 j ∧ v' = st ∧ SvAt w.heap.size wq v' (bytesOf (saveW R k ++ saveS N R j)) ∧ Below w.heap.size w wq) (fun _ i _ => sl - (intOf i).toNat)
      case atStart => exact ⟨0, _, Nat.zero_le _, rfl, rfl, HSv.out, HB.out⟩
      case round =>
        clear HSv HB q0 q1
        obtain ⟨j, v2, hj, rfl, rfl, hsv, hb⟩ := hrel
        obtain ⟨q0, q1, q2, q3⟩ := HC.out wr hb
        by_cases hlt2 : j < sl
        · have d0 := q2 j hlt2
          have HS1 := hide (HS.out wr hb j hlt2 v2 hsv)
          have hj0 : (0 : Int) ≤ (j : Int) := by omega
          have hj1 : (j : Int) < (sl : Int) := by omega
          clear HS HC q2 q3 hsv hb
          go_wp2_with fail
          refine (unhide HS1).mono ?_
          rintro e w1 ⟨v3, rfl, h1, h2⟩
          have H1 := hide h1
          have H2 := hide h2
          clear h1 h2 HS1
          go_wp2
          go_roundw
          case rel => exact ⟨j + 1, _, by omega, by go_num, rfl, H1.out, H2.out⟩
          case measure => simp [intOf]; omega
        · have hjl : j = sl := by omega
          subst hjl
          have H1 := hide hsv
          have H2 := hide hb
          clear HS HC q2 q3 hsv hb
          go_wp2
          go_ret
          exact ⟨v2, rfl, by rw [HE.out]; exact H1.out, H2.out⟩

end Go.Proofs.YthfdgdfnflilfaaGreatDoor
/- Load of a stream, of a race. -/
namespace Go.Proofs.YthfdgdfnflilfaaGreatDoor
open Go.RowKit Go.Conc

/-- What a stream may become of what the net made. -/
structure LoadsS (sourced held : Bool) (m0 m : Sm) : Prop where
  src : sourced = true → m.words = m0.words ∧ m.room = m0.room
  un : sourced = false → held = false → m.read = 0 ∧ m.room = m0.room ∧ m0.room ≤ 1000
  hold : sourced = false → held = true → m0.room ≤ m.room ∧ m.room ≤ 40 ∧ m.words.length - m.read ≤ m.room
  le : m.read ≤ m.words.length
  fits : ∀ x ∈ m.words, Fits64 x
  len : m.words.length ≤ 268435456

def StLoaded (B : Nat) (w : World) (b rb : Nat) (vw : Value) (ch : Option Nat) (sourced : Bool) (m : Sm) (l : List Int) (w' : World) : Prop :=
  ∃ vw' ch', StAt w' b vw' ch' sourced m ∧ (∀ g, vw'.ownBlock = some g → vw.ownBlock = some g ∨ w.heap.size ≤ g) ∧ (∀ c, ch' = some c → ch = some c ∨ w.heap.size ≤ c) ∧ ch'.isSome = ch.isSome ∧ RdAt B w' rb l ∧ Fr (fun z => z = b ∨ z = rb) w w'

set_option maxRecDepth 100000 in
set_option maxHeartbeats 2000000 in
theorem sload_calls {B : Nat} {w : World} {b rb : Nat} {vw : Value} {ch : Option Nat} {sourced : Bool} {m0 m : Sm} {l : List Int} (h : StAt w b vw ch sourced m0) (hr : RdAt B w rb (stNums sourced m ++ l)) (hbB : B ≤ b) (hB : B ≤ w.heap.size) (hl : LoadsS sourced ch.isSome m0 m) :
    Calls Tryz.prog 101 #[.pointer (some ⟨b, 0, none⟩), .pointer (some ⟨rb, 0, none⟩)] w fun e w' => e = .returned (.tuple #[]) ∧ StLoaded B w b rb vw ch sourced m l w' := by
  cases sourced with
  | true =>
    cases ch with
    | some c => have := h.nosrc c rfl; cases this
    | none =>
      obtain ⟨h1, h2⟩ := hl.src rfl
      have hle := hl.le
      refine (sload_src h (r := m.read) hr hbB hB (by rw [← h1]; exact hle)).mono fun e w' ⟨q1, q2, q3, q4⟩ => ⟨q1, vw, none, ?_, fun g hg => Or.inl hg, fun c hc => (by cases hc), rfl, q3, q4⟩
      have e : ({ m0 with read := m.read } : Sm) = m := by cases m; simp at h1 h2; simp [h1, h2]
      rw [← e]; exact q2
  | false =>
    have hne := fun (wx : World) (a : Option Nat) => run_eql_chan_nil (P := Tryz.prog) wx 109 a Tryz.underlying109
    obtain ⟨c0, c1, c2, c3, cf⟩ := h.cells
    cases ch with
    | none =>
      obtain ⟨h1, h2, h3⟩ := hl.un rfl rfl
      have HU : Hid (Calls Tryz.prog 106 #[.pointer (some ⟨b, 0, none⟩), .pointer (some ⟨rb, 0, none⟩)] w fun e w' => e = .returned (.tuple #[]) ∧ StLoaded B w b rb vw none false m l w') := by
        have hr' : RdAt B w rb ((m0.room : Int) :: 0 :: (m.words.length : Int) :: (m.words ++ l)) := by
          have := hr
          simp only [stNums] at this
          rw [h1, h2] at this
          exact this
        refine (sloadUnread_calls h hr' hbB hB h3 hl.fits (by have := hl.len; omega)).mono fun e w' ⟨q1, q2⟩ => ⟨q1, ?_⟩
        obtain ⟨vw', ch', a1, a2, a3, a4⟩ := q2.at'
        have e : (⟨m.words, 0, m0.room⟩ : Sm) = m := by cases m; simp at h1 h2; simp [h1, h2]
        rw [e] at a1
        exact ⟨vw', ch', a1, fun g hg => Or.inr ((a2 g hg).resolve_right (by decide)), fun c hc => Or.inr (a3 c hc), a4, q2.rd, q2.fr⟩
      clear h hr hl cf
      go_enter Tryz.func101, Tryz.ntmps101
      go_wp2_with fail
      refine (unhide HU).mono ?_
      rintro e w1 ⟨rfl, h1⟩
      have H1 := hide h1
      clear h1 HU
      go_wp2
      go_end0
      exact ⟨rfl, H1.out⟩
    | some c =>
      obtain ⟨h1, h2, h3⟩ := hl.hold rfl rfl
      have HU : Hid (Calls Tryz.prog 107 #[.pointer (some ⟨b, 0, none⟩), .pointer (some ⟨rb, 0, none⟩)] w fun e w' => e = .returned (.tuple #[]) ∧ StLoaded B w b rb vw (some c) false m l w') := by
        refine (sloadHeld_calls h (m := m) hr hbB hB h1 h2 hl.le h3 hl.fits (by have := hl.len; omega)).mono fun e w' ⟨q1, q2⟩ => ⟨q1, ?_⟩
        obtain ⟨vw', ch', a1, a2, a3, a4⟩ := q2.at'
        exact ⟨vw', ch', a1, fun g hg => Or.inr ((a2 g hg).resolve_right (by decide)), fun c hc => Or.inr (a3 c hc), a4, q2.rd, q2.fr⟩
      clear h hr hl cf
      go_enter Tryz.func101, Tryz.ntmps101
      go_wp2_with fail
      refine (unhide HU).mono ?_
      rintro e w1 ⟨rfl, h1⟩
      have H1 := hide h1
      clear h1 HU
      go_wp2
      go_end0
      exact ⟨rfl, H1.out⟩

/-- What a race may become of a new one. -/
structure Loads (N : Net) (R0 R : Rc) : Prop where
  lenW : R.W.length = N.workers.length
  lenS : R.S.length = N.streams.length
  place : ∀ k, k < N.workers.length → (R.w k).place ≤ (codeOf N k).length
  fitsW : ∀ k, k < N.workers.length → FitsW (R.w k)
  st : ∀ s, s < N.streams.length → LoadsS (srcd N s) (heldB N s) (R0.s s) (R.s s)

def restW (R : Rc) (n k : Nat) : List Int := ((List.range n).drop k).flatMap fun j => wkNums (R.w j)
def restS (N : Net) (R : Rc) (n k : Nat) : List Int := ((List.range n).drop k).flatMap fun s => stNums (srcd N s) (R.s s)
theorem restW_step (R : Rc) (n k : Nat) (h : k < n) : restW R n k = wkNums (R.w k) ++ restW R n (k + 1) := by
  unfold restW
  rw [List.drop_eq_getElem_cons (by simpa using h)]
  simp
theorem restS_step (N : Net) (R : Rc) (n k : Nat) (h : k < n) : restS N R n k = stNums (srcd N k) (R.s k) ++ restS N R n (k + 1) := by
  unfold restS
  rw [List.drop_eq_getElem_cons (by simpa using h)]
  simp
theorem restW_end (R : Rc) (n : Nat) : restW R n n = [] := by unfold restW; rw [List.drop_of_length_le (by simp)]; rfl
theorem restS_end (N : Net) (R : Rc) (n : Nat) : restS N R n n = [] := by unfold restS; rw [List.drop_of_length_le (by simp)]; rfl

def mixW (R0 R : Rc) (k : Nat) : Rc := ⟨R.W.take k ++ R0.W.drop k, R0.S⟩
def mixS (R0 R : Rc) (j : Nat) : Rc := ⟨R.W, R.S.take j ++ R0.S.drop j⟩

theorem mix_set {α : Type} (a b : List α) (k : Nat) (d : α) (ha : k < a.length) (hb : k < b.length) : (a.take k ++ b.drop k).set k (a.getD k d) = a.take (k + 1) ++ b.drop (k + 1) := by
  rw [getD_eq _ _ _ ha, List.take_succ_eq_append_getElem ha, List.drop_eq_getElem_cons hb]
  rw [List.set_append_right _ _ (by simp; omega)]
  have : k - (a.take k).length = 0 := by simp; omega
  rw [this, List.set_cons_zero, List.append_assoc]
  rfl

theorem mixS_at (R0 R : Rc) (j : Nat) (hl : j ≤ R.S.length) : (mixS R0 R j).s j = R0.s j := by
  unfold mixS Rc.s
  have h1 : (R.S.take j).length = j := by simp; omega
  simp only [List.getD]
  rw [List.getElem?_append_right (by omega), h1, Nat.sub_self, List.getElem?_drop, Nat.add_zero]

/-- A race that is being loaded. -/
def Loading (B : Nat) (p : Nat) (ga ca gw cw : Nat) (w : World) (N : Net) (R : Rc) (rb : Nat) (l : List Int) (wr : World) : Prop :=
  ∃ L, (L.p = p ∧ L.vS = .slice (some ⟨ga, 0, none⟩) N.streams.length ca ∧ L.vW = .slice (some ⟨gw, 0, none⟩) N.workers.length cw) ∧ RaceAt L wr N R ∧ (∀ b, Foot L N b → B ≤ b) ∧ RdAt B wr rb l ∧ Below B w wr ∧ B ≤ wr.heap.size

theorem loading_w {B p rb k ga ca gw cw : Nat} {w wr : World} {N : Net} {R0 R : Rc} {l : List Int} (hR : Loads N R0 R) (h0 : R0.W.length = N.workers.length) (hk : k < N.workers.length) (h : Loading B p ga ca gw cw w N (mixW R0 R k) rb (wkNums (R.w k) ++ l) wr) :
    ∃ pk, Calls Tryz.prog 100 #[.pointer (some ⟨pk, 0, none⟩), .pointer (some ⟨rb, 0, none⟩)] wr (fun e w' => e = .returned (.tuple #[]) ∧ Loading B p ga ca gw cw w N (mixW R0 R (k + 1)) rb l w') ∧ wr.cell? ⟨gw, k, none⟩ = some (.pointer (some ⟨pk, 0, none⟩)) := by
  obtain ⟨L, ⟨rfl, hvS, hvW⟩, hra, hfo, hrd, hbe, hsz⟩ := h
  obtain ⟨g, cap, hv, cs, hg, hcs⟩ := hra.rowW
  rw [hvW] at hv
  cases hv
  refine ⟨L.wb k, ?_, row_cell hg (hcs k hk)⟩
  have hbB := hfo _ (foot_w hk)
  refine (wload_calls (hra.wk k hk) hrd hbB hsz (hR.place k hk) (hR.fitsW k hk)).mono fun e w' ⟨q1, q2, q3, q4⟩ => ⟨q1, ?_⟩
  obtain ⟨v, hvb, -⟩ := hrd.blk
  have hb : Below B wr w' := ⟨q4.os, q4.tape, q4.output, q4.size, fun z hz => q4.block z (by omega) fun e => by rcases e with e | e; omega; have := hrd.ge; omega⟩
  have hra' := hra.setW hk q2 fun z hz hne => q4.block z (hra.foot_lt hz) fun e => e.elim hne fun e => by subst e; exact hra.not_rd hvb hz
  have e : (⟨(mixW R0 R k).W.set k (R.w k), (mixW R0 R k).S⟩ : Rc) = mixW R0 R (k + 1) := by
    unfold mixW
    have := mix_set R.W R0.W k ⟨0, fun _ => 0, 0⟩ (by rw [hR.lenW]; exact hk) (by rw [h0]; exact hk)
    exact congrArg (fun x => (⟨x, R0.S⟩ : Rc)) this
  rw [e] at hra'
  exact ⟨L, ⟨rfl, hvS, hvW⟩, hra', hfo, q3, hbe.trans hb, Nat.le_trans hsz q4.size⟩

theorem loading_s {B p rb s ga ca gw cw : Nat} {w wr : World} {N : Net} {R0 R : Rc} {l : List Int} (hR : Loads N R0 R) (h0 : R0.S.length = N.streams.length) (hs : s < N.streams.length) (h : Loading B p ga ca gw cw w N (mixS R0 R s) rb (stNums (srcd N s) (R.s s) ++ l) wr) :
    ∃ pk, Calls Tryz.prog 101 #[.pointer (some ⟨pk, 0, none⟩), .pointer (some ⟨rb, 0, none⟩)] wr (fun e w' => e = .returned (.tuple #[]) ∧ Loading B p ga ca gw cw w N (mixS R0 R (s + 1)) rb l w') ∧ wr.cell? ⟨ga, s, none⟩ = some (.pointer (some ⟨pk, 0, none⟩)) := by
  obtain ⟨L, ⟨rfl, hvS, hvW⟩, hra, hfo, hrd, hbe, hsz⟩ := h
  obtain ⟨g, cap, hv, cs, hg, hcs⟩ := hra.env.along.form
  rw [hvS] at hv
  cases hv
  refine ⟨L.st s, ?_, row_cell hg (hcs s hs)⟩
  have hbB := hfo _ (foot_s hs)
  have hst := hra.env.at' s hs
  rw [mixS_at R0 R s (by rw [hR.lenS]; omega)] at hst
  have hls := hR.st s hs
  rw [← hra.ch_iff hs] at hls
  refine (sload_calls hst hrd hbB hsz hls).mono fun e w' ⟨q1, vw', ch', a1, a2, a3, a4, a5, a6⟩ => ⟨q1, ?_⟩
  obtain ⟨v, hvb, -⟩ := hrd.blk
  have hb : Below B wr w' := ⟨a6.os, a6.tape, a6.output, a6.size, fun z hz => a6.block z (by omega) fun e => by rcases e with e | e; omega; have := hrd.ge; omega⟩
  have hra' := hra.setS hs a1 a2 a3 a4 fun z hz hne => a6.block z (hra.foot_lt hz) fun e => e.elim hne fun e => by subst e; exact hra.not_rd hvb hz
  have e : (⟨(mixS R0 R s).W, (mixS R0 R s).S.set s (R.s s)⟩ : Rc) = mixS R0 R (s + 1) := by
    unfold mixS
    have := mix_set R.S R0.S s ⟨[], 0, 0⟩ (by rw [hR.lenS]; exact hs) (by rw [h0]; exact hs)
    exact congrArg (fun x => (⟨R.W, x⟩ : Rc)) this
  rw [e] at hra'
  refine ⟨{ L with VW := fun t => if t = s then vw' else L.VW t, CH := fun t => if t = s then ch' else L.CH t }, ⟨rfl, hvS, hvW⟩, hra', fun z hz => ?_, a5, hbe.trans hb, Nat.le_trans hsz a6.size⟩
  rcases hz with hz | hz | hz | ⟨t, ht, hz⟩ | hz
  · exact hfo z (Or.inl hz)
  · exact hfo z (Or.inr (Or.inl hz))
  · exact hfo z (Or.inr (Or.inr (Or.inl hz)))
  · dsimp only at hz
    by_cases et : t = s
    · subst et
      rw [if_pos rfl, if_pos rfl] at hz
      rcases hz with hz | hz | hz
      · rw [hz]; exact hbB
      · rcases a2 z hz with h1 | h1
        · exact hfo z (Or.inr (Or.inr (Or.inr (Or.inl ⟨t, ht, Or.inr (Or.inl h1)⟩))))
        · omega
      · rcases a3 z hz with h1 | h1
        · exact hfo z (Or.inr (Or.inr (Or.inr (Or.inl ⟨t, ht, Or.inr (Or.inr h1)⟩))))
        · omega
    · rw [if_neg et, if_neg et] at hz
      exact hfo z (Or.inr (Or.inr (Or.inr (Or.inl ⟨t, ht, hz⟩))))
  · exact hfo z (Or.inr (Or.inr (Or.inr (Or.inr hz))))

set_option maxRecDepth 100000 in
set_option maxHeartbeats 2000000 in
theorem rload_calls {B p rb ga ca gw cw : Nat} {w : World} {N : Net} {R0 R : Rc} {l : List Int} (hR : Loads N R0 R) (h0 : R0.W.length = N.workers.length) (h0' : R0.S.length = N.streams.length) (h : Loading B p ga ca gw cw w N R0 rb (saveNums N R ++ l) w) (hok : validB N = true) :
    Calls Tryz.prog 90 #[.pointer (some ⟨p, 0, none⟩), .pointer (some ⟨rb, 0, none⟩)] w fun e w' => e = .returned (.tuple #[]) ∧ Loading B p ga ca gw cw w N R rb l w' := by
  obtain ⟨hs1, hs8, hw1, hw6⟩ := valid_counts hok
  have HC : Hid (∀ R' l' wx, Loading B p ga ca gw cw w N R' rb l' wx → wx.cell? ⟨p, 0, none⟩ = some (.slice (some ⟨ga, 0, none⟩) N.streams.length ca) ∧ wx.cell? ⟨p, 1, none⟩ = some (.slice (some ⟨gw, 0, none⟩) N.workers.length cw)) := fun R' l' wx hx => by
    obtain ⟨L, ⟨rfl, hvS, hvW⟩, hra, -⟩ := hx
    exact ⟨by rw [← hvS]; exact hra.cells.1, by rw [← hvW]; exact hra.cells.2⟩
  have e0 : mixW R0 R 0 = R0 := by simp [mixW]
  have e1 : mixW R0 R N.workers.length = mixS R0 R 0 := by
    simp only [mixW, mixS, List.take_zero, List.drop_zero, List.nil_append]
    rw [List.take_of_length_le (by rw [hR.lenW]; exact Nat.le_refl _), List.drop_of_length_le (by rw [h0]; exact Nat.le_refl _), List.append_nil]
  have e2 : mixS R0 R N.streams.length = R := by
    simp only [mixS]
    rw [List.take_of_length_le (by rw [hR.lenS]; exact Nat.le_refl _), List.drop_of_length_le (by rw [h0']; exact Nat.le_refl _), List.append_nil]
  have H0 : Hid (Loading B p ga ca gw cw w N (mixW R0 R 0) rb (restW R N.workers.length 0 ++ (restS N R N.streams.length 0 ++ l)) w) := by
    rw [e0]
    have : saveNums N R ++ l = restW R N.workers.length 0 ++ (restS N R N.streams.length 0 ++ l) := by simp [saveNums, saveW, saveS, restW, restS]
    rw [← this]; exact h
  have HW : Hid (∀ k, k < N.workers.length → ∀ wx, Loading B p ga ca gw cw w N (mixW R0 R k) rb (restW R N.workers.length k ++ (restS N R N.streams.length 0 ++ l)) wx → ∃ pk, Calls Tryz.prog 100 #[.pointer (some ⟨pk, 0, none⟩), .pointer (some ⟨rb, 0, none⟩)] wx (fun e w' => e = .returned (.tuple #[]) ∧ Loading B p ga ca gw cw w N (mixW R0 R (k + 1)) rb (restW R N.workers.length (k + 1) ++ (restS N R N.streams.length 0 ++ l)) w') ∧ wx.cell? ⟨gw, k, none⟩ = some (.pointer (some ⟨pk, 0, none⟩))) := fun k hk wx hx => by
    rw [restW_step _ _ _ hk, List.append_assoc] at hx
    exact loading_w hR h0 hk hx
  have HS : Hid (∀ s, s < N.streams.length → ∀ wx, Loading B p ga ca gw cw w N (mixS R0 R s) rb (restS N R N.streams.length s ++ l) wx → ∃ pk, Calls Tryz.prog 101 #[.pointer (some ⟨pk, 0, none⟩), .pointer (some ⟨rb, 0, none⟩)] wx (fun e w' => e = .returned (.tuple #[]) ∧ Loading B p ga ca gw cw w N (mixS R0 R (s + 1)) rb (restS N R N.streams.length (s + 1) ++ l) w') ∧ wx.cell? ⟨ga, s, none⟩ = some (.pointer (some ⟨pk, 0, none⟩))) := fun s hs wx hx => by
    rw [restS_step _ _ _ _ hs, List.append_assoc] at hx
    exact loading_s hR h0' hs hx
  have HM : Hid (∀ wx, Loading B p ga ca gw cw w N (mixW R0 R N.workers.length) rb (restW R N.workers.length N.workers.length ++ (restS N R N.streams.length 0 ++ l)) wx → Loading B p ga ca gw cw w N (mixS R0 R 0) rb (restS N R N.streams.length 0 ++ l) wx) := fun wx hx => by
    rw [restW_end, List.nil_append, e1] at hx; exact hx
  have HE : Hid (∀ wx, Loading B p ga ca gw cw w N (mixS R0 R N.streams.length) rb (restS N R N.streams.length N.streams.length ++ l) wx → Loading B p ga ca gw cw w N R rb l wx) := fun wx hx => by
    rw [restS_end, List.nil_append, e2] at hx; exact hx
  clear h hR h0 h0' e0 e1 e2 hok
  generalize N.workers.length = wl at *
  generalize N.streams.length = sl at *
  obtain ⟨c0, c1⟩ := HC.out _ _ _ H0.out
  go_enter Tryz.func90, Tryz.ntmps90
  go_wp2
  go_loopw [13] (fun i wr => ∃ k : Nat, k ≤ wl ∧ i = .int .i64 k ∧ Loading B p ga ca gw cw w N (mixW R0 R k) rb (restW R wl k ++ (restS N R sl 0 ++ l)) wr) (fun i _ => wl - (intOf i).toNat)
  case atStart => exact ⟨0, Nat.zero_le _, rfl, H0.out⟩
  case round =>
    clear H0 c0 c1
    obtain ⟨k, hk, rfl, hld⟩ := hrel
    by_cases hlt : k < wl
    · obtain ⟨pk, hcall, d0⟩ := HW.out k hlt wr hld
      have HCa := hide hcall
      have hk0 : (0 : Int) ≤ (k : Int) := by omega
      have hk1 : (k : Int) < (wl : Int) := by omega
      clear hcall hld HW HS HM HE HC
      go_wp2_with fail
      refine (unhide HCa).mono ?_
      rintro e w1 ⟨rfl, h1⟩
      have H1 := hide h1
      clear h1 HCa
      go_wp2
      go_roundw
      case rel => exact ⟨k + 1, by omega, by go_num, H1.out⟩
      case measure => simp [intOf]; omega
    · have hkl : k = wl := by omega
      subst hkl
      obtain ⟨c0, c1⟩ := HC.out _ _ _ hld
      have H1 := hide (HM.out wr hld)
      clear hld HW HM HC
      go_wp2
      go_loopw [26] (fun i wq => ∃ j : Nat, j ≤ sl ∧ i = .int .i64 j ∧ Loading B p ga ca gw cw w N (mixS R0 R j) rb (restS N R sl j ++ l) wq) (fun i _ => sl - (intOf i).toNat)
      case atStart => exact ⟨0, Nat.zero_le _, rfl, H1.out⟩
      case round =>
        clear H1 c0 c1
        obtain ⟨j, hj, rfl, hld⟩ := hrel
        by_cases hlt2 : j < sl
        · obtain ⟨pk, hcall, d0⟩ := HS.out j hlt2 wr hld
          have HCa := hide hcall
          have hj0 : (0 : Int) ≤ (j : Int) := by omega
          have hj1 : (j : Int) < (sl : Int) := by omega
          clear hcall hld HS HE
          go_wp2_with fail
          refine (unhide HCa).mono ?_
          rintro e w1 ⟨rfl, h1⟩
          have H1 := hide h1
          clear h1 HCa
          go_wp2
          go_roundw
          case rel => exact ⟨j + 1, by omega, by go_num, H1.out⟩
          case measure => simp [intOf]; omega
        · have hjl : j = sl := by omega
          subst hjl
          have H2 := hide (HE.out wr hld)
          clear hld HS HE
          go_wp2
          go_end0
          exact ⟨rfl, H2.out⟩

end Go.Proofs.YthfdgdfnflilfaaGreatDoor
/- Package states: Read; package millrace: Load of what Save tells. -/
namespace Go.Proofs.YthfdgdfnflilfaaGreatDoor
open Go.RowKit Go.Conc

theorem read_idle (w : World) : CallsD Tryz.prog 98 #[] .returning w fun e u' w' => e = .returned (.tuple #[]) ∧ u' = .returning ∧ w' = w := by
  refine callsD_of_wpS Tryz.func98 rfl fun c₀ cs hu => ?_
  apply wpS_seq
  apply wpS_region
  simp [wpOpsS, go_sem, recoverD, hu, Tryz.ntmps98, Exit.thenS]
  refine wpS_of_wp ?_
  go_wp2
  cases c₀
  simp_all [bodyPostS, results, Tryz.results98]

set_option maxRecDepth 100000 in
set_option maxHeartbeats 2000000 in
theorem read_calls {B p ga ca gw cw : Nat} {w : World} {v : Value} {N : Net} {R0 R : Rc} (hR : Loads N R0 R) (h0 : R0.W.length = N.workers.length) (h0' : R0.S.length = N.streams.length) (hok : validB N = true)
    (hl : ∀ wx rb, Below w.heap.size w wx → RdAt B wx rb (saveNums N R) → Loading B p ga ca gw cw wx N R0 rb (saveNums N R) wx)
    (hv : BytesAt w v (bytesOf (saveNums N R))) (hvB : ∀ g, v.ownBlock = some g → g < B) (hB : B ≤ w.heap.size) (hlen : (saveNums N R).length ≤ 4398046511104) :
    Calls Tryz.prog 89 #[v, .func (.func 90) #[.pointer (some ⟨p, 0, none⟩)] #[]] w fun e w' => e = .returned (.bool true) ∧ (∃ L, L.p = p ∧ RaceAt L w' N R ∧ ∀ b, Foot L N b → B ≤ b) ∧ Below B w w' := by
  have hrd : RdAt B (w.alloc (.cells #[v] 158)) w.heap.size (saveNums N R ++ []) := by
    rw [List.append_nil]
    exact ⟨⟨v, heap_alloc_new _ _, hv.below ((Below.refl _ _).alloc (Nat.le_refl _) _), hvB⟩, hB, hlen⟩
  have HL : Hid (Calls Tryz.prog 90 #[.pointer (some ⟨p, 0, none⟩), .pointer (some ⟨w.heap.size, 0, none⟩)] (w.alloc (.cells #[v] 158)) fun e w' => e = .returned (.tuple #[]) ∧ Loading B p ga ca gw cw (w.alloc (.cells #[v] 158)) N R w.heap.size [] w') :=
    rload_calls hR h0 h0' (by rw [List.append_nil] at hrd ⊢; exact hl _ _ ((Below.refl _ _).alloc (Nat.le_refl _) _) hrd) hok
  have HE : Hid (∀ wx, Loading B p ga ca gw cw (w.alloc (.cells #[v] 158)) N R w.heap.size [] wx → Calls Tryz.prog 99 #[.pointer (some ⟨w.heap.size, 0, none⟩)] wx fun e w' => e = .returned (.tuple #[]) ∧ w' = wx) := fun wx hx => by
    obtain ⟨L, -, -, -, h4, -⟩ := hx
    exact end_calls h4
  have HF : Hid (∀ wx, Loading B p ga ca gw cw (w.alloc (.cells #[v] 158)) N R w.heap.size [] wx → (∃ L, L.p = p ∧ RaceAt L wx N R ∧ ∀ b, Foot L N b → B ≤ b) ∧ Below B w wx) := fun wx hx => by
    obtain ⟨L, h1, h2, h3, h4, h5, h6⟩ := hx
    exact ⟨⟨L, h1.1, h2, h3⟩, ((Below.refl _ _).alloc hB _).trans h5⟩
  obtain ⟨av, cv, rfl, -, -⟩ := hv
  clear hR hl hrd
  generalize (bytesOf (saveNums N R)).length = bl at *
  go_enter_defers Tryz.func89, Tryz.ntmps89
  go_wp2_with fail
  refine (unhide HL).mono ?_
  rintro e w1 ⟨rfl, h1⟩
  have H1 := hide h1
  have HE1 := hide (HE.out w1 h1)
  clear h1 HL HE
  go_wp2_with fail
  refine (unhide HE1).mono ?_
  rintro e w2 ⟨rfl, rfl⟩
  go_wp2
  refine leaves_cons (f := 98) (args := #[]) (by simp) (by simp [go_sem]) ?_
  refine (read_idle _).mono ?_
  rintro e u' w'' ⟨rfl, rfl, rfl⟩
  obtain ⟨q1, q2⟩ := HF.out _ H1.out
  simp [Leaves, settle, results, Tryz.results89, go_sem]
  exact ⟨q1, q2⟩

theorem bytes_own {w : World} {v : Value} {l : List Int} (h : BytesAt w v l) (h0 : 0 < l.length) : ∀ g, v.ownBlock = some g → g < w.heap.size := by
  obtain ⟨a, cap, rfl, hn, hcap, hc⟩ := h
  intro g hg
  rcases hc with hc | ⟨b, off, rfl, hc⟩
  · omega
  · have : b = g := by simpa [Value.ownBlock] using hg
    subst this
    exact lt_of_cell (hc 0 h0 0 (by decide))

set_option maxRecDepth 100000 in
set_option maxHeartbeats 2000000 in
/-- Load of a state that tells of R. -/
theorem load_calls {n : Net} {v vb : Value} {w : World} {R : Rc} (hn : NetAt w v n) (hok : validB n = true) (hb : BytesAt w vb (bytesOf (saveNums n R))) (hR : Loads n (initR n n.streams) R) (hlen : (saveNums n R).length ≤ 4398046511104) :
    Calls Tryz.prog 75 #[v, vb] w fun e w' => ∃ p, e = .returned (.tuple #[.pointer (some ⟨p, 0, none⟩), .int .i64 0]) ∧ Has (fun b => b < w.heap.size) p n R w' ∧ Below w.heap.size w w' := by
  have h6 : 0 < (bytesOf (saveNums n R)).length := by
    rw [bytesOf_length, saveNums, List.length_append, saveW_length]
    have := (valid_counts hok).2.2.1
    omega
  have hvB := bytes_own hb h6
  have HN : Hid (∀ wx, Below w.heap.size w wx → Calls Tryz.prog 13 #[v] wx fun e w' => ∃ L : Lay, e = .returned (.tuple #[.pointer (some ⟨L.p, 0, none⟩), .int .i64 0]) ∧ RaceAt L w' n (initR n n.streams) ∧ (∀ b, Foot L n b → wx.heap.size ≤ b) ∧ Below wx.heap.size wx w') := fun wx hx => new_calls (hn.below hx) hok
  have HR : Hid (∀ wx (L : Lay), Below w.heap.size w wx → RaceAt L wx n (initR n n.streams) → (∀ b, Foot L n b → w.heap.size ≤ b) → Calls Tryz.prog 89 #[vb, .func (.func 90) #[.pointer (some ⟨L.p, 0, none⟩)] #[]] wx fun e w' => e = .returned (.bool true) ∧ Has (fun b => b < w.heap.size) L.p n R w' ∧ Below w.heap.size w w') := fun wx L hx hra hfo => by
    obtain ⟨ga, ca, gw, cw, hva, hvw, -⟩ := hra.forms
    refine (read_calls (B := w.heap.size) (ga := ga) (ca := ca) (gw := gw) (cw := cw) (p := L.p) hR hra.lenW hra.lenS hok (fun wy rb hy hr => ⟨L, ⟨rfl, hva, hvw⟩, hra.below hy, hfo, hr, Below.refl _ _, Nat.le_trans hx.size hy.size⟩) (Sl.below hb hx) hvB hx.size hlen).mono fun e w' ⟨q1, ⟨L', q2, q3, q4⟩, q5⟩ => ⟨q1, ⟨⟨L', q2, q3, fun b hb hlt => by have := q4 b hb; omega⟩, fun b hb => ?_⟩, hx.trans q5⟩
    have := hx.size
    have := q5.size
    omega
  obtain ⟨ab, cb, rfl, -, -⟩ := hb
  obtain ⟨vs, vr, vw, rfl, h1, h2, h3⟩ := hn
  obtain ⟨sa, sc, rfl⟩ := h1.form
  obtain ⟨ar, cr, rfl⟩ := h2.form
  obtain ⟨aw, cw, rfl⟩ := h3.form
  have hmf : ∀ (fn : Fn) (first cap : Array Value) (w : World), (Instr.makeFunc fn first cap).run Tryz.prog w = .ok (.func fn first cap) w := fun _ _ _ _ => rfl
  have hb0 : Below w.heap.size w (w.alloc (.cells #[.slice sa n.streams.length sc, .slice ar n.sources.length cr, .slice aw n.workers.length cw] 26)) := (Below.refl _ _).alloc (Nat.le_refl _) _
  have HB0 := hide hb0
  clear h1 h2 h3 hR hb0 hvB
  generalize (bytesOf (saveNums n R)).length = bl at *
  generalize n.workers.length = wl at *
  generalize n.streams.length = sl at *
  generalize n.sources.length = rl at *
  go_enter Tryz.func75, Tryz.ntmps75
  go_wp2_with fail
  refine (unhide HN _ HB0.out).mono ?_
  rintro e w1 ⟨L, rfl, hra, hfo, hb1⟩
  have HB1 : Hid (Below w.heap.size w w1) := HB0.out.trans (hb1.mono HB0.out.size)
  have HR1 := hide (HR.out w1 L HB1.out hra fun b hb => Nat.le_trans HB0.out.size (hfo b hb))
  clear hra hfo hb1 HR HN HB0
  go_wp2_with fail
  refine (unhide HR1).mono ?_
  rintro e w2 ⟨rfl, h1, h2⟩
  have H1 := hide h1
  have H2 := hide h2
  clear h1 h2 HR1
  go_wp2
  go_ret2
  exact ⟨L.p, rfl, H1.out, H2.out⟩

end Go.Proofs.YthfdgdfnflilfaaGreatDoor
/- millracekeep: sure. -/
namespace Go.Proofs.YthfdgdfnflilfaaGreatDoor
open Go.RowKit Go.Conc

theorem netOne_at {w : World} {a b c d e : Nat} (h0 : w.heap[a]? = some (.cells #[.int .i64 2, .int .i64 1] 3 (0, 0))) (h1 : w.heap[b]? = some (.cells #[.int .i64 5, .int .i64 6] 3 (0, 0)))
    (h2 : w.heap[c]? = some (.cells #[.int .i64 0, .slice (some ⟨b, 0, none⟩) 2 2] 42 (0, 0)))
    (h3 : w.heap[d]? = some (.cells #[.int .i64 1, .int .i64 0, .int .i64 0, .int .i64 4, .int .i64 4, .int .i64 0, .int .i64 0, .int .i64 0, .int .i64 2, .int .i64 0, .int .i64 1, .int .i64 0, .int .i64 9, .int .i64 0, .int .i64 0, .int .i64 0] 44 (0, 0)))
    (h4 : w.heap[e]? = some (.cells #[.slice (some ⟨d, 0, none⟩) 4 4] 45 (0, 0))) :
    NetAt w (.agg #[.slice (some ⟨a, 0, none⟩) 2 2, .slice (some ⟨c, 0, none⟩) 1 1, .slice (some ⟨e, 0, none⟩) 1 1]) netOne := by
  refine ⟨_, _, _, rfl, ⟨some ⟨a, 0, none⟩, 2, rfl, by decide, by decide, Or.inr ⟨a, 0, rfl, fun i hi j hj => ?_⟩⟩, ⟨fun _ => .slice (some ⟨b, 0, none⟩) 2 2, ⟨some ⟨c, 0, none⟩, 1, rfl, by decide, by decide, Or.inr ⟨c, 0, rfl, fun i hi j hj => ?_⟩⟩, fun i hi => ?_⟩, ⟨fun _ => .slice (some ⟨d, 0, none⟩) 4 4, ⟨some ⟨e, 0, none⟩, 1, rfl, by decide, by decide, Or.inr ⟨e, 0, rfl, fun i hi j hj => ?_⟩⟩, fun i hi => ?_⟩⟩
  · have hi' : i < 2 := hi
    have hc : (i = 0 ∨ i = 1) ∧ j = 0 := by omega
    obtain ⟨rfl | rfl, rfl⟩ := hc <;> exact row_cell h0 rfl
  · have hi' : i < 1 := hi
    have hc : i = 0 ∧ (j = 0 ∨ j = 1) := by omega
    obtain ⟨rfl, rfl | rfl⟩ := hc <;> exact row_cell h2 rfl
  · have hi' : i < 1 := hi
    have hc : i = 0 := by omega
    subst hc
    refine ⟨some ⟨b, 0, none⟩, 2, rfl, by simp [netOne], by simp [netOne], Or.inr ⟨b, 0, rfl, fun i hi j hj => ?_⟩⟩
    have hi' : i < 2 := hi
    have hc : (i = 0 ∨ i = 1) ∧ j = 0 := by omega
    obtain ⟨rfl | rfl, rfl⟩ := hc <;> exact row_cell h1 rfl
  · have hi' : i < 1 := hi
    have hc : i = 0 ∧ j = 0 := by omega
    obtain ⟨rfl, rfl⟩ := hc
    exact row_cell h4 rfl
  · have hi' : i < 1 := hi
    have hc : i = 0 := by omega
    subst hc
    refine ⟨some ⟨d, 0, none⟩, 4, rfl, by simp [netOne], by simp [netOne], Or.inr ⟨d, 0, rfl, fun i hi j hj => ?_⟩⟩
    have hi' : i < 4 := hi
    have hc : (i = 0 ∨ i = 1 ∨ i = 2 ∨ i = 3) ∧ (j = 0 ∨ j = 1 ∨ j = 2 ∨ j = 3) := by omega
    obtain ⟨rfl | rfl | rfl | rfl, rfl | rfl | rfl | rfl⟩ := hc <;> exact row_cell h3 rfl

theorem netTwo_at {w : World} {a c d e : Nat} (h0 : w.heap[a]? = some (.cells #[.int .i64 1, .int .i64 1] 3 (0, 0)))
    (h2 : w.heap[c]? = some (.cells #[.int .i64 2, .int .i64 0, .int .i64 0, .int .i64 0, .int .i64 2, .int .i64 0, .int .i64 0, .int .i64 0, .int .i64 2, .int .i64 0, .int .i64 1, .int .i64 0] 44 (0, 0)))
    (h3 : w.heap[d]? = some (.cells #[.int .i64 1, .int .i64 0, .int .i64 1, .int .i64 0, .int .i64 1, .int .i64 0, .int .i64 0, .int .i64 0, .int .i64 1, .int .i64 0, .int .i64 0, .int .i64 0] 44 (0, 0)))
    (h4 : w.heap[e]? = some (.cells #[.slice (some ⟨c, 0, none⟩) 3 3, .slice (some ⟨d, 0, none⟩) 3 3] 45 (0, 0))) :
    NetAt w (.agg #[.slice (some ⟨a, 0, none⟩) 2 2, .slice none 0 0, .slice (some ⟨e, 0, none⟩) 2 2]) netTwo := by
  refine ⟨_, _, _, rfl, ⟨some ⟨a, 0, none⟩, 2, rfl, by decide, by decide, Or.inr ⟨a, 0, rfl, fun i hi j hj => ?_⟩⟩, ⟨fun _ => .bool false, ⟨none, 0, rfl, by decide, by decide, Or.inl rfl⟩, fun i hi => ?_⟩, ⟨fun i => if i = 0 then .slice (some ⟨c, 0, none⟩) 3 3 else .slice (some ⟨d, 0, none⟩) 3 3, ⟨some ⟨e, 0, none⟩, 2, rfl, by decide, by decide, Or.inr ⟨e, 0, rfl, fun i hi j hj => ?_⟩⟩, fun i hi => ?_⟩⟩
  · have hi' : i < 2 := hi
    have hc : (i = 0 ∨ i = 1) ∧ j = 0 := by omega
    obtain ⟨rfl | rfl, rfl⟩ := hc <;> exact row_cell h0 rfl
  · exact absurd hi (by have : netTwo.sources.length = 0 := rfl; omega)
  · have hi' : i < 2 := hi
    have hc : (i = 0 ∨ i = 1) ∧ j = 0 := by omega
    obtain ⟨rfl | rfl, rfl⟩ := hc <;> exact row_cell h4 rfl
  · have hi' : i < 2 := hi
    have hc : i = 0 ∨ i = 1 := by omega
    rcases hc with rfl | rfl
    · refine ⟨some ⟨c, 0, none⟩, 3, rfl, by simp [netTwo], by simp [netTwo], Or.inr ⟨c, 0, rfl, fun i hi j hj => ?_⟩⟩
      have hi' : i < 3 := hi
      have hc : (i = 0 ∨ i = 1 ∨ i = 2) ∧ (j = 0 ∨ j = 1 ∨ j = 2 ∨ j = 3) := by omega
      obtain ⟨rfl | rfl | rfl, rfl | rfl | rfl | rfl⟩ := hc <;> exact row_cell h2 rfl
    · refine ⟨some ⟨d, 0, none⟩, 3, rfl, by simp [netTwo], by simp [netTwo], Or.inr ⟨d, 0, rfl, fun i hi j hj => ?_⟩⟩
      have hi' : i < 3 := hi
      have hc : (i = 0 ∨ i = 1 ∨ i = 2) ∧ (j = 0 ∨ j = 1 ∨ j = 2 ∨ j = 3) := by omega
      obtain ⟨rfl | rfl | rfl, rfl | rfl | rfl | rfl⟩ := hc <;> exact row_cell h3 rfl

theorem small_init {N : Net} (h : validB N = true) : SmallR N (initR N N.streams) := fun s hs => by have := init_words h s hs; omega

end Go.Proofs.YthfdgdfnflilfaaGreatDoor
/- millracekeep: sure, the walk. -/
namespace Go.Proofs.YthfdgdfnflilfaaGreatDoor
open Go.RowKit Go.Conc

theorem heap_new' {w : World} {o : Obj} {k : Nat} (h : k = w.heap.size) : (w.alloc o).heap[k]? = some o := by subst h; exact heap_alloc_new _ _
theorem heap_old' {w : World} {o o' : Obj} {k : Nat} (h : k < w.heap.size) (hh : w.heap[k]? = some o') : (w.alloc o).heap[k]? = some o' := (Below.heap_alloc _ _ _ h).trans hh
theorem allocs5 (w : World) (o0 o1 o2 o3 o4 : Obj) : (((((w.alloc o0).alloc o1).alloc o2).alloc o3).alloc o4).heap[w.heap.size]? = some o0 ∧ (((((w.alloc o0).alloc o1).alloc o2).alloc o3).alloc o4).heap[w.heap.size + 1]? = some o1 ∧
    (((((w.alloc o0).alloc o1).alloc o2).alloc o3).alloc o4).heap[w.heap.size + 1 + 1]? = some o2 ∧ (((((w.alloc o0).alloc o1).alloc o2).alloc o3).alloc o4).heap[w.heap.size + 1 + 1 + 1]? = some o3 ∧ (((((w.alloc o0).alloc o1).alloc o2).alloc o3).alloc o4).heap[w.heap.size + 1 + 1 + 1 + 1]? = some o4 := by
  refine ⟨?_, ?_, ?_, ?_, ?_⟩
  all_goals (repeat (first | exact heap_new' (by simp) | refine heap_old' (by first | (simp; done) | (simp; omega)) ?_))
theorem allocs6 (w : World) (o0 o1 o2 o3 o4 o5 : Obj) : ((((((w.alloc o0).alloc o1).alloc o2).alloc o3).alloc o4).alloc o5).heap[w.heap.size]? = some o0 ∧ ((((((w.alloc o0).alloc o1).alloc o2).alloc o3).alloc o4).alloc o5).heap[w.heap.size + 1]? = some o1 ∧
    ((((((w.alloc o0).alloc o1).alloc o2).alloc o3).alloc o4).alloc o5).heap[w.heap.size + 1 + 1]? = some o2 ∧ ((((((w.alloc o0).alloc o1).alloc o2).alloc o3).alloc o4).alloc o5).heap[w.heap.size + 1 + 1 + 1]? = some o3 ∧ ((((((w.alloc o0).alloc o1).alloc o2).alloc o3).alloc o4).alloc o5).heap[w.heap.size + 1 + 1 + 1 + 1]? = some o4 := by
  refine ⟨?_, ?_, ?_, ?_, ?_⟩
  all_goals (repeat (first | exact heap_new' (by simp) | refine heap_old' (by first | (simp; done) | (simp; omega)) ?_))

end Go.Proofs.YthfdgdfnflilfaaGreatDoor

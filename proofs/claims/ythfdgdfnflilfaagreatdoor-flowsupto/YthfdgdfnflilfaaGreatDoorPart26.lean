/- Part 26: KNums2, KeepH, KeepI, KeepJ, Side5, First1. -/
import Derived.Deep.Cut
import Derived.Deep.RegionHeld3
import Derived.Test.YthfdgdfnflilfaaGreatDoorPart25
/- The law's keepNums, the walk. -/
namespace Go.Proofs.YthfdgdfnflilfaaGreatDoor
open Go.RowKit Go.Conc

theorem fill_set {x : Value} {l : List Value} {k : Nat} (h : k < l.length) : (List.replicate k x ++ l.drop k).set k x = List.replicate (k + 1) x ++ l.drop (k + 1) := by
  rw [List.set_append_right _ _ (by simp), List.length_replicate, Nat.sub_self, List.drop_eq_getElem_cons h, List.set_cons_zero, List.replicate_succ']
  simp

theorem Kn.start {base B : Nat} {w0 : World} {p : Nat} {cs0 vals0 : List Value} {v2 v : Value} {x : Int} {m : Nat} {w : World} (hp : w0.heap[p]? = some (.cells cs0.toArray 35 (0, 0))) (h2 : cs0[2]? = some v2) (hrow : w0.ownsRow base 22 1 v2 vals0.length vals0) (hv : w0.ownsRow B 3 1 v m (List.replicate m (.int .i64 0)) ∨ ∃ l : List Value, w0.ownsRow B 3 1 v m l)
    (hown : w.ownsRow B 3 1 v m (List.replicate m (.int .i64 x))) (hf : Fr (fun b => v.ownBlock = some b) w0 w) : Kn base B w0 p cs0 vals0 v2 v.ownBlock x m 0 v2 [] v w := by
  obtain ⟨l, hl⟩ : ∃ l : List Value, w0.ownsRow B 3 1 v m l := hv.elim (fun h => ⟨_, h⟩) id
  refine ⟨?_, ?_, fun b hb => Or.inl hb, rfl, (fun u hu => by cases hu), (fun u hu => by cases hu), hown, fun b hb => ?_, hf.mono fun b _ e => Or.inr (Or.inr e)⟩
  · have e : cs0.set 2 v2 = cs0 := by
      obtain ⟨hl2, e2⟩ := List.getElem?_eq_some_iff.1 h2
      rw [← e2, List.set_getElem_self]
    rw [e, hf.block p (lt_of_blk hp) (own_ne_type hl hp (by decide))]
    exact hp
  · rw [List.append_nil, Nat.add_zero]
    refine own_of_blockB hrow fun b hb => hf.block b (hrow.lt b hb).2 fun e => ?_
    obtain ⟨cs, hc⟩ := own_typed hrow hb
    exact own_ne_type hl hc (by decide) e
  · exact ⟨(hown.lt b hb).2, Or.inl hb, own_typed hown hb⟩

set_option maxRecDepth 100000 in
set_option maxHeartbeats 4000000 in
theorem keepNums_calls {base B : Nat} {col : Nat → Nat} {w : World} {p : Nat} {v0 : Value} {c m : Nat} {v : Value} {l : List Value} (hb : Bk base col w p v0 c) (hl : w.ownsRow B 3 1 v m l) (hB : B ≤ w.heap.size) (hg : ∀ g, v.ownBlock = some g → base ≤ g ∧ 8 < col g) (hm : m ≤ 4398046511104) (hc : c ≤ 1099511627776) :
    Calls Tryz.prog 65 #[.pointer (some ⟨p, 0, none⟩), v] w fun e w' => e = .returned (.tuple #[]) ∧ KeptN base col w p v0 c v.ownBlock w' := by
  obtain ⟨iI, hiI, hI0, hI1, hI2⟩ := info_parts Tryz.infoLI
  obtain ⟨iN, hiN, hN0, hN1, hN2⟩ := info_parts Tryz.info3
  obtain ⟨v2, vals0, q1, q2, q3, q4, q5, q6, q7⟩ := (hb.rows 2 (by decide) (by decide)).ex
  obtain ⟨cs0, hp, hp8⟩ := hb.blk
  have h2 : cs0[2]? = some v2 := by
    have := cell_of_row w p 2 _ _ _ hp
    rw [q1] at this
    simpa using this.symm
  have hbase : base ≤ w.heap.size := Nat.le_trans hb.ge (Nat.le_of_lt (lt_of_blk hp))
  have hll := hl.1
  rw [Nat.mul_one] at hll
  have HSt : Hid (∀ wr, wr.ownsRow B 3 1 v m (List.replicate m (.int .i64 (-1 - (vals0.length : Int)))) → Fr (fun b => v.ownBlock = some b) w wr → Kn base B w p cs0 vals0 v2 v.ownBlock (-1 - (vals0.length : Int)) m 0 v2 [] v wr) := fun wr h1 hf => Kn.start hp h2 q2 (Or.inr ⟨l, hl⟩) h1 hf
  have HDn : Hid (∀ vn news l' wr, Kn base B w p cs0 vals0 v2 v.ownBlock (-1 - (vals0.length : Int)) (m + 4) 4 vn news l' wr → KeptN base col w p v0 c v.ownBlock wr) := fun vn news l' wr h => Kn.done hb hp hp8 q2 q3 q4 q5 q6 q7 (fun g e => ⟨(hg g e).1, (hg g e).2, (hl.lt g e).2⟩) (by omega) h
  obtain ⟨av, cv, rfl⟩ := own_slice q2
  obtain ⟨al, cl, rfl⟩ := own_slice hl
  have HL := hide hl
  have hvn : vals0.length ≤ 1099511627776 := by omega
  have wr1 : wrap64 (-1 - (vals0.length : Int)) = -1 - (vals0.length : Int) := by unfold wrap64; omega
  clear hb hl hg hp h2 q2 q3 q4 q5 q6 q7
  have hxv : ∃ xv : Int, xv = -1 - (vals0.length : Int) := ⟨_, rfl⟩
  obtain ⟨xv, hxv⟩ := hxv
  rw [← hxv] at HSt HDn
  go_enter Tryz.func65, Tryz.ntmps65
  go_wp2
  rw [← hxv] at *
  go_loopw [5] (fun i wr => ∃ k : Nat, k ≤ m ∧ i = .int .i64 k ∧ Fr (fun b => (Value.slice al m cl).ownBlock = some b) w wr ∧ wr.ownsRow B 3 1 (.slice al m cl) m (List.replicate k (.int .i64 xv) ++ l.drop k)) (fun i _ => m - (intOf i).toNat)
  case atStart => exact ⟨0, Nat.zero_le _, rfl, Fr.refl _ w, by simpa using HL.out⟩
  case round =>
    obtain ⟨k, hk, rfl, hf, hr⟩ := hrel
    by_cases hlt : k < m
    · obtain ⟨a', c', hv', -, hget⟩ := own_row_get hr
      simp only [Value.slice.injEq, true_and] at hv'
      obtain ⟨rfl, rfl⟩ := hv'
      obtain ⟨g, rfl, d0⟩ := hget k (by simp; omega)
      obtain ⟨cur, hcur⟩ := own_typed hr (g := g) rfl
      have f0 : wr.frozen? ⟨g, k, none⟩ = false := by
        have hcur' : wr.heap[g]? = some (.cells cur.toList.toArray 3 (0, 0)) := by simpa using hcur
        exact row_frozen hcur' k
      have HNx : Hid (Fr (fun b => (Value.slice (some ⟨g, 0, none⟩) m cl).ownBlock = some b) w (wr.setCell ⟨g, k, none⟩ (.int .i64 xv)) ∧ (wr.setCell ⟨g, k, none⟩ (.int .i64 xv)).ownsRow B 3 1 (.slice (some ⟨g, 0, none⟩) m cl) m (List.replicate (k + 1) (.int .i64 xv) ++ l.drop (k + 1))) := by
        refine ⟨Fr.setCell (S := fun b => (Value.slice (some ⟨g, 0, none⟩) m cl).ownBlock = some b) hf (p := ⟨g, k, none⟩) (Or.inr rfl) _, ?_⟩
        have := own_set (i := k) hr (.int .i64 xv)
        rw [fill_set (by omega)] at this
        exact this
      have hk0 : (0 : Int) ≤ (k : Int) := by omega
      have hk1 : (k : Int) < (m : Int) := by omega
      obtain ⟨ov, dd⟩ : ∃ ov, wr.cell? ⟨g, k, none⟩ = some ov := ⟨_, d0⟩
      clear hf hr hget hcur q1 d0
      go_wp2
      go_roundw
      case rel => exact ⟨k + 1, by omega, by go_num, HNx.out.1, HNx.out.2⟩
      case measure => simp [intOf]; omega
    · have hke : k = m := by omega
      subst hke
      rw [List.drop_of_length_le (by omega), List.append_nil] at hr
      have HK0 := hide (HSt.out wr hr hf)
      clear hr hf HSt HL q1
      obtain ⟨g0, hg0⟩ : ∃ g0, g0 = (Value.slice al k cl).ownBlock := ⟨_, rfl⟩
      rw [← hg0] at HK0 HDn
      have HG0 := hide hg0
      clear hg0
      go_wp2
      go_loopw [1, 6, 7] (fun lv i _ wr => ∃ (j : Nat) (vn : Value) (news : List Value), j ≤ 4 ∧ i = .int .i64 j ∧ Kn base B w p cs0 vals0 (.slice av vals0.length cv) g0 xv (k + j) j vn news lv wr) (fun _ i _ _ => 4 - (intOf i).toNat)
      case atStart => exact ⟨0, _, _, Nat.zero_le _, rfl, HK0.out⟩
      case round =>
        clear HK0
        obtain ⟨j, vn, news, hj, rfl, hkn⟩ := hrel
        by_cases hj4 : j < 4
        · obtain ⟨anv, cnv, hvn2⟩ := own_slice hkn.row
          obtain ⟨alv, clv, hlv⟩ := own_slice hkn.own
          subst hvn2
          subst hlv
          have c2 : wr.cell? ⟨p, 2, none⟩ = some (.slice anv (vals0.length + j) cnv) := (blk_cell hkn.blk 2 _ (by simp [hp8])).1
          have hszr := hkn.fr.size
          have HRo := hide hkn.row
          have HPu : Hid (∀ w2 gr gcap, w2.ownsRow base 22 1 (.slice (some ⟨gr, 0, none⟩) (vals0.length + j + 1) gcap) (vals0.length + j + 1) (vals0 ++ (news ++ [.slice alv (k + j) clv])) → (wr.alloc (.cells #[.slice alv (k + j) clv] 22)).grownBy w2 (Value.slice anv (vals0.length + j) cnv).ownBlock → ((Value.slice anv (vals0.length + j) cnv).ownBlock = some gr ∨ gr = wr.heap.size + 1) →
              (w2.cell? ⟨p, 2, none⟩ = some (.slice anv (vals0.length + j) cnv) ∧ w2.frozen? ⟨p, 2, none⟩ = false) ∧ Kn base B w p cs0 vals0 (.slice av vals0.length cv) g0 xv (k + j) (j + 1) (.slice (some ⟨gr, 0, none⟩) (vals0.length + j + 1) gcap) (news ++ [.slice alv (k + j) clv]) (.slice alv (k + j) clv) (w2.setCell ⟨p, 2, none⟩ (.slice (some ⟨gr, 0, none⟩) (vals0.length + j + 1) gcap))) := fun w2 gr gcap ho hgr hor =>
            hkn.push (by omega) ((Below.refl _ _).alloc (Nat.le_refl _) _) (by rw [List.append_assoc]; exact ho) hgr (hor.imp id (fun e => by omega))
          have h63 : vals0.length + j + 1 ≤ maxLen := by unfold maxLen; omega
          have hbytes : (vals0.length + j + 1) * 24 ≤ 140737488355328 := by omega
          clear hkn HDn
          go_wp2_with (at_builtin; refine wpList_append_lies _ rfl (.tmp 32) (.tmp 34) 31 rfl base 22 iI (.slice none 0 0) 1 24 Tryz.underlying31 hiI hI0 hI1 hI2 rfl (by decide) (.slice anv (vals0.length + j) cnv) (vals0.length + j) (vals0 ++ news) rfl (HRo.out.alloc _) ⟨wr.heap.size, 0, none⟩ 1 1 [.slice alv (k + j) clv] rfl rfl ?c1 ?c2 (by decide) h63 hbytes (by simp; omega) (wr.heap.size + 1) (by simp) ?_)
          (try case c1 => exact cell_one_new _ _ _)
          case c2 => first | rfl | (intro u hu; simp at hu; subst hu; rfl)
          intro gr gc w2 ho hgr hor hglt
          obtain ⟨⟨y1, yf⟩, y3⟩ := HPu.out w2 gr gc ho hgr hor
          have Y3 := hide y3
          clear ho hgr hor hglt y3 HPu c2 HRo
          go_upto_region 9 with fail
          generalize w2.setCell ⟨p, 2, none⟩ (.slice (some ⟨gr, 0, none⟩) (vals0.length + j + 1) gc) = w3 at *
          have HRo3 := hide Y3.out.own
          have hsz3 := Y3.out.fr.size
          have HAp : Hid (∀ w5 g gc', w5.ownsRow B 3 1 (.slice (some ⟨g, 0, none⟩) (k + j + 1) gc') (k + j + 1) (List.replicate (k + j) (.int .i64 xv) ++ [.int .i64 xv]) → (w3.alloc (.cells #[.int .i64 xv] 3)).grownBy w5 (Value.slice alv (k + j) clv).ownBlock → ((Value.slice alv (k + j) clv).ownBlock = some g ∨ (g = w3.heap.size + 1 ∧ ∀ b, b < w3.heap.size + 1 → w5.heap[b]? = (w3.alloc (.cells #[.int .i64 xv] 3)).heap[b]?)) → g < w5.heap.size →
              Kn base B w p cs0 vals0 (.slice av vals0.length cv) g0 xv (k + j + 1) (j + 1) (.slice (some ⟨gr, 0, none⟩) (vals0.length + j + 1) gc) (news ++ [.slice alv (k + j) clv]) (.slice (some ⟨g, 0, none⟩) (k + j + 1) gc') w5) := fun w5 g gc' ho hgr hor hlt =>
            Y3.out.app ((Below.refl _ _).alloc (Nat.le_refl _) _) (by simp) ho hgr hor hlt
          have k63 : k + j + 1 ≤ maxLen := by unfold maxLen; omega
          have kbytes : (k + j + 1) * 8 ≤ 140737488355328 := by omega
          clear Y3 y1 yf
          go_wp2_with (at_builtin; refine wpList_append_keep _ rfl (.tmp 38) (.tmp 40) 22 rfl B 3 iN (.int .i64 0) 1 8 Tryz.underlying22 hiN hN0 hN1 hN2 rfl (by decide) (.slice alv (k + j) clv) (k + j) (List.replicate (k + j) (.int .i64 xv)) rfl (HRo3.out.alloc _) ⟨w3.heap.size, 0, none⟩ 1 1 [.int .i64 xv] rfl rfl ?c1 ?c2 (by decide) k63 kbytes (by simp; omega) (w3.heap.size + 1) (by simp) ?_)
          (try case c1 => exact cell_one_new _ _ _)
          case c2 => first | rfl | (intro u hu; simp at hu; subst hu; rfl)
          intro g gc' w5 ho hgr hor hlt
          have HK5 := hide (HAp.out w5 g gc' ho hgr hor hlt)
          clear ho hgr hor hlt HAp HRo3
          go_wp2
          go_roundw
          case rel => exact ⟨j + 1, _, _, by omega, by go_num, HK5.out⟩
          case measure => simp [intOf]; omega
        · have : j = 4 := by omega
          subst this
          have HDone := hide (HDn.out _ _ _ _ hkn)
          clear hkn HDn
          go_wp2
          go_end0
          refine ⟨rfl, ?_⟩
          rw [← HG0.out]
          exact HDone.out

end Go.Proofs.YthfdgdfnflilfaaGreatDoor
/- millracekeep: beginning, goes. -/
namespace Go.Proofs.YthfdgdfnflilfaaGreatDoor
open Go.RowKit Go.Conc

/-! ### beginning -/
def beginB (a b : List Int) : Bool := (List.range (min a.length b.length)).all fun i => a.getD i 0 == b.getD i 0

theorem begin_of_cmp {a b : List Int} (h : Cmp a b) : beginB a b = true := by
  refine List.all_eq_true.2 fun i hi => ?_
  have hi' := List.mem_range.1 hi
  have ha : i < a.length := by omega
  have hb : i < b.length := by omega
  have := h.get (List.getElem?_eq_getElem ha) (List.getElem?_eq_getElem hb)
  rw [getD_eq _ _ _ ha, getD_eq _ _ _ hb, this]; simp

/-! ### goes -/
/-- What one raw number does to a race. -/
def Go1 (N : Net) (c : Nat) (R S : Rc) : Prop :=
  (c = 6 ∧ ∃ a b o, Grows N R a b o ∧ S = o.elim R (growS R)) ∨ (c = 7 ∧ S = R) ∨ (c < 6 ∧ c < N.workers.length ∧ S = stepR N R c) ∨ (c < 6 ∧ N.workers.length ≤ c ∧ S = R)

inductive GoesTo (N : Net) (R : Rc) : List Int → Rc → Prop
  | nil : GoesTo N R [] R
  | snoc {l : List Int} {x : Int} {S T : Rc} : GoesTo N R l S → Go1 N (pickN x 8) S T → GoesTo N R (l ++ [x]) T

theorem Go1.unique {N : Net} {c : Nat} {R S T : Rc} (h : Go1 N c R S) (k : Go1 N c R T) : S = T := by
  rcases h with ⟨h0, a, b, o, h1, h2⟩ | ⟨h0, h1⟩ | ⟨h0, h1, h2⟩ | ⟨h0, h1, h2⟩
  · rcases k with ⟨k0, a', b', o', k1, k2⟩ | ⟨k0, k1⟩ | ⟨k0, k1, k2⟩ | ⟨k0, k1, k2⟩
    · obtain ⟨-, -, rfl⟩ := grows_one h1 k1
      rw [h2, k2]
    · omega
    · omega
    · omega
  · rcases k with ⟨k0, a', b', o', k1, k2⟩ | ⟨k0, k1⟩ | ⟨k0, k1, k2⟩ | ⟨k0, k1, k2⟩
    · omega
    · rw [h1, k1]
    · omega
    · omega
  · rcases k with ⟨k0, a', b', o', k1, k2⟩ | ⟨k0, k1⟩ | ⟨k0, k1, k2⟩ | ⟨k0, k1, k2⟩
    · omega
    · omega
    · rw [h2, k2]
    · omega
  · rcases k with ⟨k0, a', b', o', k1, k2⟩ | ⟨k0, k1⟩ | ⟨k0, k1, k2⟩ | ⟨k0, k1, k2⟩
    · omega
    · omega
    · omega
    · rw [h2, k2]

theorem GoesTo.unique {N : Net} {R S : Rc} {l : List Int} (h : GoesTo N R l S) : ∀ {l' : List Int} {T : Rc}, GoesTo N R l' T → l = l' → S = T := by
  induction h with
  | nil =>
    intro l' T k e
    cases k with
    | nil => rfl
    | snoc k1 k2 => simp at e
  | snoc h1 h2 ih =>
    intro l' T k e
    cases k with
    | nil => simp at e
    | snoc k1 k2 =>
      obtain ⟨e1, e2⟩ := List.append_inj' e rfl
      have := ih k1 e1
      subst this
      have e3 := (List.cons.inj e2).1
      subst e3
      exact h2.unique k2

theorem bytes_of_sv {B : Nat} {w : World} {v : Value} {s : List Int} (h : SvAt B w v s) (hs : s.length ≤ 140737488355328) : BytesAt w v s := by
  obtain ⟨h1, h2 | ⟨g, cap, cur, hv, hg, hh, hn, hm, hsz, ht⟩⟩ := h
  · exact ⟨none, 0, by rw [h2.1, h2.2], hs, by omega, Or.inl h2.2⟩
  · refine ⟨_, cap, hv, hs, hn, Or.inr ⟨g, 0, rfl, fun i hi j hj => ?_⟩⟩
    have hj0 : j = 0 := by omega
    subst hj0
    have e : (byteRow s)[i]? = some (.int .u8 (s.getD i 0)) := by simp [byteRow, List.getD, hi]
    rw [← ht] at e
    simp only [Nat.mul_one] at e
    rw [List.getElem?_take_of_lt hi] at e
    simp [World.cell?, hh]
    simpa using e

theorem saveNums_length {N : Net} {R : Rc} (hv : validB N = true) (hs : Saves N R) : (saveNums N R).length ≤ 3000000000 := by
  obtain ⟨-, h8, -, h6⟩ := valid_counts hv
  rw [saveNums, List.length_append, saveW_length]
  have h1 := saveS_length N R N.streams.length 268435456 hs.words
  have h2 : N.streams.length * (3 + 268435456) ≤ 8 * (3 + 268435456) := Nat.mul_le_mul_right _ (by omega)
  omega

theorem has_save {A : Nat → Prop} {p : Nat} {N : Net} {R : Rc} {w : World} (h : Has A p N R w) (hs : Saves N R) :
    Calls Tryz.prog 40 #[.pointer (some ⟨p, 0, none⟩)] w fun e w' => ∃ v', e = .returned v' ∧ SvAt w.heap.size w' v' (bytesOf (saveNums N R)) ∧ Below w.heap.size w w' := by
  obtain ⟨L, rfl, h2, h3⟩ := h.ex
  exact rsave_calls h2 hs

/-- Where a race is, that goes on by raw numbers. -/
structure Going (A : Nat → Prop) (w : World) (box : Obj) (N : Net) (R : Rc) (l : List Int) (c k : Nat) (p : Nat) (wr : World) : Prop where
  ex : ∃ S, Has (fun b => A b ∨ (w.heap.size ≤ b ∧ b < (w.alloc box).heap.size)) p N S wr ∧ Good N S (c + k) ∧ GoesTo N R (l.take k) S
  keeps : Keeps A w wr
  box' : wr.heap[w.heap.size]? = some box


theorem Going.below {A : Nat → Prop} {w : World} {box : Obj} {N : Net} {R : Rc} {l : List Int} {c k p : Nat} {wr w' : World} (h : Going A w box N R l c k p wr) (hb : Below wr.heap.size wr w') : Going A w box N R l c k p w' := by
  obtain ⟨S, h1, h2, h3⟩ := h.ex
  exact ⟨⟨S, h1.below hb, h2, h3⟩, h.keeps.trans (Keeps.of_below hb), (hb.block _ (lt_of_blk h.box')).trans h.box'⟩

theorem going_next {A : Nat → Prop} {w : World} {box : Obj} {N : Net} {R S T : Rc} {l : List Int} {c k p : Nat} {wr w' : World} (h : Going A w box N R l c k p wr) (hk : k < l.length) (h3 : GoesTo N R (l.take k) S)
    (hT : Has (fun b => A b ∨ (w.heap.size ≤ b ∧ b < (w.alloc box).heap.size)) p N T w') (hg : Good N T (c + k + 1)) (hkp : Keeps (fun b => A b ∨ (w.heap.size ≤ b ∧ b < (w.alloc box).heap.size)) wr w') (h1 : Go1 N (pickN l[k] 8) S T) : Going A w box N R l c (k + 1) p w' := by
  refine ⟨⟨T, hT, hg, ?_⟩, h.keeps.trans (Fr.mono hkp fun b _ hb hA => hb (Or.inl hA)), ?_⟩
  · rw [List.take_succ_eq_append_getElem hk]; exact GoesTo.snoc h3 h1
  · rw [hkp.block _ (lt_of_blk h.box') (fun e => e (Or.inr ⟨Nat.le_refl _, by simp⟩))]; exact h.box'

theorem going_grow {A : Nat → Prop} {w : World} {box : Obj} {N : Net} {R : Rc} {l : List Int} {c k p : Nat} {wr : World} (h : Going A w box N R l c k p wr) (hk : k < l.length) (h6 : pickN l[k] 8 = 6) :
    Calls Tryz.prog 35 #[.pointer (some ⟨p, 0, none⟩)] wr fun e w' => ∃ a b : Int, e = .returned (.tuple #[.int .i64 a, .int .i64 b]) ∧ Going A w box N R l c (k + 1) p w' := by
  obtain ⟨S, h1, h2, h3⟩ := h.ex
  have hv := (has_len h1).2.2
  refine (has_grow h1 h2.room).mono fun e w' ⟨a, b, o, q1, q2, q3, q4⟩ => ⟨a, b, q2, ?_⟩
  refine going_next h hk h3 q3 ?_ q4 (Or.inl ⟨h6, a, b, o, q1, rfl⟩)
  cases o with
  | none => exact h2.mono
  | some t => exact h2.grow hv q1

theorem going_step {A : Nat → Prop} {w : World} {box : Obj} {N : Net} {R : Rc} {l : List Int} {c k p : Nat} {wr : World} (h : Going A w box N R l c k p wr) (hf : NetFits N) (hk : k < l.length) (hck : c + k ≤ 200000000) (h6 : pickN l[k] 8 < 6) :
    Calls Tryz.prog 19 #[.pointer (some ⟨p, 0, none⟩), .int .i64 (pickN l[k] 8)] wr fun e w' => ∃ a b : Int, e = .returned (.tuple #[.int .i64 a, .int .i64 b]) ∧ Going A w box N R l c (k + 1) p w' := by
  obtain ⟨S, h1, h2, h3⟩ := h.ex
  have hv := (has_len h1).2.2
  by_cases hc : pickN l[k] 8 < N.workers.length
  · refine (has_step h1 _ hc fun s hs => by have := h2.words s hs; omega).mono fun e w' ⟨q1, q2, q3⟩ => ⟨_, _, q1, ?_⟩
    refine going_next h hk h3 q2 ?_ q3 (Or.inr (Or.inr (Or.inl ⟨h6, hc, rfl⟩)))
    unfold stepR
    split
    · rename_i hst; exact h2.step hv hf hc hst
    · exact h2.mono
  · refine (has_step_out h1 _ (by simp [inB]; omega)).mono fun e w' ⟨q1, q2⟩ => ⟨_, _, q1, ?_⟩
    subst q2
    exact going_next h hk h3 h1 h2.mono (Fr.refl _ _) (Or.inr (Or.inr (Or.inr ⟨h6, by omega, rfl⟩)))

theorem going_save {A : Nat → Prop} {w : World} {box : Obj} {N : Net} {R : Rc} {l : List Int} {c k p : Nat} {wr : World} {v : Value} (h : Going A w box N R l c k p wr) (hk : k < l.length) (hck : c + k ≤ 199999999) (h7 : pickN l[k] 8 = 7) (hn : ∀ wx, Keeps A w wx → NetAt wx v N) :
    Calls Tryz.prog 40 #[.pointer (some ⟨p, 0, none⟩)] wr fun e w1 => ∃ a n cap, e = .returned (.slice a n cap) ∧ w1.heap[w.heap.size]? = some box ∧
      ∀ wx, Below w1.heap.size w1 wx → Calls Tryz.prog 75 #[v, .slice a n cap] wx fun e w2 => ∃ p', e = .returned (.tuple #[.pointer (some ⟨p', 0, none⟩), .int .i64 0]) ∧ Going A w box N R l c (k + 1) p' w2 := by
  obtain ⟨S, h1, h2, h3⟩ := h.ex
  have hv := (has_len h1).2.2
  have hsv := h2.saves hv (by omega)
  refine (has_save h1 hsv).mono fun e w1 ⟨v1, q1, q2, q3⟩ => ?_
  obtain ⟨a, cap, rfl⟩ := own_slice q2
  have hg1 := h.below q3
  refine ⟨a, _, cap, q1, hg1.box', fun wx hx => ?_⟩
  have hgx := hg1.below hx
  have hlen := saveNums_length hv hsv
  have hby : BytesAt wx (.slice a (bytesOf (saveNums N S)).length cap) (bytesOf (saveNums N S)) := Sl.below (bytes_of_sv q2 (by rw [bytesOf_length]; omega)) hx
  refine (load_calls (hn wx hgx.keeps) hv hby (h2.loads h1 (by omega)) (by omega)).mono fun e w2 ⟨p', r1, r2, r3⟩ => ⟨p', r1, ?_⟩
  refine ⟨⟨S, r2.mono fun b hb => ?_, h2.mono, ?_⟩, hgx.keeps.trans (Keeps.of_below r3), (r3.block _ (lt_of_blk hgx.box')).trans hgx.box'⟩
  · have := (h1.below (q3)).lt b hb
    have := hx.size
    omega
  · rw [List.take_succ_eq_append_getElem hk]; exact GoesTo.snoc h3 (Or.inr (Or.inl ⟨h7, rfl⟩))

end Go.Proofs.YthfdgdfnflilfaaGreatDoor
/- millracekeep: goes, the walk. -/
namespace Go.Proofs.YthfdgdfnflilfaaGreatDoor
open Go.RowKit Go.Conc

end Go.Proofs.YthfdgdfnflilfaaGreatDoor
/- millracekeep: roomy. -/
namespace Go.Proofs.YthfdgdfnflilfaaGreatDoor
open Go.RowKit Go.Conc

def roomAt (st rooms : List Int) (i : Nat) : Int := if i < rooms.length then 1 + (pickN (rooms.getD i 0) 6 : Int) else st.getD i 0
def roomsOf (st rooms : List Int) : List Int := (List.range st.length).map (roomAt st rooms)
def roomyN (N : Net) (rooms : List Int) : Net := ⟨roomsOf N.streams rooms, N.sources, N.workers⟩

theorem roomsOf_length (st rooms : List Int) : (roomsOf st rooms).length = st.length := by simp [roomsOf]
theorem roomsOf_getD (st rooms : List Int) (i : Nat) (h : i < st.length) : (roomsOf st rooms).getD i 0 = roomAt st rooms i := by simp [roomsOf, List.getD, h]

theorem roomy_valid {N : Net} (h : validB N = true) (rooms : List Int) : validB (roomyN N rooms) = true := by
  have hl := roomsOf_length N.streams rooms
  have hr : ∀ s (hs : s < N.streams.length), 1 ≤ N.streams[s] ∧ N.streams[s] ≤ 6 := fun s hs => valid_room h s hs
  have h0 := h
  simp only [validB, validStreamsB, Bool.and_eq_true, decide_eq_true_eq] at h0
  obtain ⟨⟨⟨⟨⟨h1, h2⟩, h3⟩, h4⟩, h5⟩, h6⟩ := h0
  simp only [validB, validStreamsB, Bool.and_eq_true, decide_eq_true_eq, roomyN, hl]
  refine ⟨⟨⟨⟨⟨h1, h2⟩, ?_⟩, h4⟩, h5⟩, ?_⟩
  · refine List.all_eq_true.2 fun x hx => ?_
    obtain ⟨i, hi, rfl⟩ := List.mem_map.1 hx
    have hi' := List.mem_range.1 hi
    unfold roomAt
    split
    · have := pickN_lt (rooms.getD i 0) 6 (by decide)
      rw [Bool.and_eq_true, decide_eq_true_eq, decide_eq_true_eq]; omega
    · have := hr i hi'
      rw [getD_eq _ _ _ hi']
      simpa using this
  · simpa [validEndsB, hl] using h6

theorem ints_own {B : Nat} {w : World} {v : Value} {l : List Int} (h : w.ownsRow B 3 1 v l.length (intRow l)) (hl : l.length ≤ 140737488355328) : IntsAt w v l := by
  obtain ⟨a, cap, rfl⟩ := own_slice h
  rcases Nat.eq_zero_or_pos l.length with h0 | h0
  · exact ⟨a, cap, rfl, hl, by
      rcases h with ⟨-, e | ⟨g, c, cur, e, -, -, hn, -⟩⟩
      · omega
      · cases e; exact hn, Or.inl h0⟩
  · obtain ⟨g, rfl, -, -⟩ := own_get h 0 h0
    refine ⟨_, cap, rfl, hl, by
      rcases h with ⟨-, e | ⟨g', c, cur, e, -, -, hn, -⟩⟩
      · cases e.1
      · cases e; exact hn, Or.inr ⟨g, 0, rfl, fun i hi j hj => ?_⟩⟩
    have hj0 : j = 0 := by omega
    subst hj0
    obtain ⟨g', e, -, d⟩ := own_get h i hi
    cases e
    simpa using d

theorem net_roomy {B : Nat} {wx : World} {vs vr vw : Value} {a : Option Addr} {cap : Nat} {N : Net} {rooms : List Int} (h : NetAt wx (.agg #[vs, vr, vw]) N) (hl : N.streams.length ≤ 8) (ho : wx.ownsRow B 3 1 (.slice a N.streams.length cap) N.streams.length (intRow (roomsOf N.streams rooms))) : NetAt wx (.agg #[.slice a N.streams.length cap, vr, vw]) (roomyN N rooms) := by
  obtain ⟨vs', vr', vw', e, h1, h2, h3⟩ := h
  cases e
  have hlr := roomsOf_length N.streams rooms
  refine ⟨_, _, _, rfl, ?_, h2, h3⟩
  rw [← hlr] at ho
  have := ints_own ho (by rw [hlr]; omega)
  rw [hlr] at this
  exact this

end Go.Proofs.YthfdgdfnflilfaaGreatDoor
/- The law's side: histories. -/
namespace Go.Proofs.YthfdgdfnflilfaaGreatDoor
open Go.RowKit Go.Conc

section
variable {wz : World} {base p : Nat} {v0 : Value} {c sd cx cy x y : Nat} {n : Net} {vs vr vw : Value} {col : Nat → Nat} {w : World} {Rx Ry : Rc}

/-- Numbers that came out are kept. -/
theorem Sd.nums (h : Sd wz base p v0 c sd cx cy x y n vs vr vw col w Rx Ry) {g0 : Option Nat} {w' : World} (hg0 : ∀ g, g0 = some g → base ≤ g ∧ col g = 22) (hk : KeptN base col w p v0 c g0 w') : ∃ col', Sd wz base p v0 (c + 4) sd cx cy x y n vs vr vw col' w' Rx Ry ∧ Fr (fun b => g0 = some b ∨ (base ≤ b ∧ col b ≤ 8)) w w' ∧ ∀ b, b < w.heap.size → g0 ≠ some b → col' b = col b := by
  obtain ⟨col', h1, h2, h3⟩ := hk.ex
  have hz : Below wz.heap.size wz w' := h.wzm.trans ⟨hk.fr.os, hk.fr.tape, hk.fr.output, hk.fr.size, fun b hb => hk.fr.block b (by have := h.wzm.size; omega) (fun e => by
    have h9 := h.bk.low b (by have := h.wzb; omega)
    rcases e with e | e
    · have := (hg0 b e).2; omega
    · omega)⟩
  have hx := h.x0
  have hy := h.y0
  refine ⟨col', ⟨h.at'.frame (fun b hb e => ?_) hz, h1, hz, h.wzb, h.x0, h.x9, h.y0, h.y9, h.ne, h.fits, h.net, h.short⟩, hk.fr, h2⟩
  have hn : g0 ≠ some b := fun e' => by have := (hg0 b e').2; omega
  exact ⟨hk.fr.block b hb (fun e' => by rcases e' with e' | e'; exact hn e'; omega), h2 b hb hn⟩

set_option maxRecDepth 100000 in
set_option maxHeartbeats 4000000 in
theorem histories_calls {R : Rc} {d : Nat} (h : Sd wz base p v0 c sd cx cy x y n vs vr vw col w R R) (hf : Fine n R d) (hd : d ≤ 1099511627776) (hc : c ≤ 1099511627776) (k : Int) :
    Calls Tryz.prog 33 #[.pointer (some ⟨p, 0, none⟩), .pointer (some ⟨sd, 0, none⟩), .int .i64 k] w fun e w' => e = .returned (.bool true) ∧ Turn wz base p v0 (c + 4) sd cx cy x y n vs vr vw col w R R w' := by
  obtain ⟨s0, s1, gS, gW, cS, cW, y0, y1⟩ := h.cells
  rcases in_cases k n.streams.length with ⟨j, rfl, hj⟩ | ⟨hin, hout⟩
  · have hsm := hf.small hd
    have hlen := hsm j hj
    have hhl : (histOf (srcd n j) (R.s j)).length ≤ (R.s j).words.length := by
      unfold histOf; split
      · rw [List.length_take]; omega
      · exact Nat.le_refl _
    have HX := hide (has_history h.at'.hx j hj)
    have HY : Hid (∀ w1, Below w.heap.size w w1 → (w1.cell? ⟨sd, 0, none⟩ = some (.pointer (some ⟨x, 0, none⟩)) ∧ w1.cell? ⟨sd, 1, none⟩ = some (.pointer (some ⟨y, 0, none⟩)) ∧ ∃ gS gW cS cW, w1.cell? ⟨y, 0, none⟩ = some (.slice (some ⟨gS, 0, none⟩) n.streams.length cS) ∧ w1.cell? ⟨y, 1, none⟩ = some (.slice (some ⟨gW, 0, none⟩) n.workers.length cW)) ∧
        Calls Tryz.prog 64 #[.pointer (some ⟨y, 0, none⟩), .int .i64 j] w1 fun e w' => (∃ v, e = .returned v ∧ IntsAt w' v (histOf (srcd n j) (R.s j))) ∧ ∃ q, w' = w1.drewN q) := fun w1 hb => by
      have h1 := h.belowQ 22 hb
      exact ⟨h1.cells, rhas_history h1.at'.hy j hj hsm⟩
    have HKp : Hid (∀ w1, Below w.heap.size w w1 → Calls Tryz.prog 17 #[.pointer (some ⟨p, 0, none⟩)] w1 fun e w' => e = .returned (.bool true) ∧ ∃ q, w' = w1.drewN q) := fun w1 hb => (h.belowQ 22 hb).bk.kept (by omega)
    have HKn : Hid (∀ w1 v m l, Below w.heap.size w w1 → w1.ownsRow w.heap.size 3 1 v m l → m ≤ (R.s j).words.length → Calls Tryz.prog 65 #[.pointer (some ⟨p, 0, none⟩), v] w1 fun e w' => e = .returned (.tuple #[]) ∧ Turn wz base p v0 (c + 4) sd cx cy x y n vs vr vw col w R R w') := fun w1 v m l hb hv hm => by
      have h1 := h.belowQ 22 hb
      have hbl := h.base_le
      have hgv : ∀ g, v.ownBlock = some g → base ≤ g ∧ newcol col w.heap.size 22 g = 22 := fun g hg => ⟨by have := (hv.lt g hg).1; omega, newcol_new (hv.lt g hg).1⟩
      refine (keepNums_calls h1.bk hv hb.size (fun g hg => ⟨(hgv g hg).1, by rw [(hgv g hg).2]; omega⟩) (by omega) hc).mono fun e w' ⟨q1, q2⟩ => ⟨q1, ?_⟩
      obtain ⟨col', k1, k2, k3⟩ := h1.nums hgv q2
      refine ⟨col', k1, ⟨(Fr.of_below (S := fun b => base ≤ b ∧ (col b ≤ 20 ∨ col b = cx ∨ col b = cy)) hb).trans k2 (fun b hb' e => ?_), fun b hb' h20 => ?_⟩⟩
      · rcases e with e | e
        · have := (hv.lt b e).1; omega
        · rw [newcol_old hb'] at e
          exact ⟨e.1, Or.inl (by omega)⟩
      · rw [k3 b (by have := hb.size; omega) (fun e => by have := (hv.lt b e).1; omega), newcol_old hb']
    have hj0 : (0 : Int) ≤ (j : Int) := by omega
    have hj1 : (j : Int) < (n.streams.length : Int) := by omega
    clear h hf hsm s1 y0 y1 gS cS gW cW
    generalize histOf (srcd n j) (R.s j) = hl at *
    generalize (R.s j).words.length = wlen at *
    go_enter Tryz.func33, Tryz.ntmps33
    go_wp2_with fail
    refine (unhide HX).mono ?_
    rintro e w1 ⟨a', c', rfl, how, hb1⟩
    obtain ⟨⟨s0, s1, gS, gW, cS, cW, y0, y1⟩, hHi⟩ := HY.out w1 hb1
    have HHi := hide hHi
    have HO := hide how
    have HB := hide hb1
    clear hHi how hb1 HX HY
    go_wp2_with fail
    refine (unhide HHi).mono ?_
    rintro e w2 ⟨⟨vh, rfl, hih⟩, q, rfl⟩
    have HSm : Hid (Calls Tryz.prog 60 #[.slice a' hl.length c', vh] (w1.drewN q) fun e w' => e = .returned (.bool true) ∧ ∃ q', w' = (w1.drewN q).drewN q') := sameInts_calls (ints_own (B := w.heap.size) (w := w1) HO.out (by omega)) hih
    clear hih HHi
    go_wp2_with fail
    refine (unhide HSm).mono ?_
    rintro e w3 ⟨rfl, q', rfl⟩
    have HK1 := hide (HKp.out (w1.drewN (q + q')) (below_drewN HB.out _))
    clear HSm HKp
    go_wp2_with fail
    refine (unhide HK1).mono ?_
    rintro e w4 ⟨rfl, q2, rfl⟩
    have HN1 := hide (HKn.out (w1.drewN (q + q' + q2)) (.slice a' hl.length c') hl.length (intRow hl) (below_drewN HB.out _) HO.out hhl)
    clear HK1 HKn
    go_wp2_with fail
    refine (unhide HN1).mono ?_
    rintro e w5 ⟨rfl, ht⟩
    have HT := hide ht
    clear ht HN1
    go_wp2
    go_ret
    exact ⟨rfl, HT.out⟩
  · have HX := hide (has_history_out h.at'.hx k hin)
    have HPo : Hid (Turn wz base p v0 (c + 4) sd cx cy x y n vs vr vw col w R R w) := ⟨col, ⟨h.at', h.bk.frame (fun _ _ _ => rfl) (fun _ _ _ => rfl) h.bk.low (Nat.le_refl _) (by omega), h.wzm, h.wzb, h.x0, h.x9, h.y0, h.y9, h.ne, h.fits, h.net, h.short⟩, ⟨Fr.refl _ _, fun _ _ _ => rfl⟩⟩
    clear h hf hin hd
    rcases hout with hk | ⟨hk0, hk1⟩
    · go_enter Tryz.func33, Tryz.ntmps33
      go_wp2_with fail
      refine (unhide HX).mono ?_
      rintro e w1 ⟨rfl, rfl⟩
      go_wp2
      go_ret
      exact ⟨rfl, HPo.out⟩
    · go_enter Tryz.func33, Tryz.ntmps33
      go_wp2_with fail
      refine (unhide HX).mono ?_
      rintro e w1 ⟨rfl, rfl⟩
      go_wp2
      go_ret
      exact ⟨rfl, HPo.out⟩

end

end Go.Proofs.YthfdgdfnflilfaaGreatDoor
/- The law's first: a net that is written out. -/
namespace Go.Proofs.YthfdgdfnflilfaaGreatDoor
open Go.RowKit Go.Conc

def firstCode : List Ins := [⟨1, 0, 0, 3⟩, ⟨4, 0, 0, 0⟩, ⟨2, 0, 1, 0⟩]
def firstNet : Net := ⟨[2, 1], [⟨0, [5, 6]⟩], [firstCode]⟩

/-- An empty book. -/
theorem bk_new {base : Nat} {col : Nat → Nat} {w : World} {p : Nat} (hp : w.heap[p]? = some (.cells #[.slice none 0 0, .slice none 0 0, .slice none 0 0, .slice none 0 0, .slice none 0 0, .slice none 0 0, .slice none 0 0, .slice none 0 0] 35 (0, 0))) (hc : col p = 0) (hge : base ≤ p) (hlow : ∀ b, b < base → 90 ≤ col b) : Bk base col w p (.slice none 0 0) 0 := by
  have hall : ∀ r, r ≤ 7 → w.cell? ⟨p, r, none⟩ = some (.slice none 0 0) := fun r h => by
    refine (blk_cell (l := List.replicate 8 (.slice none 0 0)) hp r _ ?_).1
    rw [List.getElem?_replicate, if_pos (by omega)]
  refine ⟨⟨List.replicate 8 (.slice none 0 0), hp, by simp⟩, hc, hge, hall 0 (by omega), fun r h1 h7 => ⟨.slice none 0 0, [], hall r h7, ⟨rfl, Or.inl ⟨rfl, rfl⟩⟩, fun g hg => ?_, by simp, by simp, fun i hi => ?_, fun u hu => ?_⟩, hlow⟩
  · cases hg
  · cases hi
  · cases hu

theorem first_net {w : World} {n1 n2 n3 n4 n5 : Nat} (h1 : w.heap[n1]? = some (.cells #[.int .i64 2, .int .i64 1] 3 (0, 0))) (h2 : w.heap[n2]? = some (.cells #[.int .i64 5, .int .i64 6] 3 (0, 0))) (h3 : w.heap[n3]? = some (.cells #[.int .i64 0, .slice (some ⟨n2, 0, none⟩) 2 2] 42 (0, 0)))
    (h4 : w.heap[n4]? = some (.cells (codeRow firstCode).toArray 44 (0, 0))) (h5 : w.heap[n5]? = some (.cells #[.slice (some ⟨n4, 0, none⟩) 3 3] 45 (0, 0))) :
    NetAt w (.agg #[.slice (some ⟨n1, 0, none⟩) 2 2, .slice (some ⟨n3, 0, none⟩) 1 1, .slice (some ⟨n5, 0, none⟩) 1 1]) firstNet := by
  refine ⟨_, _, _, rfl, ⟨_, _, rfl, show (2 : Nat) ≤ _ by decide, show (2 : Nat) ≤ 2 by decide, Or.inr ⟨n1, 0, rfl, fun i hi j hj => ?_⟩⟩, ⟨fun _ => .slice (some ⟨n2, 0, none⟩) 2 2, ⟨_, _, rfl, show (1 : Nat) ≤ _ by decide, show (1 : Nat) ≤ 1 by decide, Or.inr ⟨n3, 0, rfl, fun i hi j hj => ?_⟩⟩, fun i hi => ?_⟩,
    ⟨fun _ => .slice (some ⟨n4, 0, none⟩) 3 3, ⟨_, _, rfl, show (1 : Nat) ≤ _ by decide, show (1 : Nat) ≤ 1 by decide, Or.inr ⟨n5, 0, rfl, fun i hi j hj => ?_⟩⟩, fun i hi => ?_⟩⟩
  · have hi' : i < 2 := hi
    have hc : (i = 0 ∨ i = 1) ∧ j = 0 := by omega
    obtain ⟨rfl | rfl, rfl⟩ := hc <;> exact row_cell (l := [_, _]) h1 rfl
  · have hi' : i < 1 := hi
    have hc : i = 0 ∧ (j = 0 ∨ j = 1) := by omega
    obtain ⟨rfl, rfl | rfl⟩ := hc <;> exact row_cell (l := [_, _]) h3 rfl
  · have hi' : i < 1 := hi
    have hc : i = 0 := by omega
    subst hc
    refine ⟨_, _, rfl, show (2 : Nat) ≤ _ by decide, show (2 : Nat) ≤ 2 by decide, Or.inr ⟨n2, 0, rfl, fun i hi j hj => ?_⟩⟩
    have hi' : i < 2 := hi
    have hc : (i = 0 ∨ i = 1) ∧ j = 0 := by omega
    obtain ⟨rfl | rfl, rfl⟩ := hc <;> exact row_cell (l := [_, _]) h2 rfl
  · have hi' : i < 1 := hi
    have hc : i = 0 ∧ j = 0 := by omega
    obtain ⟨rfl, rfl⟩ := hc
    exact row_cell (l := [_]) h5 rfl
  · have hi' : i < 1 := hi
    have hc : i = 0 := by omega
    subst hc
    refine ⟨_, _, rfl, show (3 : Nat) ≤ _ by decide, show (3 : Nat) ≤ 3 by decide, Or.inr ⟨n4, 0, rfl, fun i hi j hj => ?_⟩⟩
    have := codeRow_get firstCode i hi j hj
    show w.cell? _ = some ((firstCode.getD i _).cell j)
    rw [getD_eq firstCode i _ hi, Nat.zero_add]
    exact row_cell h4 this

theorem first_valid : validB firstNet = true := by decide +kernel
theorem first_short : ShortNet firstNet := by
  simp [ShortNet, firstNet, firstCode, Fits]

theorem has_run {A : Nat → Prop} {p : Nat} {N : Net} {R : Rc} {w : World} (h : Has A p N R w) {l : List Int} {v : Value} (hv : IntsAt w v l) (hsep : ∀ b, v.ownBlock = some b → A b) (hro : RoomR N R) (hw : ∀ s, s < N.streams.length → (R.s s).words.length + l.length < 4398046511104) :
    Calls Tryz.prog 10 #[.pointer (some ⟨p, 0, none⟩), v] w fun e w' =>
      e = .returned (.tuple #[.int .i64 (runM N l 0 R).1, .int .i64 (runM N l 0 R).2.1]) ∧ Has A p N (runM N l 0 R).2.2 w' ∧ Keeps A w w' := by
  obtain ⟨L, rfl, h2, h3⟩ := h.ex
  exact (rrun_calls h2 hv (fun b hb hf => h3 b hf (hsep b hb)) hro hw).mono fun e w' ⟨h4, h5⟩ => ⟨h4, Has.went h3 h.lt h5⟩

def firstMem (w : World) : World := (((((w.alloc (.cells #[.slice none 0 0, .slice none 0 0, .slice none 0 0, .slice none 0 0, .slice none 0 0, .slice none 0 0, .slice none 0 0, .slice none 0 0] 35)).alloc (.cells #[.int .i64 2, .int .i64 1] 3)).alloc (.cells #[.int .i64 5, .int .i64 6] 3)).alloc
  (.cells #[.int .i64 0, .slice (some ⟨w.heap.size + 1 + 1, 0, none⟩) 2 2] 42)).alloc (.cells #[.int .i64 1, .int .i64 0, .int .i64 0, .int .i64 3, .int .i64 4, .int .i64 0, .int .i64 0, .int .i64 0, .int .i64 2, .int .i64 0, .int .i64 1, .int .i64 0] 44)).alloc (.cells #[.slice (some ⟨w.heap.size + 1 + 1 + 1 + 1, 0, none⟩) 3 3] 45)

theorem firstMem_size (w : World) : (firstMem w).heap.size = w.heap.size + 6 := by simp [firstMem]
theorem firstMem_below (w : World) : Below w.heap.size w (firstMem w) := by
  unfold firstMem
  exact ((((((Below.refl _ w).alloc (Nat.le_refl _) _).alloc (by simp) _).alloc (by simp; omega) _).alloc (by simp; omega) _).alloc (by simp; omega) _).alloc (by simp; omega) _

/-- What opens leaves behind in first. -/
structure FirstAt (w w' : World) (g cap sd x : Nat) (A : Nat → Prop) : Prop where
  c0 : w'.cell? ⟨w.heap.size, 0, none⟩ = some (.slice (some ⟨g, 0, none⟩) 1 cap)
  c1 : w'.cell? ⟨g, 0, none⟩ = some (.pointer (some ⟨sd, 0, none⟩))
  c2 : w'.cell? ⟨sd, 0, none⟩ = some (.pointer (some ⟨x, 0, none⟩))
  has : Has A x firstNet (initR firstNet firstNet.streams) w'
  low : ∀ b, b < w.heap.size → A b
  below : Below w.heap.size w w'

theorem first_opens (w : World) :
    Calls Tryz.prog 8 #[.pointer (some ⟨w.heap.size, 0, none⟩), .agg #[.slice (some ⟨w.heap.size + 1, 0, none⟩) 2 2, .slice (some ⟨w.heap.size + 1 + 1 + 1, 0, none⟩) 1 1, .slice (some ⟨w.heap.size + 1 + 1 + 1 + 1 + 1, 0, none⟩) 1 1], .bool true] (firstMem w) fun e w' => e = .returned (.bool true) ∧ ∃ g cap sd x A, FirstAt w w' g cap sd x A := by
  let col : Nat → Nat := fun b => if b < w.heap.size then 99 else if b = w.heap.size then 0 else if b < w.heap.size + 6 then 90 else 8
  have k1 : ∀ b, b < w.heap.size → col b = 99 := fun b h => by simp [col, h]
  have k2 : col w.heap.size = 0 := by simp [col]
  have k3 : ∀ b, w.heap.size < b → b < w.heap.size + 6 → col b = 90 := fun b h h' => by
    have e1 : ¬ b < w.heap.size := by omega
    have e2 : b ≠ w.heap.size := by omega
    simp [col, e1, e2, h']
  have b0 : (firstMem w).heap[w.heap.size]? = some (.cells #[.slice none 0 0, .slice none 0 0, .slice none 0 0, .slice none 0 0, .slice none 0 0, .slice none 0 0, .slice none 0 0, .slice none 0 0] 35 (0, 0)) :=
    heapOld (by simp; omega) (heapOld (by simp; omega) (heapOld (by simp; omega) (heapOld (by simp; omega) (heapOld (by simp) (heapNew rfl)))))
  have b1 : (firstMem w).heap[w.heap.size + 1]? = some (.cells #[.int .i64 2, .int .i64 1] 3 (0, 0)) :=
    heapOld (by simp) (heapOld (by simp) (heapOld (by simp) (heapOld (by simp) (heapNew (by simp)))))
  have b2 : (firstMem w).heap[w.heap.size + 1 + 1]? = some (.cells #[.int .i64 5, .int .i64 6] 3 (0, 0)) :=
    heapOld (by simp) (heapOld (by simp) (heapOld (by simp) (heapNew (by simp))))
  have b3 : (firstMem w).heap[w.heap.size + 1 + 1 + 1]? = some (.cells #[.int .i64 0, .slice (some ⟨w.heap.size + 1 + 1, 0, none⟩) 2 2] 42 (0, 0)) :=
    heapOld (by simp) (heapOld (by simp) (heapNew (by simp)))
  have b4 : (firstMem w).heap[w.heap.size + 1 + 1 + 1 + 1]? = some (.cells (codeRow firstCode).toArray 44 (0, 0)) :=
    heapOld (by simp) (heapNew (by simp))
  have b5 : (firstMem w).heap[w.heap.size + 1 + 1 + 1 + 1 + 1]? = some (.cells #[.slice (some ⟨w.heap.size + 1 + 1 + 1 + 1, 0, none⟩) 3 3] 45 (0, 0)) := heapNew (by simp)
  have hbk : Bk w.heap.size col (firstMem w) w.heap.size (.slice none 0 0) 0 := bk_new b0 k2 (Nat.le_refl _) (fun b h => by rw [k1 b h]; omega)
  have hns : NetStays w.heap.size col (firstMem w) (.agg #[.slice (some ⟨w.heap.size + 1, 0, none⟩) 2 2, .slice (some ⟨w.heap.size + 1 + 1 + 1, 0, none⟩) 1 1, .slice (some ⟨w.heap.size + 1 + 1 + 1 + 1 + 1, 0, none⟩) 1 1]) firstNet := fun wx hx => by
    have hk : ∀ b, w.heap.size < b → b < w.heap.size + 6 → wx.heap[b]? = (firstMem w).heap[b]? := fun b h h' => hx.block b (by rw [firstMem_size]; omega) (fun e => by have := e.2; rw [k3 b h h'] at this; omega)
    exact first_net ((hk _ (by omega) (by omega)).trans b1) ((hk _ (by omega) (by omega)).trans b2) ((hk _ (by omega) (by omega)).trans b3) ((hk _ (by omega) (by omega)).trans b4) ((hk _ (by omega) (by omega)).trans b5)
  refine (opens_add (vals := []) none 30 31 (by decide) (by decide) (by decide) (by decide) hbk ⟨rfl, Or.inl ⟨rfl, rfl⟩⟩ (fun g hg => by cases hg) (by simp) hns first_short (by decide) first_valid (fun wz ez => by cases ez)).mono fun e w' ⟨he, ha⟩ => ⟨he, ?_⟩
  obtain ⟨col', v0', sd, x, y, vs, vr, vw, -, q1, q2, q3, q4, q5, q6, q7, -, q8, q9, q10⟩ := ha.ex
  obtain ⟨a, cap, rfl, hcap, hg⟩ := own_row_get q2
  obtain ⟨g, rfl, hcell⟩ := hg 0 (by simp)
  refine ⟨g, cap, sd, x, _, q1.c0, hcell, (blk_cell (l := [_, _, _, _, _]) q6 0 _ rfl).1, q7, fun b h => ?_, (firstMem_below w).trans ⟨q8.os, q8.tape, q8.output, q8.size, fun b h => q8.block b (by rw [firstMem_size]; omega) (fun e => by have := e.1; omega)⟩⟩
  have hs := q8.size
  rw [firstMem_size] at hs
  refine ⟨by omega, ?_⟩
  rw [q9 b (by rw [firstMem_size]; omega) (by rw [k1 b h]; omega), k1 b h]; omega

theorem first_goes : (runM firstNet [0, 0, 0, 0] 0 (initR firstNet firstNet.streams)).1 = 3 ∧ (runM firstNet [0, 0, 0, 0] 0 (initR firstNet firstNet.streams)).2.1 = 0 ∧ histOf (srcd firstNet 1) ((runM firstNet [0, 0, 0, 0] 0 (initR firstNet firstNet.streams)).2.2.s 1) = [10] := by decide +kernel

set_option maxRecDepth 100000 in
set_option maxHeartbeats 4000000 in
theorem first_calls (w : World) :
    Calls Tryz.prog 7 #[] w fun e w' => e = .returned (.bool true) ∧ Below w.heap.size w w' := by
  have HOp := hide (first_opens w)
  obtain ⟨g1, g2, g3⟩ := first_goes
  have HRun : Hid (∀ wx x A, Has A x firstNet (initR firstNet firstNet.streams) wx → Calls Tryz.prog 10 #[.pointer (some ⟨x, 0, none⟩), .slice (some ⟨wx.heap.size, 0, none⟩) 4 4] (wx.alloc (.cells #[.int .i64 0, .int .i64 0, .int .i64 0, .int .i64 0] 3)) fun e w' => e = .returned (.tuple #[.int .i64 3, .int .i64 0]) ∧ Has A x firstNet (runM firstNet [0, 0, 0, 0] 0 (initR firstNet firstNet.streams)).2.2 w' ∧ Keeps A wx w') := fun wx x A hx => by
    have hbl : Below wx.heap.size wx (wx.alloc (.cells #[.int .i64 0, .int .i64 0, .int .i64 0, .int .i64 0] 3)) := (Below.refl _ _).alloc (Nat.le_refl _) _
    have hnew : (wx.alloc (.cells #[.int .i64 0, .int .i64 0, .int .i64 0, .int .i64 0] 3)).heap[wx.heap.size]? = some (.cells #[.int .i64 0, .int .i64 0, .int .i64 0, .int .i64 0] 3 (0, 0)) := heapNew rfl
    have hi : IntsAt (wx.alloc (.cells #[.int .i64 0, .int .i64 0, .int .i64 0, .int .i64 0] 3)) (.slice (some ⟨wx.heap.size, 0, none⟩) 4 4) [0, 0, 0, 0] := by
      refine ⟨_, _, rfl, show (4 : Nat) ≤ _ by decide, show (4 : Nat) ≤ 4 by decide, Or.inr ⟨wx.heap.size, 0, rfl, fun i hi j hj => ?_⟩⟩
      have hi' : i < 4 := hi
      have hc : (i = 0 ∨ i = 1 ∨ i = 2 ∨ i = 3) ∧ j = 0 := by omega
      obtain ⟨rfl | rfl | rfl | rfl, rfl⟩ := hc <;> exact row_cell (l := [_, _, _, _]) hnew rfl
    refine (has_run (hx.add hbl) hi (fun b hb => ?_) (init_roomR first_valid) (fun s hs => ?_)).mono fun e w' ⟨h1, h2, h3⟩ => ⟨?_, h2.mono fun b h => Or.inl h, ?_⟩
    · have : wx.heap.size = b := by simpa [Value.ownBlock] using hb
      exact Or.inr (by simp; omega)
    · have hs' : s < 2 := hs
      have hc : s = 0 ∨ s = 1 := by omega
      rcases hc with rfl | rfl <;> decide +kernel
    · rw [h1, g1, g2]; rfl
    · exact (Keeps.of_below hbl).trans (Fr.mono h3 fun b _ h h' => h (Or.inl h'))
  have HHi : Hid (∀ wx x A, Has A x firstNet (runM firstNet [0, 0, 0, 0] 0 (initR firstNet firstNet.streams)).2.2 wx → Calls Tryz.prog 11 #[.pointer (some ⟨x, 0, none⟩), .int .i64 1] wx fun e w' => ∃ g c, e = .returned (.tuple #[.slice (some ⟨g, 0, none⟩) 1 c, .int .i64 0]) ∧ w'.cell? ⟨g, 0, none⟩ = some (.int .i64 10) ∧ 1 ≤ c ∧ Below wx.heap.size wx w') := fun wx x A hx => by
    refine (has_history hx 1 (by decide)).mono fun e w' ⟨a', c', h1, h2, h3⟩ => ?_
    rw [g3] at h1 h2
    obtain ⟨a, cap, e2, hcap, hg⟩ := own_row_get h2
    cases e2
    obtain ⟨g, rfl, hcell⟩ := hg 0 (by simp [intRow])
    exact ⟨g, c', h1, hcell, hcap, h3⟩
  generalize (runM firstNet [0, 0, 0, 0] 0 (initR firstNet firstNet.streams)).2.2 = R' at *
  clear g1 g2 g3
  go_enter Tryz.func7, Tryz.ntmps7
  go_wp2_with fail
  refine (unhide HOp).mono ?_
  rintro e w1 ⟨rfl, g, cap, sd, x, A, hF⟩
  have c0 := hF.c0
  have c1 := hF.c1
  have c2 := hF.c2
  have HF := hide hF
  clear hF HOp
  go_wp2_with fail
  refine (HRun.out w1 x A HF.out.has).mono ?_
  rintro e w2 ⟨rfl, hx, hk⟩
  have HX := hide hx
  have HK := hide hk
  clear hx hk HRun c0 c1 c2
  go_wp2_with fail
  refine (HHi.out w2 x A HX.out).mono ?_
  rintro e w3 ⟨gh, ch, rfl, hc, hc1, hb⟩
  have HB := hide hb
  clear hb HHi
  go_wp2
  go_ret
  exact ⟨rfl, (HF.out.below.trans (HK.out.below HF.out.below.size HF.out.low)).trans (HB.out.mono (Nat.le_trans HF.out.below.size HK.out.size))⟩

end Go.Proofs.YthfdgdfnflilfaaGreatDoor

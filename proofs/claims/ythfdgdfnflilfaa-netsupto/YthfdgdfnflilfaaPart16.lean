/- Part 16: Opens2, Opens3, First1, Nets9. -/
import Derived.Test.YthfdgdfnflilfaaPart15
/- The law's opens: New, and nothing kept. -/
namespace Go.Proofs.Ythfdgdfnflilfaa
open Go.RowKit Go.Conc

theorem Lentd.form {w : World} {g : Nat} {u : Value} {l : List Int} (h : Lentd w g u l) : ∃ a c, u = .slice a l.length c := by
  rcases h.val with hu | ⟨rfl, hu⟩
  · exact ⟨_, _, hu⟩
  · exact ⟨none, 0, hu⟩

/-- lent, and what it leaves for New. -/
theorem lent_open {n : Net} {v : Value} {w : World} (hn : NetAt w v n) (hs : ShortNet n) :
    Calls Try.prog 17 #[v] w fun e w' => ∃ (L : LoanL) (ra : Option Addr) (rc : Nat), e = .returned (.pointer (some ⟨L.q, 0, none⟩)) ∧ LoanAt w.heap.size L w' n ∧ Below w.heap.size w w' ∧
      w'.cell? ⟨L.q, 0, none⟩ = some (.slice ra n.streams.length rc) ∧ w'.cell? ⟨L.q, 1, none⟩ = some (.slice (some ⟨L.gr, 0, none⟩) n.sources.length (n.sources.length + 1)) ∧ w'.cell? ⟨L.q, 2, none⟩ = some (.slice (some ⟨L.gw, 0, none⟩) n.workers.length (n.workers.length + 1)) ∧
      NetAt w' (.agg #[.slice ra n.streams.length rc, .slice (some ⟨L.gr, 0, none⟩) n.sources.length (n.sources.length + 1), .slice (some ⟨L.gw, 0, none⟩) n.workers.length (n.workers.length + 1)]) n := by
  refine (lent_calls hn hs).mono fun e w' ⟨L, q1, q2, q3⟩ => ?_
  obtain ⟨ra, rc, hr⟩ := q2.str.form
  have hnet := q2.net hs
  have hblk := q2.blk
  rw [hr] at hnet hblk
  exact ⟨L, ra, rc, q1, q2, q3, (blk_cell (l := [_, _, _, _, _, _, _, _]) hblk 0 _ rfl).1, (blk_cell (l := [_, _, _, _, _, _, _, _]) hblk 1 _ rfl).1, (blk_cell (l := [_, _, _, _, _, _, _, _]) hblk 2 _ rfl).1, hnet⟩

set_option maxRecDepth 100000 in
set_option maxHeartbeats 4000000 in
theorem opens_plain {base : Nat} {col : Nat → Nat} {w : World} {p : Nat} {v0 : Value} {c : Nat} {n : Net} {v : Value} (hb : Bk base col w p v0 c) (hn : NetStays base col w v n) (hs : ShortNet n) (hc : c + n.sources.length + n.workers.length + 3 ≤ 1099511627776) (add : Bool) (ha : add = true → validB n = false) :
    Calls Try.prog 6 #[.pointer (some ⟨p, 0, none⟩), v, .bool add] w fun e w' => e = .returned (.bool true) ∧ ∃ col', Bk base col' w' p v0 (c + n.sources.length + n.workers.length + 3) ∧ Opened base col col' w w' := by
  have hnw := hn w (Fr.refl _ _)
  obtain ⟨vs, vr, vw, rfl, h1, h2, h3⟩ := hnw
  obtain ⟨sa, sc, rfl⟩ := h1.form
  obtain ⟨ar, cr, rfl⟩ := h2.form
  obtain ⟨aw, cw, rfl⟩ := h3.form
  have hNt : ∀ wx, Below w.heap.size w wx → NetAt wx (.agg #[.slice sa n.streams.length sc, .slice ar n.sources.length cr, .slice aw n.workers.length cw]) n := fun wx hx => NetAt.below ⟨_, _, _, rfl, h1, h2, h3⟩ hx
  have hb0 : Below w.heap.size w (w.alloc (.cells #[.slice sa n.streams.length sc, .slice ar n.sources.length cr, .slice aw n.workers.length cw] 26)) := (Below.refl _ _).alloc (Nat.le_refl _) _
  have HLe := hide (lent_open (hNt _ hb0) hs)
  have hsz0 : (w.alloc (.cells #[.slice sa n.streams.length sc, .slice ar n.sources.length cr, .slice aw n.workers.length cw] 26)).heap.size = w.heap.size + 1 := by simp
  have HNw : Hid (∀ wx u, NetAt wx u n → Calls Try.prog 9 #[u] wx fun e w' => ∃ (x : Option Addr) (en : Int), e = .returned (.tuple #[.pointer x, .int .i64 en]) ∧ x.isSome = validB n ∧ (en = if validB n = true then 0 else 1) ∧ Below wx.heap.size wx w') := fun wx u hu => by
    cases hok : validB n
    · exact (new_out hu hok).mono fun e w' ⟨q1, q2⟩ => ⟨none, 1, q1, rfl, rfl, q2⟩
    · exact (has_new hu hok).mono fun e w' ⟨x, q1, _, q2⟩ => ⟨some ⟨x, 0, none⟩, 0, q1, rfl, rfl, q2⟩
  have HRw : Hid (∀ wx, Below w.heap.size w wx → Calls Try.prog 18 #[.agg #[.slice sa n.streams.length sc, .slice ar n.sources.length cr, .slice aw n.workers.length cw]] wx fun e w' => ∃ y : Option Addr, e = .returned (.pointer y) ∧ y.isSome = validB n ∧ Below wx.heap.size wx w') := fun wx hx => by
    cases hok : validB n
    · exact (refNew_out (hNt wx hx) hok).mono fun e w' ⟨q1, q2⟩ => ⟨none, q1, rfl, q2⟩
    · exact (refNew_calls (hNt wx hx) hs hok).mono fun e w' ⟨x, q1, _, q2⟩ => ⟨some ⟨x, 0, none⟩, q1, rfl, q2⟩
  have HBk : Hid (∀ L w1 w2 w3, LoanAt (w.alloc (.cells #[.slice sa n.streams.length sc, .slice ar n.sources.length cr, .slice aw n.workers.length cw] 26)).heap.size L w1 n → Below (w.alloc (.cells #[.slice sa n.streams.length sc, .slice ar n.sources.length cr, .slice aw n.workers.length cw] 26)).heap.size (w.alloc (.cells #[.slice sa n.streams.length sc, .slice ar n.sources.length cr, .slice aw n.workers.length cw] 26)) w1 → Below w1.heap.size w1 w2 → Below w2.heap.size w2 w3 →
      Calls Try.prog 19 #[.pointer (some ⟨p, 0, none⟩), .pointer (some ⟨L.q, 0, none⟩), .agg #[.slice sa n.streams.length sc, .slice ar n.sources.length cr, .slice aw n.workers.length cw]] w3 fun e w' => e = .returned (.bool true) ∧ ∃ col', Bk base col' w' p v0 (c + n.sources.length + n.workers.length + 3) ∧ Opened base col col' w w') := fun L w1 w2 w3 hL q1 q2 q3 =>
    (opens_back 22 22 (by decide) (by decide) hb hn hs hc hL q1 q2 q3).mono fun e w' ⟨r1, col', r2, r3, _⟩ => ⟨r1, col', r2, r3⟩
  clear h1 h2 h3 hNt hb hn
  have HB0 := hide hb0
  clear hb0
  generalize hok : validB n = ok at *
  clear hok
  go_enter Try.func6, Try.ntmps6
  go_wp2_with fail
  refine (unhide HLe).mono ?_
  rintro e w1 ⟨L, ra, rc, rfl, hL, hb1, c0, c1, c2, hnet⟩
  have hsz1 : w.heap.size < w1.heap.size := by have := hb1.size; rw [hsz0] at this; omega
  have t1 : w1.heap[w.heap.size]? = some (.cells #[.slice sa n.streams.length sc, .slice ar n.sources.length cr, .slice aw n.workers.length cw] 26 (0, 0)) := by
    rw [hb1.block _ (by rw [hsz0]; omega)]; exact heapNew rfl
  have HNw1 := hide (HNw.out w1 _ hnet)
  have HBk1 := hide (fun w2 w3 => HBk.out L w1 w2 w3 hL hb1)
  have HB1 : Hid (Below w.heap.size w w1) := HB0.out.trans (hb1.mono (by rw [hsz0]; omega))
  have T1 := hide t1
  clear hL hb1 hnet t1 HLe HNw HBk HB0
  go_wp2_with fail
  refine (unhide HNw1).mono ?_
  rintro e w2 ⟨x, en, rfl, hx, hen, hb2⟩
  have HEn := hide hen
  have HX := hide hx
  have hsz2 : w.heap.size < w2.heap.size := by have := hb2.size; omega
  have t2 := (hb2.block _ hsz1).trans T1.out
  obtain ⟨z0, -⟩ := blk_cell (l := [_, _, _]) t2 0 _ rfl
  obtain ⟨z1, -⟩ := blk_cell (l := [_, _, _]) t2 1 _ rfl
  obtain ⟨z2, -⟩ := blk_cell (l := [_, _, _]) t2 2 _ rfl
  have HRw1 := hide (HRw.out w2 (HB1.out.trans (hb2.mono (by omega))))
  have HBk2 := hide (fun w3 => HBk1.out w2 w3 hb2)
  have T2 := hide t2
  clear hb2 t2 HNw1 HBk1 HRw T1 c0 c1 c2 hen hx
  go_wp2_with fail
  refine (unhide HRw1).mono ?_
  rintro e w3 ⟨y, rfl, hy, hb3⟩
  have HY := hide hy
  have t3 := (hb3.block _ hsz2).trans T2.out
  obtain ⟨z0, -⟩ := blk_cell (l := [_, _, _]) t3 0 _ rfl
  obtain ⟨z1, -⟩ := blk_cell (l := [_, _, _]) t3 1 _ rfl
  obtain ⟨z2, -⟩ := blk_cell (l := [_, _, _]) t3 2 _ rfl
  have HBk3 := hide (HBk2.out w3 hb3)
  clear hb3 t3 HRw1 HBk2 T2 hy
  go_wp2_with fail
  refine (unhide HBk3).mono ?_
  rintro e w4 ⟨rfl, hfin⟩
  have HFin := hide hfin
  clear hfin HBk3 z0 z1 z2
  have hx := HX.out
  have hy := HY.out
  have hen := HEn.out
  clear HX HY HEn
  cases ok
  · simp only [Bool.false_eq_true, if_false] at hen
    have hx' : x = none := by cases x; rfl; cases hx
    have hy' : y = none := by cases y; rfl; cases hy
    subst hx' hy' hen
    clear ha hx hy
    cases add
    · go_wp2
      go_ret
      exact ⟨rfl, HFin.out⟩
    · go_wp2
      go_ret
      exact ⟨rfl, HFin.out⟩
  · have ha' : add = false := by cases add; rfl; exact absurd (ha rfl) (by decide)
    subst ha'
    obtain ⟨x, rfl⟩ := Option.isSome_iff_exists.1 hx
    obtain ⟨y, rfl⟩ := Option.isSome_iff_exists.1 hy
    simp only [if_true] at hen
    subst hen
    clear ha hx hy
    go_wp2
    go_ret
    exact ⟨rfl, HFin.out⟩

end Go.Proofs.Ythfdgdfnflilfaa
/- The law's opens: a race that is kept. -/
namespace Go.Proofs.Ythfdgdfnflilfaa
open Go.RowKit Go.Conc

theorem Has.turn {A A' : Nat → Prop} {p : Nat} {N : Net} {R : Rc} {w w' : World} (h : Has A p N R w) (hk : ∀ b, b < w.heap.size → ¬ A b → w'.heap[b]? = w.heap[b]?) (ha : ∀ b, b < w.heap.size → ¬ A b → ¬ A' b) (hlt : ∀ b, A' b → b < w'.heap.size) : Has A' p N R w' := by
  obtain ⟨L, h1, h2, h3⟩ := h.ex
  exact ⟨⟨L, h1, h2.frame fun b hb => hk b (h2.foot_lt hb) (h3 b hb), fun b hb => ha b (h2.foot_lt hb) (h3 b hb)⟩, hlt⟩

theorem RefAt.foot_lt {L : RLay} {w : World} {N : Net} {R : Rc} (h : RefAt L w N R) {b : Nat} (hb : RFoot L N b) : b < w.heap.size := by
  obtain ⟨cs, hs, -⟩ := h.rowS
  obtain ⟨ds, hw, -⟩ := h.rowW
  rcases hb with rfl | rfl | rfl | ⟨s, hs', hb⟩
  · exact lt_of_blk h.blk
  · exact lt_of_blk hs
  · exact lt_of_blk hw
  · exact ((h.words s hs').lt b hb).2

theorem RefAt.frame {L : RLay} {w w' : World} {N : Net} {R : Rc} (h : RefAt L w N R) (hk : ∀ b, RFoot L N b → w'.heap[b]? = w.heap[b]?) (hc : ∀ k, k < N.workers.length → CodeAt w' (L.VC k) (codeOf N k)) : RefAt L w' N R := by
  obtain ⟨cs, hs, hs2⟩ := h.rowS
  obtain ⟨ds, hw, hw2⟩ := h.rowW
  exact ⟨(hk _ (Or.inl rfl)).trans h.blk, ⟨cs, (hk _ (Or.inr (Or.inl rfl))).trans hs, hs2⟩, ⟨ds, (hk _ (Or.inr (Or.inr (Or.inl rfl)))).trans hw, hw2⟩, fun s hs' => own_of_blockB (h.words s hs') fun g hg => hk g (Or.inr (Or.inr (Or.inr ⟨s, hs', hg⟩))), h.inj, hc, h.lenW, h.lenS, h.le, h.place, h.ok⟩

theorem Try.infoSd : (Try.prog.info? 61).map (fun i => (i.zero, i.size, i.bytes)) = some (some (.pointer none), 1, 8) := by kernel_rfl

/-- The row of sides is written anew. -/
theorem BkM.set0 {md : Nat → Nat} {base : Nat} {col : Nat → Nat} {w : World} {p : Nat} {v0 : Value} {c : Nat} (h : BkM md base col w p v0 c) (v : Value) : BkM md base col (w.setCell ⟨p, 0, none⟩ v) p v c := by
  obtain ⟨cs, hp, hl⟩ := h.blk
  have hb := blk_set hp 0 v
  refine ⟨⟨_, hb, by simpa using hl⟩, h.colp, h.ge, ?_, fun r h1 h7 => ?_, h.low⟩
  · exact (blk_cell hb 0 v (by rw [List.getElem?_set_self (by omega)])).1
  · refine (h.rows r h1 h7).frame ?_ (fun b hb' hx => ?_) (fun _ _ _ => rfl) (by simp) (Nat.le_refl _)
    · exact World.cell?_setCell_other _ _ _ _ (fun e => by injection e; omega)
    · exact heap_setCell_other _ _ _ _ (fun e => by rw [e, h.colp] at hx; omega)

/-- What opens leaves that keeps a race. -/
structure Added (base : Nat) (col : Nat → Nat) (w : World) (p c cx : Nat) (n : Net) (v : Value) (vals : List Value) (w' : World) : Prop where
  ex : ∃ col' v0' sd x y vs vr vw, v = .agg #[vs, vr, vw] ∧ Bk base col' w' p v0' c ∧ w'.ownsRow base 61 1 v0' (vals.length + 1) (vals ++ [.pointer (some ⟨sd, 0, none⟩)]) ∧ (∀ g, v0'.ownBlock = some g → col' g = 24) ∧ col' sd = 25 ∧ w.heap.size ≤ sd ∧ w'.heap[sd]? = some (.cells #[.pointer (some ⟨x, 0, none⟩), .pointer y, vs, vr, vw] 60 (0, 0)) ∧
    Has (fun b => b < w'.heap.size ∧ col' b ≠ cx) x n (initR n n.streams) w' ∧ Fr (fun b => base ≤ b ∧ (col b ≤ 20 ∨ col b = 24)) w w' ∧ (∀ b, b < w.heap.size → 20 < col b → col' b = col b) ∧ (∀ b, w.heap.size ≤ b → col' b < 90)

/-- Behind returned: the side is made, the row grows. -/
theorem opens_last {base : Nat} {col col4 : Nat → Nat} {w w4 : World} {p : Nat} {av : Option Addr} {cv : Nat} {c cx x : Nat} {y : Option Addr} {n : Net} {vs vr vw : Value} {vals : List Value} (hcx : 29 < cx) (hcx9 : cx < 90) (hb : Bk base col4 w4 p (.slice av vals.length cv) c) (hrow : w.ownsRow base 61 1 (.slice av vals.length cv) vals.length vals)
    (hv0 : ∀ g, (Value.slice av vals.length cv).ownBlock = some g → col g = 24) (ho : Opened base col col4 w w4) (hx : Has (fun b => b < w4.heap.size ∧ col4 b ≠ cx) x n (initR n n.streams) w4) :
    w4.cell? ⟨p, 0, none⟩ = some (.slice av vals.length cv) ∧ w4.ownsRow base 61 1 (.slice av vals.length cv) vals.length vals ∧ base ≤ w4.heap.size ∧ p < w4.heap.size ∧
      ∀ w5 gr gcap, w5.ownsRow base 61 1 (.slice (some ⟨gr, 0, none⟩) (vals.length + 1) gcap) (vals.length + 1) (vals ++ [.pointer (some ⟨w4.heap.size, 0, none⟩)]) →
        ((w4.alloc (.cells #[.pointer (some ⟨x, 0, none⟩), .pointer y, vs, vr, vw] 60)).alloc (.cells #[.pointer (some ⟨w4.heap.size, 0, none⟩)] 61)).drew.grownBy w5 (Value.slice av vals.length cv).ownBlock → ((Value.slice av vals.length cv).ownBlock = some gr ∨ gr = w4.heap.size + 2) →
        (w5.cell? ⟨p, 0, none⟩ = some (.slice av vals.length cv) ∧ w5.frozen? ⟨p, 0, none⟩ = false) ∧ Added base col w p c cx n (.agg #[vs, vr, vw]) vals (w5.setCell ⟨p, 0, none⟩ (.slice (some ⟨gr, 0, none⟩) (vals.length + 1) gcap)) := by
  obtain ⟨cs, hp, hl⟩ := hb.blk
  have hpl := lt_of_blk hp
  have hge := hb.ge
  have hvl : ∀ g, (Value.slice av vals.length cv).ownBlock = some g → g < w.heap.size := fun g hg => (hrow.lt g hg).2
  have hv4 : ∀ g, (Value.slice av vals.length cv).ownBlock = some g → col4 g = 24 := fun g hg => (ho.old g (hvl g hg) (by rw [hv0 g hg]; omega)).trans (hv0 g hg)
  have hvp : (Value.slice av vals.length cv).ownBlock ≠ some p := fun e => by have := hv4 p e; rw [hb.colp] at this; omega
  have hsz4 := ho.fr.size
  refine ⟨hb.c0, own_of_blockB hrow fun g hg => ho.fr.block g (hvl g hg) (fun e => by have := hv0 g hg; omega), by omega, hpl, fun w5 gr gcap h1 h2 h3 => ?_⟩
  have hgl : gr < w5.heap.size := (h1.lt gr rfl).2
  have hA : ∀ b, b < w4.heap.size → (Value.slice av vals.length cv).ownBlock ≠ some b → w5.heap[b]? = w4.heap[b]? := fun b hb' hne => by
    rw [h2.block b (by simp; omega) (fun e => hne e.symm)]
    show ((w4.alloc _).alloc _).heap[b]? = _
    rw [Below.heap_alloc _ _ _ (by simp; omega), Below.heap_alloc _ _ _ hb']
  have hsd : w5.heap[w4.heap.size]? = some (.cells #[.pointer (some ⟨x, 0, none⟩), .pointer y, vs, vr, vw] 60 (0, 0)) := by
    rw [h2.block _ (by simp; omega) (fun e => by have := hvl _ e.symm; omega)]
    show ((w4.alloc _).alloc _).heap[_]? = _
    rw [Below.heap_alloc _ _ _ (by simp)]; exact heapNew rfl
  have hsz5 : w4.heap.size + 2 ≤ w5.heap.size := by have := h2.size; simpa using this
  have hp5 := hA p hpl hvp
  refine ⟨⟨(World.cell?_of_block (w := w4) hp5).trans hb.c0, row_frozen (hp5.trans hp) 0⟩, ?_⟩
  let col5 : Nat → Nat := fun b => if b < w4.heap.size then col4 b else if b = w4.heap.size then 25 else if b = gr then 24 else 22
  have k1 : ∀ b, b < w4.heap.size → col5 b = col4 b := fun b h => by simp [col5, h]
  have k2 : col5 w4.heap.size = 25 := by simp [col5]
  have k3 : ∀ b, w4.heap.size ≤ b → col5 b < 30 := fun b h => by
    show (if b < w4.heap.size then col4 b else if b = w4.heap.size then 25 else if b = gr then 24 else 22) < 30
    rw [if_neg (by omega)]
    split
    · omega
    · split <;> omega
  have kg : col5 gr = 24 := by
    rcases h3 with h3 | h3
    · exact (k1 gr (by have := hvl gr h3; omega)).trans (hv4 gr h3)
    · have e1 : ¬ gr < w4.heap.size := by omega
      have e2 : gr ≠ w4.heap.size := by omega
      simp [col5, e1, e2]
  have hgp : gr ≠ p := fun e => by rw [e, k1 p hpl, hb.colp] at kg; omega
  have hbk5 : Bk base col5 w5 p (.slice av vals.length cv) c := hb.frame (fun b h h8 => hA b h (fun e => by have := hv4 b e; omega)) (fun b h _ => k1 b h) (fun b h => by rw [k1 b (by omega)]; exact hb.low b h) (by omega) (Nat.le_refl _)
  have hot : ∀ b, b ≠ p → (w5.setCell ⟨p, 0, none⟩ (.slice (some ⟨gr, 0, none⟩) (vals.length + 1) gcap)).heap[b]? = w5.heap[b]? := fun b h => heap_setCell_other _ _ _ _ h
  have hpcol : col p ≤ 20 ∨ w.heap.size ≤ p := by
    rcases Nat.lt_or_ge p w.heap.size with h | h
    · left
      rcases Nat.lt_or_ge 20 (col p) with h' | h'
      · have := ho.old p h h'; rw [hb.colp] at this; omega
      · exact h'
    · exact Or.inr h
  refine ⟨col5, _, w4.heap.size, x, y, vs, vr, vw, rfl, hbk5.set0 _, own_of_blockB h1 fun g hg => ?_, fun g hg => ?_, k2, hsz4, ?_, ?_, ?_, fun b h h' => ?_, fun b h => ?_⟩
  · have e : gr = g := by simpa [Value.ownBlock] using hg
    exact hot g (by omega)
  · have e : gr = g := by simpa [Value.ownBlock] using hg
    rw [← e]; exact kg
  · rw [hot _ (by omega)]; exact hsd
  · refine hx.turn (fun b h h' => ?_) (fun b h h' h'' => ?_) (fun b h => by have := h.1; simpa using this)
    · have hc : col4 b = cx := Classical.byContradiction fun e => h' ⟨h, e⟩
      rw [hot b (fun e => by rw [e, hb.colp] at hc; omega)]
      exact hA b h (fun e => by have := hv4 b e; omega)
    · have hc : col4 b = cx := Classical.byContradiction fun e => h' ⟨h, e⟩
      exact h''.2 ((k1 b h).trans hc)
  · have f4 : Fr (fun b => base ≤ b ∧ (col b ≤ 20 ∨ col b = 24)) w w4 := ho.fr.mono fun b _ h => ⟨h.1, Or.inl h.2⟩
    have f5 := ((f4.alloc (.cells #[.pointer (some ⟨x, 0, none⟩), .pointer y, vs, vr, vw] 60)).alloc (.cells #[.pointer (some ⟨w4.heap.size, 0, none⟩)] 61)).drewN 1
    refine (f5.grown h2 fun k hk => Or.inr ⟨?_, Or.inr (hv0 k hk)⟩).setCell (p := ⟨p, 0, none⟩) ?_ _
    · exact (hrow.lt k hk).1
    · rcases hpcol with h | h
      · exact Or.inr ⟨hge, Or.inl h⟩
      · exact Or.inl h
  · rw [k1 b (by omega)]; exact ho.old b h h'
  · rcases Nat.lt_or_ge b w4.heap.size with h' | h'
    · rw [k1 b h']; exact ho.new b h
    · have := k3 b h'; omega

set_option maxRecDepth 100000 in
set_option maxHeartbeats 4000000 in
theorem opens_add {base : Nat} {col : Nat → Nat} {w : World} {p : Nat} {v0 : Value} {c : Nat} {n : Net} {v : Value} {vals : List Value} (cx : Nat) (hcx : 29 < cx) (hcx9 : cx < 90) (hb : Bk base col w p v0 c) (hrow : w.ownsRow base 61 1 v0 vals.length vals) (hv0 : ∀ g, v0.ownBlock = some g → col g = 24) (hvn : vals.length ≤ 1048576)
    (hn : NetStays base col w v n) (hs : ShortNet n) (hc : c + n.sources.length + n.workers.length + 3 ≤ 1099511627776) (hok : validB n = true) :
    Calls Try.prog 6 #[.pointer (some ⟨p, 0, none⟩), v, .bool true] w fun e w' => e = .returned (.bool true) ∧ Added base col w p (c + n.sources.length + n.workers.length + 3) cx n v vals w' := by
  obtain ⟨av, cv, rfl⟩ := own_slice hrow
  have hnw := hn w (Fr.refl _ _)
  obtain ⟨vs, vr, vw, rfl, h1, h2, h3⟩ := hnw
  obtain ⟨sa, sc, rfl⟩ := h1.form
  obtain ⟨ar, cr, rfl⟩ := h2.form
  obtain ⟨aw, cw, rfl⟩ := h3.form
  obtain ⟨iP, hiP, hP0, hP1, hP2⟩ := info_parts Try.infoSd
  have hNt : ∀ wx, Below w.heap.size w wx → NetAt wx (.agg #[.slice sa n.streams.length sc, .slice ar n.sources.length cr, .slice aw n.workers.length cw]) n := fun wx hx => NetAt.below ⟨_, _, _, rfl, h1, h2, h3⟩ hx
  have hb0 : Below w.heap.size w (w.alloc (.cells #[.slice sa n.streams.length sc, .slice ar n.sources.length cr, .slice aw n.workers.length cw] 26)) := (Below.refl _ _).alloc (Nat.le_refl _) _
  have HLe := hide (lent_open (hNt _ hb0) hs)
  have hsz0 : (w.alloc (.cells #[.slice sa n.streams.length sc, .slice ar n.sources.length cr, .slice aw n.workers.length cw] 26)).heap.size = w.heap.size + 1 := by simp
  have HNw : Hid (∀ wx u, NetAt wx u n → Calls Try.prog 9 #[u] wx fun e w' => ∃ x, e = .returned (.tuple #[.pointer (some ⟨x, 0, none⟩), .int .i64 0]) ∧ Has (fun b => b < wx.heap.size) x n (initR n n.streams) w' ∧ Below wx.heap.size wx w') := fun wx u hu => has_new hu hok
  have HRw : Hid (∀ wx, Below w.heap.size w wx → Calls Try.prog 18 #[.agg #[.slice sa n.streams.length sc, .slice ar n.sources.length cr, .slice aw n.workers.length cw]] wx fun e w' => ∃ q, e = .returned (.pointer (some ⟨q, 0, none⟩)) ∧ Below wx.heap.size wx w') := fun wx hx =>
    (refNew_calls (hNt wx hx) hs hok).mono fun e w' ⟨x, q1, _, q2⟩ => ⟨x, q1, q2⟩
  have HBk : Hid (∀ L w1 w2 w3 x (y : Option Addr), LoanAt (w.alloc (.cells #[.slice sa n.streams.length sc, .slice ar n.sources.length cr, .slice aw n.workers.length cw] 26)).heap.size L w1 n → Below (w.alloc (.cells #[.slice sa n.streams.length sc, .slice ar n.sources.length cr, .slice aw n.workers.length cw] 26)).heap.size (w.alloc (.cells #[.slice sa n.streams.length sc, .slice ar n.sources.length cr, .slice aw n.workers.length cw] 26)) w1 → Below w1.heap.size w1 w2 → Has (fun b => b < w1.heap.size) x n (initR n n.streams) w2 → Below w2.heap.size w2 w3 →
      Calls Try.prog 19 #[.pointer (some ⟨p, 0, none⟩), .pointer (some ⟨L.q, 0, none⟩), .agg #[.slice sa n.streams.length sc, .slice ar n.sources.length cr, .slice aw n.workers.length cw]] w3 fun e w4 => e = .returned (.bool true) ∧ w4.heap[w.heap.size]? = some (.cells #[.slice sa n.streams.length sc, .slice ar n.sources.length cr, .slice aw n.workers.length cw] 26 (0, 0)) ∧
        w4.cell? ⟨p, 0, none⟩ = some (.slice av vals.length cv) ∧ w4.ownsRow base 61 1 (.slice av vals.length cv) vals.length vals ∧ base ≤ w4.heap.size ∧ p < w4.heap.size ∧
      ∀ w5 gr gcap, w5.ownsRow base 61 1 (.slice (some ⟨gr, 0, none⟩) (vals.length + 1) gcap) (vals.length + 1) (vals ++ [.pointer (some ⟨w4.heap.size, 0, none⟩)]) →
        ((w4.alloc (.cells #[.pointer (some ⟨x, 0, none⟩), .pointer y, .slice sa n.streams.length sc, .slice ar n.sources.length cr, .slice aw n.workers.length cw] 60)).alloc (.cells #[.pointer (some ⟨w4.heap.size, 0, none⟩)] 61)).drew.grownBy w5 (Value.slice av vals.length cv).ownBlock → ((Value.slice av vals.length cv).ownBlock = some gr ∨ gr = w4.heap.size + 2) →
        (w5.cell? ⟨p, 0, none⟩ = some (.slice av vals.length cv) ∧ w5.frozen? ⟨p, 0, none⟩ = false) ∧ Added base col w p (c + n.sources.length + n.workers.length + 3) cx n (.agg #[.slice sa n.streams.length sc, .slice ar n.sources.length cr, .slice aw n.workers.length cw]) vals (w5.setCell ⟨p, 0, none⟩ (.slice (some ⟨gr, 0, none⟩) (vals.length + 1) gcap))) := fun L w1 w2 w3 x y hL q1 q2 hx q3 => by
    have z1 : w.heap.size < w1.heap.size := by have := q1.size; rw [hsz0] at this; omega
    have z2 := q2.size
    have z3 := q3.size
    refine (opens_back cx 22 hcx9 (by decide) hb hn hs hc hL q1 q2 q3).mono fun e w' ⟨r1, col', r2, r3, r4, r5, _, r7⟩ => ⟨r1, r7, ?_⟩
    have hc4 : ∀ b, w1.heap.size ≤ b → b < w2.heap.size → col' b = cx := fun b h h' => by
      have e := col4_x (col := col) (n3 := w3.heap.size) (cx := cx) (cy := 22) z1 h h'
      rw [r5 b (by omega) (by omega) (by rw [e]; omega), e]
    refine opens_last hcx hcx9 r2 hrow hv0 r3 (hx.turn (fun b h h' => ?_) (fun b h h' h'' => h''.2 (hc4 b (by omega) h)) (fun b h => h.1))
    have e := col4_x (col := col) (n3 := w3.heap.size) (cx := cx) (cy := 22) z1 (show w1.heap.size ≤ b by omega) h
    rw [r4.block b (by omega) (fun k => by have := k.2; rw [e] at this; omega), q3.block b h]
  clear h1 h2 h3 hNt hb hn hrow hv0 hok
  have HB0 := hide hb0
  clear hb0
  have h63 : vals.length + 1 ≤ maxLen := by unfold maxLen; omega
  have hbytes : (vals.length + 1) * 8 ≤ 140737488355328 := by omega
  generalize vals.length = vn at *
  generalize c + n.sources.length + n.workers.length + 3 = cc at *
  go_enter Try.func6, Try.ntmps6
  go_wp2_with fail
  refine (unhide HLe).mono ?_
  rintro e w1 ⟨L, ra, rc, rfl, hL, hb1, c0, c1, c2, hnet⟩
  have hsz1 : w.heap.size < w1.heap.size := by have := hb1.size; rw [hsz0] at this; omega
  have t1 : w1.heap[w.heap.size]? = some (.cells #[.slice sa n.streams.length sc, .slice ar n.sources.length cr, .slice aw n.workers.length cw] 26 (0, 0)) := by
    rw [hb1.block _ (by rw [hsz0]; omega)]; exact heapNew rfl
  have HNw1 := hide (HNw.out w1 _ hnet)
  have HBk1 := hide (fun w2 w3 x y => HBk.out L w1 w2 w3 x y hL hb1)
  have HB1 : Hid (Below w.heap.size w w1) := HB0.out.trans (hb1.mono (by rw [hsz0]; omega))
  have T1 := hide t1
  clear hL hb1 hnet t1 HLe HNw HBk HB0
  go_wp2_with fail
  refine (unhide HNw1).mono ?_
  rintro e w2 ⟨x, rfl, hx, hb2⟩
  have hsz2 : w.heap.size < w2.heap.size := by have := hb2.size; omega
  have t2 := (hb2.block _ hsz1).trans T1.out
  obtain ⟨z0, -⟩ := blk_cell (l := [_, _, _]) t2 0 _ rfl
  obtain ⟨z1, -⟩ := blk_cell (l := [_, _, _]) t2 1 _ rfl
  obtain ⟨z2, -⟩ := blk_cell (l := [_, _, _]) t2 2 _ rfl
  have HRw1 := hide (HRw.out w2 (HB1.out.trans (hb2.mono (by omega))))
  have HBk2 := hide (fun w3 y => HBk1.out w2 w3 x y hb2 hx)
  have T2 := hide t2
  clear hb2 t2 HNw1 HBk1 HRw T1 c0 c1 c2 hx
  go_wp2_with fail
  refine (unhide HRw1).mono ?_
  rintro e w3 ⟨y, rfl, hb3⟩
  have t3 := (hb3.block _ hsz2).trans T2.out
  obtain ⟨z0, -⟩ := blk_cell (l := [_, _, _]) t3 0 _ rfl
  obtain ⟨z1, -⟩ := blk_cell (l := [_, _, _]) t3 1 _ rfl
  obtain ⟨z2, -⟩ := blk_cell (l := [_, _, _]) t3 2 _ rfl
  have HBk3 := hide (HBk2.out w3 (some ⟨y, 0, none⟩) hb3)
  clear hb3 t3 HRw1 HBk2 T2
  go_wp2_with fail
  refine (unhide HBk3).mono ?_
  rintro e w4 ⟨rfl, t4, p0, hro, hbr, hpr, hfin⟩
  have HRo := hide hro
  have HP6 := hide hfin
  clear hfin hro HBk3 z0 z1 z2
  obtain ⟨z0, -⟩ := blk_cell (l := [_, _, _]) t4 0 _ rfl
  obtain ⟨z1, -⟩ := blk_cell (l := [_, _, _]) t4 1 _ rfl
  obtain ⟨z2, -⟩ := blk_cell (l := [_, _, _]) t4 2 _ rfl
  clear t4 HB1 hsz0 hsz1 hsz2 hs hvn hc hcx hcx9
  generalize hWA : ((w4.alloc (.cells #[.pointer (some ⟨x, 0, none⟩), .pointer (some ⟨y, 0, none⟩), .slice sa n.streams.length sc, .slice ar n.sources.length cr, .slice aw n.workers.length cw] 60)).alloc (.cells #[.pointer (some ⟨w4.heap.size, 0, none⟩)] 61)).drew = WA at *
  have HOw : Hid (WA.ownsRow base 61 1 (.slice av vn cv) vn vals) := hWA ▸ ((HRo.out.alloc _).alloc _)
  have HNn : Hid (∀ (k : Nat) (u : Value), ([.pointer (some ⟨w4.heap.size, 0, none⟩)] : List Value)[k]? = some u → WA.cell? ((⟨w4.heap.size + 1, 0, none⟩ : Addr).add k) = some u) := fun k u hu => by
    have := cell_one_new (w4.alloc (.cells #[.pointer (some ⟨x, 0, none⟩), .pointer (some ⟨y, 0, none⟩), .slice sa n.streams.length sc, .slice ar n.sources.length cr, .slice aw n.workers.length cw] 60)) (.pointer (some ⟨w4.heap.size, 0, none⟩)) 61 k u hu
    rw [World.size_alloc] at this
    exact hWA ▸ this
  have HOn : Hid (∀ u ∈ ([.pointer (some ⟨w4.heap.size, 0, none⟩)] : List Value), u.oneCell' = true) := fun u hu => by simp at hu; subst hu; rfl
  have HSz : Hid (base ≤ WA.heap.size ∧ WA.heap.size = w4.heap.size + 2) := hWA ▸ ⟨by simp; omega, by simp⟩
  have HF6 : Hid (∀ w5 gr gcap, w5.ownsRow base 61 1 (.slice (some ⟨gr, 0, none⟩) (vn + 1) gcap) (vn + 1) (vals ++ [.pointer (some ⟨w4.heap.size, 0, none⟩)]) → WA.grownBy w5 (Value.slice av vn cv).ownBlock → ((Value.slice av vn cv).ownBlock = some gr ∨ gr = w4.heap.size + 2) → (w5.cell? ⟨p, 0, none⟩ = some (.slice av vn cv) ∧ w5.frozen? ⟨p, 0, none⟩ = false) ∧ Added base col w p cc cx n (.agg #[.slice sa n.streams.length sc, .slice ar n.sources.length cr, .slice aw n.workers.length cw]) vals (w5.setCell ⟨p, 0, none⟩ (.slice (some ⟨gr, 0, none⟩) (vn + 1) gcap))) := HP6.out
  subst hWA
  clear HP6 HRo
  go_wp2
  go_region_law (refine step_append_lies _ rfl (.tmp 56) (.tmp 62) 28 rfl base 61 iP (.pointer none) 1 8 Try.underlying28 hiP hP0 hP1 hP2 rfl (by decide) (.slice av vn cv) vn vals (by simp [Act.eval]) HOw.out ⟨w4.heap.size + 1, 0, none⟩ 1 1 [.pointer (some ⟨w4.heap.size, 0, none⟩)] (by simp [Act.eval]) rfl HNn.out HOn.out (by decide) h63 hbytes HSz.out.1 (w4.heap.size + 2) HSz.out.2 ?_; intro gq gc w5 ho hgr hor hglt; obtain ⟨⟨yc, yf⟩, yr⟩ := HF6.out w5 gq gc ho hgr hor; have YR := hide yr; clear ho hgr hor hglt yr)
  all_goals
    go_wp2
    go_ret
    exact ⟨rfl, YR.out⟩

end Go.Proofs.Ythfdgdfnflilfaa
/- The law's first: a net that is written out. -/
namespace Go.Proofs.Ythfdgdfnflilfaa
open Go.RowKit Go.Conc

def firstCode : List Ins := [⟨1, 0, 0, 3⟩, ⟨4, 0, 0, 0⟩, ⟨2, 0, 1, 0⟩]
def firstNet : Net := ⟨[2, 1], [⟨0, [5, 6]⟩], [firstCode]⟩

/-- An empty book. -/
theorem bk_new {base : Nat} {col : Nat → Nat} {w : World} {p : Nat} (hp : w.heap[p]? = some (.cells #[.slice none 0 0, .slice none 0 0, .slice none 0 0, .slice none 0 0, .slice none 0 0, .slice none 0 0, .slice none 0 0, .slice none 0 0] 34 (0, 0))) (hc : col p = 0) (hge : base ≤ p) (hlow : ∀ b, b < base → 90 ≤ col b) : Bk base col w p (.slice none 0 0) 0 := by
  have hall : ∀ r, r ≤ 7 → w.cell? ⟨p, r, none⟩ = some (.slice none 0 0) := fun r h => by
    refine (blk_cell (l := List.replicate 8 (.slice none 0 0)) hp r _ ?_).1
    rw [List.getElem?_replicate, if_pos (by omega)]
  refine ⟨⟨List.replicate 8 (.slice none 0 0), hp, by simp⟩, hc, hge, hall 0 (by omega), fun r h1 h7 => ⟨.slice none 0 0, [], hall r h7, ⟨rfl, Or.inl ⟨rfl, rfl⟩⟩, fun g hg => ?_, by simp, by simp, fun i hi => ?_, fun u hu => ?_⟩, hlow⟩
  · cases hg
  · cases hi
  · cases hu

theorem first_net {w : World} {n1 n2 n3 n4 n5 : Nat} (h1 : w.heap[n1]? = some (.cells #[.int .i64 2, .int .i64 1] 3 (0, 0))) (h2 : w.heap[n2]? = some (.cells #[.int .i64 5, .int .i64 6] 3 (0, 0))) (h3 : w.heap[n3]? = some (.cells #[.int .i64 0, .slice (some ⟨n2, 0, none⟩) 2 2] 54 (0, 0)))
    (h4 : w.heap[n4]? = some (.cells (codeRow firstCode).toArray 56 (0, 0))) (h5 : w.heap[n5]? = some (.cells #[.slice (some ⟨n4, 0, none⟩) 3 3] 57 (0, 0))) :
    NetAt w (.agg #[.slice (some ⟨n1, 0, none⟩) 2 2, .slice (some ⟨n3, 0, none⟩) 1 1, .slice (some ⟨n5, 0, none⟩) 1 1]) firstNet := by
  refine ⟨_, _, _, rfl, ⟨_, _, rfl, show (2 : Nat) ≤ _ by decide, show (2 : Nat) ≤ 2 by decide, Or.inr ⟨n1, 0, rfl, fun i hi j hj => ?_⟩⟩, ⟨fun _ => .slice (some ⟨n2, 0, none⟩) 2 2, ⟨_, _, rfl, show (1 : Nat) ≤ _ by decide, show (1 : Nat) ≤ 1 by decide, Or.inr ⟨n3, 0, rfl, fun i hi j hj => ?_⟩⟩, fun i hi => ?_⟩,
    ⟨fun _ => .slice (some ⟨n4, 0, none⟩) 3 3, ⟨_, _, rfl, show (1 : Nat) ≤ _ by decide, show (1 : Nat) ≤ 1 by decide, Or.inr ⟨n5, 0, rfl, fun i hi j hj => ?_⟩⟩, fun i hi => ?_⟩⟩
  · have hi' : i < 2 := hi
    have hc : (i = 0 ∨ i = 1) ∧ j = 0 := by omega
    obtain ⟨rfl | rfl, rfl⟩ := hc <;> exact row_cell (l := [_, _]) h1 rfl
  · have hi' : i < 1 := hi
    have hc : i = 0 ∧ (j = 0 ∨ j = 1) := by omega
    obtain ⟨rfl, rfl | rfl⟩ := hc <;> exact row_cell (l := [_, _]) h3 rfl
  · have hi' : i < 1 := hi
    have hc : i = 0 := by omega
    subst hc
    refine ⟨_, _, rfl, show (2 : Nat) ≤ _ by decide, show (2 : Nat) ≤ 2 by decide, Or.inr ⟨n2, 0, rfl, fun i hi j hj => ?_⟩⟩
    have hi' : i < 2 := hi
    have hc : (i = 0 ∨ i = 1) ∧ j = 0 := by omega
    obtain ⟨rfl | rfl, rfl⟩ := hc <;> exact row_cell (l := [_, _]) h2 rfl
  · have hi' : i < 1 := hi
    have hc : i = 0 ∧ j = 0 := by omega
    obtain ⟨rfl, rfl⟩ := hc
    exact row_cell (l := [_]) h5 rfl
  · have hi' : i < 1 := hi
    have hc : i = 0 := by omega
    subst hc
    refine ⟨_, _, rfl, show (3 : Nat) ≤ _ by decide, show (3 : Nat) ≤ 3 by decide, Or.inr ⟨n4, 0, rfl, fun i hi j hj => ?_⟩⟩
    have := codeRow_get firstCode i hi j hj
    show w.cell? _ = some ((firstCode.getD i _).cell j)
    rw [getD_eq firstCode i _ hi, Nat.zero_add]
    exact row_cell h4 this

theorem first_valid : validB firstNet = true := by decide +kernel
theorem first_short : ShortNet firstNet := by
  simp [ShortNet, firstNet, firstCode, Fits]

theorem has_run {A : Nat → Prop} {p : Nat} {N : Net} {R : Rc} {w : World} (h : Has A p N R w) {l : List Int} {v : Value} (hv : IntsAt w v l) (hsep : ∀ b, v.ownBlock = some b → A b) (hro : RoomR N R) (hw : ∀ s, s < N.streams.length → (R.s s).words.length + l.length < 4398046511104) :
    Calls Try.prog 15 #[.pointer (some ⟨p, 0, none⟩), v] w fun e w' =>
      e = .returned (.tuple #[.int .i64 (runM N l 0 R).1, .int .i64 (runM N l 0 R).2.1]) ∧ Has A p N (runM N l 0 R).2.2 w' ∧ Keeps A w w' := by
  obtain ⟨L, rfl, h2, h3⟩ := h.ex
  exact (rrun_calls h2 hv (fun b hb hf => h3 b hf (hsep b hb)) hro hw).mono fun e w' ⟨h4, h5⟩ => ⟨h4, Has.went h3 h.lt h5⟩

def firstMem (w : World) : World := (((((w.alloc (.cells #[.slice none 0 0, .slice none 0 0, .slice none 0 0, .slice none 0 0, .slice none 0 0, .slice none 0 0, .slice none 0 0, .slice none 0 0] 34)).alloc (.cells #[.int .i64 2, .int .i64 1] 3)).alloc (.cells #[.int .i64 5, .int .i64 6] 3)).alloc
  (.cells #[.int .i64 0, .slice (some ⟨w.heap.size + 1 + 1, 0, none⟩) 2 2] 54)).alloc (.cells #[.int .i64 1, .int .i64 0, .int .i64 0, .int .i64 3, .int .i64 4, .int .i64 0, .int .i64 0, .int .i64 0, .int .i64 2, .int .i64 0, .int .i64 1, .int .i64 0] 56)).alloc (.cells #[.slice (some ⟨w.heap.size + 1 + 1 + 1 + 1, 0, none⟩) 3 3] 57)

theorem firstMem_size (w : World) : (firstMem w).heap.size = w.heap.size + 6 := by simp [firstMem]
theorem firstMem_below (w : World) : Below w.heap.size w (firstMem w) := by
  unfold firstMem
  exact ((((((Below.refl _ w).alloc (Nat.le_refl _) _).alloc (by simp) _).alloc (by simp; omega) _).alloc (by simp; omega) _).alloc (by simp; omega) _).alloc (by simp; omega) _

/-- What opens leaves behind in first. -/
structure FirstAt (w w' : World) (g cap sd x : Nat) (A : Nat → Prop) : Prop where
  c0 : w'.cell? ⟨w.heap.size, 0, none⟩ = some (.slice (some ⟨g, 0, none⟩) 1 cap)
  c1 : w'.cell? ⟨g, 0, none⟩ = some (.pointer (some ⟨sd, 0, none⟩))
  c2 : w'.cell? ⟨sd, 0, none⟩ = some (.pointer (some ⟨x, 0, none⟩))
  has : Has A x firstNet (initR firstNet firstNet.streams) w'
  low : ∀ b, b < w.heap.size → A b
  below : Below w.heap.size w w'

theorem first_opens (w : World) :
    Calls Try.prog 6 #[.pointer (some ⟨w.heap.size, 0, none⟩), .agg #[.slice (some ⟨w.heap.size + 1, 0, none⟩) 2 2, .slice (some ⟨w.heap.size + 1 + 1 + 1, 0, none⟩) 1 1, .slice (some ⟨w.heap.size + 1 + 1 + 1 + 1 + 1, 0, none⟩) 1 1], .bool true] (firstMem w) fun e w' => e = .returned (.bool true) ∧ ∃ g cap sd x A, FirstAt w w' g cap sd x A := by
  let col : Nat → Nat := fun b => if b < w.heap.size then 99 else if b = w.heap.size then 0 else if b < w.heap.size + 6 then 90 else 8
  have k1 : ∀ b, b < w.heap.size → col b = 99 := fun b h => by simp [col, h]
  have k2 : col w.heap.size = 0 := by simp [col]
  have k3 : ∀ b, w.heap.size < b → b < w.heap.size + 6 → col b = 90 := fun b h h' => by
    have e1 : ¬ b < w.heap.size := by omega
    have e2 : b ≠ w.heap.size := by omega
    simp [col, e1, e2, h']
  have b0 : (firstMem w).heap[w.heap.size]? = some (.cells #[.slice none 0 0, .slice none 0 0, .slice none 0 0, .slice none 0 0, .slice none 0 0, .slice none 0 0, .slice none 0 0, .slice none 0 0] 34 (0, 0)) :=
    heapOld (by simp; omega) (heapOld (by simp; omega) (heapOld (by simp; omega) (heapOld (by simp; omega) (heapOld (by simp) (heapNew rfl)))))
  have b1 : (firstMem w).heap[w.heap.size + 1]? = some (.cells #[.int .i64 2, .int .i64 1] 3 (0, 0)) :=
    heapOld (by simp) (heapOld (by simp) (heapOld (by simp) (heapOld (by simp) (heapNew (by simp)))))
  have b2 : (firstMem w).heap[w.heap.size + 1 + 1]? = some (.cells #[.int .i64 5, .int .i64 6] 3 (0, 0)) :=
    heapOld (by simp) (heapOld (by simp) (heapOld (by simp) (heapNew (by simp))))
  have b3 : (firstMem w).heap[w.heap.size + 1 + 1 + 1]? = some (.cells #[.int .i64 0, .slice (some ⟨w.heap.size + 1 + 1, 0, none⟩) 2 2] 54 (0, 0)) :=
    heapOld (by simp) (heapOld (by simp) (heapNew (by simp)))
  have b4 : (firstMem w).heap[w.heap.size + 1 + 1 + 1 + 1]? = some (.cells (codeRow firstCode).toArray 56 (0, 0)) :=
    heapOld (by simp) (heapNew (by simp))
  have b5 : (firstMem w).heap[w.heap.size + 1 + 1 + 1 + 1 + 1]? = some (.cells #[.slice (some ⟨w.heap.size + 1 + 1 + 1 + 1, 0, none⟩) 3 3] 57 (0, 0)) := heapNew (by simp)
  have hbk : Bk w.heap.size col (firstMem w) w.heap.size (.slice none 0 0) 0 := bk_new b0 k2 (Nat.le_refl _) (fun b h => by rw [k1 b h]; omega)
  have hns : NetStays w.heap.size col (firstMem w) (.agg #[.slice (some ⟨w.heap.size + 1, 0, none⟩) 2 2, .slice (some ⟨w.heap.size + 1 + 1 + 1, 0, none⟩) 1 1, .slice (some ⟨w.heap.size + 1 + 1 + 1 + 1 + 1, 0, none⟩) 1 1]) firstNet := fun wx hx => by
    have hk : ∀ b, w.heap.size < b → b < w.heap.size + 6 → wx.heap[b]? = (firstMem w).heap[b]? := fun b h h' => hx.block b (by rw [firstMem_size]; omega) (fun e => by have := e.2; rw [k3 b h h'] at this; omega)
    exact first_net ((hk _ (by omega) (by omega)).trans b1) ((hk _ (by omega) (by omega)).trans b2) ((hk _ (by omega) (by omega)).trans b3) ((hk _ (by omega) (by omega)).trans b4) ((hk _ (by omega) (by omega)).trans b5)
  refine (opens_add (vals := []) 30 (by decide) (by decide) hbk ⟨rfl, Or.inl ⟨rfl, rfl⟩⟩ (fun g hg => by cases hg) (by simp) hns first_short (by decide) first_valid).mono fun e w' ⟨he, ha⟩ => ⟨he, ?_⟩
  obtain ⟨col', v0', sd, x, y, vs, vr, vw, -, q1, q2, q3, q4, q5, q6, q7, q8, q9, q10⟩ := ha.ex
  obtain ⟨a, cap, rfl, hcap, hg⟩ := own_row_get q2
  obtain ⟨g, rfl, hcell⟩ := hg 0 (by simp)
  refine ⟨g, cap, sd, x, _, q1.c0, hcell, (blk_cell (l := [_, _, _, _, _]) q6 0 _ rfl).1, q7, fun b h => ?_, (firstMem_below w).trans ⟨q8.os, q8.tape, q8.output, q8.size, fun b h => q8.block b (by rw [firstMem_size]; omega) (fun e => by have := e.1; omega)⟩⟩
  have hs := q8.size
  rw [firstMem_size] at hs
  refine ⟨by omega, ?_⟩
  rw [q9 b (by rw [firstMem_size]; omega) (by rw [k1 b h]; omega), k1 b h]; omega

theorem first_goes : (runM firstNet [0, 0, 0, 0] 0 (initR firstNet firstNet.streams)).1 = 3 ∧ (runM firstNet [0, 0, 0, 0] 0 (initR firstNet firstNet.streams)).2.1 = 0 ∧ histOf (srcd firstNet 1) ((runM firstNet [0, 0, 0, 0] 0 (initR firstNet firstNet.streams)).2.2.s 1) = [10] := by decide +kernel

set_option maxRecDepth 100000 in
set_option maxHeartbeats 4000000 in
theorem first_calls (w : World) :
    Calls Try.prog 5 #[] w fun e w' => e = .returned (.bool true) ∧ Below w.heap.size w w' := by
  have HOp := hide (first_opens w)
  obtain ⟨g1, g2, g3⟩ := first_goes
  have HRun : Hid (∀ wx x A, Has A x firstNet (initR firstNet firstNet.streams) wx → Calls Try.prog 15 #[.pointer (some ⟨x, 0, none⟩), .slice (some ⟨wx.heap.size, 0, none⟩) 4 4] (wx.alloc (.cells #[.int .i64 0, .int .i64 0, .int .i64 0, .int .i64 0] 3)) fun e w' => e = .returned (.tuple #[.int .i64 3, .int .i64 0]) ∧ Has A x firstNet (runM firstNet [0, 0, 0, 0] 0 (initR firstNet firstNet.streams)).2.2 w' ∧ Keeps A wx w') := fun wx x A hx => by
    have hbl : Below wx.heap.size wx (wx.alloc (.cells #[.int .i64 0, .int .i64 0, .int .i64 0, .int .i64 0] 3)) := (Below.refl _ _).alloc (Nat.le_refl _) _
    have hnew : (wx.alloc (.cells #[.int .i64 0, .int .i64 0, .int .i64 0, .int .i64 0] 3)).heap[wx.heap.size]? = some (.cells #[.int .i64 0, .int .i64 0, .int .i64 0, .int .i64 0] 3 (0, 0)) := heapNew rfl
    have hi : IntsAt (wx.alloc (.cells #[.int .i64 0, .int .i64 0, .int .i64 0, .int .i64 0] 3)) (.slice (some ⟨wx.heap.size, 0, none⟩) 4 4) [0, 0, 0, 0] := by
      refine ⟨_, _, rfl, show (4 : Nat) ≤ _ by decide, show (4 : Nat) ≤ 4 by decide, Or.inr ⟨wx.heap.size, 0, rfl, fun i hi j hj => ?_⟩⟩
      have hi' : i < 4 := hi
      have hc : (i = 0 ∨ i = 1 ∨ i = 2 ∨ i = 3) ∧ j = 0 := by omega
      obtain ⟨rfl | rfl | rfl | rfl, rfl⟩ := hc <;> exact row_cell (l := [_, _, _, _]) hnew rfl
    refine (has_run (hx.add hbl) hi (fun b hb => ?_) (init_roomR first_valid) (fun s hs => ?_)).mono fun e w' ⟨h1, h2, h3⟩ => ⟨?_, h2.mono fun b h => Or.inl h, ?_⟩
    · have : wx.heap.size = b := by simpa [Value.ownBlock] using hb
      exact Or.inr (by simp; omega)
    · have hs' : s < 2 := hs
      have hc : s = 0 ∨ s = 1 := by omega
      rcases hc with rfl | rfl <;> decide +kernel
    · rw [h1, g1, g2]; rfl
    · exact (Keeps.of_below hbl).trans (Fr.mono h3 fun b _ h h' => h (Or.inl h'))
  have HHi : Hid (∀ wx x A, Has A x firstNet (runM firstNet [0, 0, 0, 0] 0 (initR firstNet firstNet.streams)).2.2 wx → Calls Try.prog 16 #[.pointer (some ⟨x, 0, none⟩), .int .i64 1] wx fun e w' => ∃ g c, e = .returned (.tuple #[.slice (some ⟨g, 0, none⟩) 1 c, .int .i64 0]) ∧ w'.cell? ⟨g, 0, none⟩ = some (.int .i64 10) ∧ 1 ≤ c ∧ Below wx.heap.size wx w') := fun wx x A hx => by
    refine (has_history hx 1 (by decide)).mono fun e w' ⟨a', c', h1, h2, h3⟩ => ?_
    rw [g3] at h1 h2
    obtain ⟨a, cap, e2, hcap, hg⟩ := own_row_get h2
    cases e2
    obtain ⟨g, rfl, hcell⟩ := hg 0 (by simp [intRow])
    exact ⟨g, c', h1, hcell, hcap, h3⟩
  generalize (runM firstNet [0, 0, 0, 0] 0 (initR firstNet firstNet.streams)).2.2 = R' at *
  clear g1 g2 g3
  go_enter Try.func5, Try.ntmps5
  go_wp2_with fail
  refine (unhide HOp).mono ?_
  rintro e w1 ⟨rfl, g, cap, sd, x, A, hF⟩
  have c0 := hF.c0
  have c1 := hF.c1
  have c2 := hF.c2
  have HF := hide hF
  clear hF HOp
  go_wp2_with fail
  refine (HRun.out w1 x A HF.out.has).mono ?_
  rintro e w2 ⟨rfl, hx, hk⟩
  have HX := hide hx
  have HK := hide hk
  clear hx hk HRun c0 c1 c2
  go_wp2_with fail
  refine (HHi.out w2 x A HX.out).mono ?_
  rintro e w3 ⟨gh, ch, rfl, hc, hc1, hb⟩
  have HB := hide hb
  clear hb HHi
  go_wp2
  go_ret
  exact ⟨rfl, (HF.out.below.trans (HK.out.below HF.out.below.size HF.out.low)).trans (HB.out.mono (Nat.le_trans HF.out.below.size HK.out.size))⟩

end Go.Proofs.Ythfdgdfnflilfaa
/- The law's Nets. -/
namespace Go.Proofs.Ythfdgdfnflilfaa
open Go.RowKit Go.Conc

/-- What Nets finds between its calls. -/
structure NetsAt (w : World) (o0 o1 : Obj) (c : Nat) (wr : World) : Prop where
  ex : ∃ col, Bk w.heap.size col wr (w.heap.size + 1 + 1) (.slice none 0 0) c ∧ col w.heap.size = 21 ∧ col (w.heap.size + 1) = 21
  below : Below w.heap.size w wr
  b0 : wr.heap[w.heap.size]? = some o0
  b1 : wr.heap[w.heap.size + 1]? = some o1

theorem NetsAt.opens {w wr : World} {o0 o1 : Obj} {c : Nat} (h : NetsAt w o0 o1 c wr) {v : Value} {n : Net} (hn : NetAt w v n) (hs : ShortNet n) (hc : c ≤ 1000000000) :
    Calls Try.prog 6 #[.pointer (some ⟨w.heap.size + 1 + 1, 0, none⟩), v, .bool false] wr fun e w' => e = .returned (.bool true) ∧ NetsAt w o0 o1 (c + 3145728) w' := by
  obtain ⟨col, hb, k0, k1⟩ := h.ex
  have hsz := h.below.size
  have l0 : w.heap.size < wr.heap.size := Classical.byContradiction fun e => by
    have := h.b0; rw [Array.getElem?_eq_none (by omega)] at this; cases this
  have l1 : w.heap.size + 1 < wr.heap.size := Classical.byContradiction fun e => by
    have := h.b1; rw [Array.getElem?_eq_none (by omega)] at this; cases this
  have hst : NetStays w.heap.size col wr v n := fun wx hx => hn.below (h.below.trans ⟨hx.os, hx.tape, hx.output, hx.size, fun b hb' => hx.block b (by omega) (fun e => by have := e.1; omega)⟩)
  have h1 := hs.2.1
  have h2 := hs.2.2.1
  refine (opens_plain hb hst hs (by omega) false (fun e => by cases e)).mono fun e w' ⟨q1, col', q2, q3⟩ => ⟨q1, ⟨col', ?_, ?_, ?_⟩, ?_, ?_, ?_⟩
  · exact q2.frame (fun _ _ _ => rfl) (fun _ _ _ => rfl) q2.low (Nat.le_refl _) (by omega)
  · rw [q3.old _ l0 (by rw [k0]; omega)]; exact k0
  · rw [q3.old _ l1 (by rw [k1]; omega)]; exact k1
  · exact h.below.trans ⟨q3.fr.os, q3.fr.tape, q3.fr.output, q3.fr.size, fun b hb' => q3.fr.block b (by omega) (fun e => by have := e.1; omega)⟩
  · rw [q3.fr.block _ l0 (fun e => by have := e.2; rw [k0] at this; omega)]; exact h.b0
  · rw [q3.fr.block _ l1 (fun e => by have := e.2; rw [k1] at this; omega)]; exact h.b1

theorem NetsAt.kept {w wr : World} {o0 o1 : Obj} {c : Nat} (h : NetsAt w o0 o1 c wr) (hc : c ≤ 1000000000) :
    Calls Try.prog 7 #[.pointer (some ⟨w.heap.size + 1 + 1, 0, none⟩)] wr fun e w' => e = .returned (.bool true) ∧ Below w.heap.size w w' := by
  obtain ⟨col, hb, -, -⟩ := h.ex
  refine (hb.kept (by omega)).mono fun e w' ⟨q1, q, q2⟩ => ⟨q1, ?_⟩
  subst q2
  exact h.below.trans ⟨rfl, rfl, rfl, Nat.le_refl _, fun _ _ => rfl⟩

theorem nets_start {w w1 : World} (o0 o1 : Obj)
    (hb : Below (((w.alloc o0).alloc o1).alloc (.cells #[.slice none 0 0, .slice none 0 0, .slice none 0 0, .slice none 0 0, .slice none 0 0, .slice none 0 0, .slice none 0 0, .slice none 0 0] 34)).heap.size (((w.alloc o0).alloc o1).alloc (.cells #[.slice none 0 0, .slice none 0 0, .slice none 0 0, .slice none 0 0, .slice none 0 0, .slice none 0 0, .slice none 0 0, .slice none 0 0] 34)) w1) : NetsAt w o0 o1 0 w1 := by
  let col : Nat → Nat := fun b => if b < w.heap.size then 99 else if b < w.heap.size + 2 then 21 else if b = w.heap.size + 2 then 0 else 22
  have hsz : (((w.alloc o0).alloc o1).alloc (.cells #[.slice none 0 0, .slice none 0 0, .slice none 0 0, .slice none 0 0, .slice none 0 0, .slice none 0 0, .slice none 0 0, .slice none 0 0] 34)).heap.size = w.heap.size + 3 := by simp
  refine ⟨⟨col, bk_new ?_ (by simp [col]; omega) (show w.heap.size ≤ w.heap.size + 1 + 1 by omega) (fun b h => by simp [col, h]), by simp [col], by simp [col]⟩, ?_, ?_, ?_⟩
  · rw [hb.block _ (by rw [hsz]; omega)]; exact heapNew (by simp)
  · exact ((((Below.refl _ w).alloc (Nat.le_refl _) o0).alloc (by simp) o1).alloc (by simp; omega) _).trans (hb.mono (by rw [hsz]; omega))
  · rw [hb.block _ (by rw [hsz]; omega)]; exact heapOld (by simp; omega) (heapOld (by simp) (heapNew rfl))
  · rw [hb.block _ (by rw [hsz]; omega)]; exact heapOld (by simp) (heapNew (by simp))

set_option maxRecDepth 100000 in
set_option maxHeartbeats 4000000 in
theorem nets_calls {n m : Net} {v u : Value} {w : World} (hn : NetAt w v n) (hs : ShortNet n) (hm : NetAt w u m) (hsm : ShortNet m) :
    Calls Try.prog 3 #[v, u] w fun e w' => e = .returned (.bool true) ∧ Below w.heap.size w w' := by
  have HN := hide hn
  have HM := hide hm
  obtain ⟨vs, vr, vw, rfl, h1, h2, h3⟩ := hn
  obtain ⟨us, ur, uw, rfl, h4, h5, h6⟩ := hm
  obtain ⟨sa, sc, rfl⟩ := h1.form
  obtain ⟨ar, cr, rfl⟩ := h2.form
  obtain ⟨aw, cw, rfl⟩ := h3.form
  obtain ⟨sa2, sc2, rfl⟩ := h4.form
  obtain ⟨ar2, cr2, rfl⟩ := h5.form
  obtain ⟨aw2, cw2, rfl⟩ := h6.form
  clear h1 h2 h3 h4 h5 h6
  have HS1 : Hid (∀ w1, Below (((w.alloc (.cells #[.slice sa n.streams.length sc, .slice ar n.sources.length cr, .slice aw n.workers.length cw] 26)).alloc (.cells #[.slice sa2 m.streams.length sc2, .slice ar2 m.sources.length cr2, .slice aw2 m.workers.length cw2] 26)).alloc (.cells #[.slice none 0 0, .slice none 0 0, .slice none 0 0, .slice none 0 0, .slice none 0 0, .slice none 0 0, .slice none 0 0, .slice none 0 0] 34)).heap.size (((w.alloc (.cells #[.slice sa n.streams.length sc, .slice ar n.sources.length cr, .slice aw n.workers.length cw] 26)).alloc (.cells #[.slice sa2 m.streams.length sc2, .slice ar2 m.sources.length cr2, .slice aw2 m.workers.length cw2] 26)).alloc (.cells #[.slice none 0 0, .slice none 0 0, .slice none 0 0, .slice none 0 0, .slice none 0 0, .slice none 0 0, .slice none 0 0, .slice none 0 0] 34)) w1 →
    NetsAt w (.cells #[.slice sa n.streams.length sc, .slice ar n.sources.length cr, .slice aw n.workers.length cw] 26) (.cells #[.slice sa2 m.streams.length sc2, .slice ar2 m.sources.length cr2, .slice aw2 m.workers.length cw2] 26) 0 w1) := fun w1 h => nets_start _ _ h
  generalize n.streams.length = k0 at *
  generalize n.sources.length = k1 at *
  generalize n.workers.length = k2 at *
  generalize m.streams.length = j0 at *
  generalize m.sources.length = j1 at *
  generalize m.workers.length = j2 at *
  go_enter Try.func3, Try.ntmps3
  go_wp2_with fail
  refine (first_calls _).mono ?_
  rintro e w1 ⟨rfl, hb⟩
  have H1 := hide (HS1.out w1 hb)
  clear hb HS1
  obtain ⟨z0, -⟩ := blk_cell (l := [_, _, _]) H1.out.b0 0 _ rfl
  obtain ⟨z1, -⟩ := blk_cell (l := [_, _, _]) H1.out.b0 1 _ rfl
  obtain ⟨z2, -⟩ := blk_cell (l := [_, _, _]) H1.out.b0 2 _ rfl
  go_wp2_with fail
  refine (H1.out.opens HN.out hs (by decide)).mono ?_
  rintro e w2 ⟨rfl, h2⟩
  have H2 := hide h2
  clear H1 h2 z0 z1 z2
  obtain ⟨z0, -⟩ := blk_cell (l := [_, _, _]) H2.out.b1 0 _ rfl
  obtain ⟨z1, -⟩ := blk_cell (l := [_, _, _]) H2.out.b1 1 _ rfl
  obtain ⟨z2, -⟩ := blk_cell (l := [_, _, _]) H2.out.b1 2 _ rfl
  go_wp2_with fail
  refine (H2.out.opens HM.out hsm (by decide)).mono ?_
  rintro e w3 ⟨rfl, h3⟩
  have H3 := hide h3
  clear H2 h3 z0 z1 z2
  obtain ⟨z0, -⟩ := blk_cell (l := [_, _, _]) H3.out.b0 0 _ rfl
  obtain ⟨z1, -⟩ := blk_cell (l := [_, _, _]) H3.out.b0 1 _ rfl
  obtain ⟨z2, -⟩ := blk_cell (l := [_, _, _]) H3.out.b0 2 _ rfl
  go_wp2_with fail
  refine (H3.out.opens HN.out hs (by decide)).mono ?_
  rintro e w4 ⟨rfl, h4⟩
  have H4 := hide h4
  clear H3 h4 z0 z1 z2
  go_wp2_with fail
  refine (H4.out.kept (by decide)).mono ?_
  rintro e w5 ⟨rfl, hb⟩
  have HB := hide hb
  clear hb H4
  go_wp2
  go_ret
  exact ⟨rfl, HB.out⟩

end Go.Proofs.Ythfdgdfnflilfaa

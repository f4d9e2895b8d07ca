/- Part 13: KeepR, KeepU. -/
import Derived.Laws.BytesArg
import Derived.Deep.RegionHeld
import Derived.Test.YthfdgdfnflilfaaDoorPart12
/- millracekeep: Resumed, what it keeps. -/
namespace Go.Proofs.YthfdgdfnflilfaaDoor
open Go.RowKit Go.Conc

/-- Bytes that are turned into a string. -/
theorem conv_bytes {w : World} {a : Option Addr} {n c : Nat} {l : List Int} (h : BytesAt w (.slice a n c) l) (h0 : 0 < l.length) : (convert 53 9 (.slice a n c)).run Tryd.prog w = .ok (.string (strOfNums l)) w := by
  obtain ⟨a', cap, hv, -, -, h⟩ := h
  cases hv
  rcases h with h | ⟨b, off, rfl, hc⟩
  · omega
  · refine run_convert_bytes_arg w 53 5 Tryd.underlying53 Tryd.underlying5 b off l.length c l rfl (fun i hi => ?_) 9 Tryd.underlying9
    have := hc i hi 0 (by omega)
    simpa using this

/-- What a state's bytes are in memory. -/
structure Told (P : Nat → Prop) (w : World) (a : Option Addr) (n c : Nat) (N : Net) (R : Rc) : Prop where
  ex : ∃ B, SvAt B w (.slice a n c) (bytesOf (saveNums N R)) ∧ ∀ g, (Value.slice a n c).ownBlock = some g → P g

theorem Told.bytes {P : Nat → Prop} {w : World} {a : Option Addr} {n c : Nat} {N : Net} {R : Rc} (h : Told P w a n c N R) (hv : validB N = true) (hs : Saves N R) : BytesAt w (.slice a n c) (bytesOf (saveNums N R)) := by
  obtain ⟨B, h1, -⟩ := h.ex
  exact bytes_of_sv h1 (by rw [bytesOf_length]; have := saveNums_length hv hs; omega)

theorem saveNums_pos {N : Net} {R : Rc} (hok : validB N = true) : 0 < (bytesOf (saveNums N R)).length := by
  rw [bytesOf_length, saveNums, List.length_append, saveW_length]
  have := (valid_counts hok).2.2.1
  omega

theorem Told.conv {P : Nat → Prop} {w : World} {a : Option Addr} {n c : Nat} {N : Net} {R : Rc} (h : Told P w a n c N R) (hv : validB N = true) (hs : Saves N R) : (convert 53 9 (.slice a n c)).run Tryd.prog w = .ok (.string (strOfNums (bytesOf (saveNums N R)))) w :=
  conv_bytes (h.bytes hv hs) (saveNums_pos hv)

theorem Told.keeps {P : Nat → Prop} {w w' : World} {a : Option Addr} {n c : Nat} {N : Net} {R : Rc} (h : Told P w a n c N R) (hk : Keeps P w w') : Told P w' a n c N R := by
  obtain ⟨B, h1, h2⟩ := h.ex
  refine ⟨B, own_of_blockB h1 fun g hg => ?_, h2⟩
  obtain ⟨cur, hc⟩ := own_blockB h1 hg
  exact hk.block g (lt_of_blk hc) fun e => e (h2 g hg)

theorem Told.below {P : Nat → Prop} {w w' : World} {a : Option Addr} {n c : Nat} {N : Net} {R : Rc} (h : Told P w a n c N R) (hb : Below w.heap.size w w') : Told P w' a n c N R := h.keeps (Keeps.of_below hb)

/-- Three races of a net. -/
structure Trio (P : Nat → Prop) (p q r : Nat) (N : Net) (S T U : Rc) (w : World) : Prop where
  ex : ∃ L K J, L.p = p ∧ K.p = q ∧ J.p = r ∧ RaceAt L w N S ∧ RaceAt K w N T ∧ RaceAt J w N U ∧ (∀ b, Foot L N b → ¬ P b ∧ ¬ Foot K N b ∧ ¬ Foot J N b) ∧ (∀ b, Foot K N b → ¬ P b ∧ ¬ Foot J N b) ∧ (∀ b, Foot J N b → ¬ P b)
  lt : ∀ b, P b → b < w.heap.size

theorem Trio.swap {P : Nat → Prop} {p q r : Nat} {N : Net} {S T U : Rc} {w : World} (h : Trio P p q r N S T U w) : Trio P q p r N T S U w := by
  obtain ⟨L, K, J, h1, h2, h3, h4, h5, h6, h7, h8, h9⟩ := h.ex
  exact ⟨⟨K, L, J, h2, h1, h3, h5, h4, h6, fun b hb => ⟨(h8 b hb).1, fun hl => (h7 b hl).2.1 hb, (h8 b hb).2⟩, fun b hb => ⟨(h7 b hb).1, (h7 b hb).2.2⟩, h9⟩, h.lt⟩

theorem Trio.swap2 {P : Nat → Prop} {p q r : Nat} {N : Net} {S T U : Rc} {w : World} (h : Trio P p q r N S T U w) : Trio P p r q N S U T w := by
  obtain ⟨L, K, J, h1, h2, h3, h4, h5, h6, h7, h8, h9⟩ := h.ex
  exact ⟨⟨L, J, K, h1, h3, h2, h4, h6, h5, fun b hb => ⟨(h7 b hb).1, (h7 b hb).2.2, (h7 b hb).2.1⟩, fun b hb => ⟨h9 b hb, fun hk => (h8 b hk).2 hb⟩, fun b hb => (h8 b hb).1⟩, h.lt⟩

theorem Trio.below {P : Nat → Prop} {p q r : Nat} {N : Net} {S T U : Rc} {w w' : World} (h : Trio P p q r N S T U w) (hb : Below w.heap.size w w') : Trio P p q r N S T U w' := by
  obtain ⟨L, K, J, h1, h2, h3, h4, h5, h6, h7⟩ := h.ex
  exact ⟨⟨L, K, J, h1, h2, h3, h4.below hb, h5.below hb, h6.below hb, h7⟩, fun b h' => Nat.lt_of_lt_of_le (h.lt b h') hb.size⟩

theorem Trio.left {P : Nat → Prop} {p q r : Nat} {N : Net} {S T U : Rc} {w : World} (h : Trio P p q r N S T U w) :
    ∃ A : Nat → Prop, Has A p N S w ∧ (∀ b, P b → A b) ∧ ∀ p' S' w', Has A p' N S' w' → Keeps A w w' → Trio P p' q r N S' T U w' := by
  obtain ⟨L, K, J, h1, h2, h3, h4, h5, h6, h7, h8, h9⟩ := h.ex
  refine ⟨fun b => P b ∨ Foot K N b ∨ Foot J N b, ⟨⟨L, h1, h4, fun b hb hA => hA.elim (h7 b hb).1 fun hA => hA.elim (h7 b hb).2.1 (h7 b hb).2.2⟩, fun b hb => hb.elim (h.lt b) fun hb => hb.elim (fun hk => h5.foot_lt hk) fun hk => h6.foot_lt hk⟩, fun b hb => Or.inl hb, fun p' S' w' ha hk => ?_⟩
  obtain ⟨L', g1, g2, g3⟩ := ha.ex
  exact ⟨⟨L', K, J, g1, h2, h3, g2, h5.frame fun b hb => hk.block b (h5.foot_lt hb) fun e => e (Or.inr (Or.inl hb)), h6.frame fun b hb => hk.block b (h6.foot_lt hb) fun e => e (Or.inr (Or.inr hb)),
    fun b hb => ⟨fun e => g3 b hb (Or.inl e), fun e => g3 b hb (Or.inr (Or.inl e)), fun e => g3 b hb (Or.inr (Or.inr e))⟩, h8, h9⟩, fun b hb => Nat.lt_of_lt_of_le (h.lt b hb) hk.size⟩

/-- A third race that was made later. -/
theorem Trio.make {P : Nat → Prop} {p q r : Nat} {N : Net} {S T U : Rc} {w w' : World} (hx : Two P p q N N S T w) (hb : Below w.heap.size w w') (hz : Has (fun b => b < w.heap.size) r N U w') : Trio P p q r N S T U w' := by
  obtain ⟨L, K, h1, h2, h3, h4, h5, h6⟩ := hx.ex
  obtain ⟨J, k1, k2, k3⟩ := hz.ex
  exact ⟨⟨L, K, J, h1, h2, k1, h3.below hb, h4.below hb, k2, fun b hl => ⟨(h5 b hl).1, (h5 b hl).2, fun e => k3 b e (h3.foot_lt hl)⟩, fun b hk => ⟨h6 b hk, fun e => k3 b e (h4.foot_lt hk)⟩, fun b hj e => k3 b hj (hx.lt b e)⟩, fun b hp => Nat.lt_of_lt_of_le (hx.lt b hp) hb.size⟩

theorem trio_goes {P : Nat → Prop} {p q r : Nat} {N : Net} {S T U : Rc} {c n : Nat} {w w0 : World} {v vl : Value} {l : List Int} (h : Trio P p q r N S T U w) (hg : Good N S c) (hf : NetFits N) (h0 : Below n w0 w) (hP : ∀ b, b < n → P b) (hn : ∀ wx, Below n w0 wx → NetAt wx v N) (hl : ∀ wx, Below n w0 wx → IntsAt wx vl l) (hr : ∀ x ∈ l, InR x) (hc : c + l.length ≤ 199999999) (hnw : n ≤ w.heap.size) :
    Calls Tryd.prog 11 #[.pointer (some ⟨p, 0, none⟩), v, vl] w fun e w' => ∃ p' S', e = .returned (.pointer (some ⟨p', 0, none⟩)) ∧ Trio P p' q r N S' T U w' ∧ Good N S' (c + l.length) ∧ GoesTo N S l S' ∧ Keeps P w w' := by
  obtain ⟨A, ha, hPA, hnext⟩ := h.left
  have hkb : ∀ wy, Keeps A w wy → Below n w0 wy := fun wy hk => h0.trans (hk.below hnw fun b hb => hPA b (hP b hb))
  exact (goes_calls ha hg hf (fun wx hk => hn wx (hkb wx hk)) (fun wx hk => hl wx (hkb wx hk)) hr hc).mono fun e w' ⟨p', S', q1, q2, q3, q4, q5⟩ => ⟨p', S', q1, hnext _ _ _ q2 q5, q3, q4, Fr.mono q5 fun b _ hb' hp => hb' (hPA b hp)⟩

/-- Save of a race: its bytes, for the memory's sake and as a string. -/
theorem told_save {A : Nat → Prop} {p : Nat} {N : Net} {R : Rc} {w : World} (h : Has A p N R w) (hs : Saves N R) :
    Calls Tryd.prog 18 #[.pointer (some ⟨p, 0, none⟩)] w fun e w' => ∃ a n c, e = .returned (.slice a n c) ∧ Told (fun b => w.heap.size ≤ b ∧ b < w'.heap.size) w' a n c N R ∧ Below w.heap.size w w' := by
  refine (has_save h hs).mono fun e w' ⟨v', q1, q2, q3⟩ => ?_
  obtain ⟨a, cap, rfl⟩ := own_slice q2
  refine ⟨a, _, cap, q1, ⟨_, q2, fun g hg => ⟨own_baseB q2 hg, ?_⟩⟩, q3⟩
  obtain ⟨cur, hc⟩ := own_blockB q2 hg
  exact lt_of_blk hc

theorem Told.mono {P Q : Nat → Prop} {w : World} {a : Option Addr} {n c : Nat} {N : Net} {R : Rc} (h : Told P w a n c N R) (hs : ∀ b, P b → Q b) : Told Q w a n c N R := by
  obtain ⟨B, h1, h2⟩ := h.ex
  exact ⟨B, h1, fun g hg => hs g (h2 g hg)⟩

theorem told_load {P : Nat → Prop} {N : Net} {R : Rc} {w : World} {v : Value} {a : Option Addr} {n c : Nat} (hn : NetAt w v N) (hok : validB N = true) (ht : Told P w a n c N R) (hs : Saves N R) (hl : Loads N (initR N N.streams) R) :
    Calls Tryd.prog 19 #[v, .slice a n c] w fun e w' => ∃ p, e = .returned (.tuple #[.pointer (some ⟨p, 0, none⟩), .int .i64 0]) ∧ Has (fun b => b < w.heap.size) p N R w' ∧ Below w.heap.size w w' :=
  load_calls hn hok (ht.bytes hok hs) hl (by have := saveNums_length hok hs; omega)

end Go.Proofs.YthfdgdfnflilfaaDoor
/- millracekeep: Resumed. -/
namespace Go.Proofs.YthfdgdfnflilfaaDoor
open Go.RowKit Go.Conc

/-- What the orders of a region keep may be said anew. -/
theorem wpAnyH_to {P : Program} {md : Region.Mode} {ops : Array Oper} {Q : Exit → Act → World → Prop} {S S' : World → Prop} (hs : ∀ w, S' w → S w) : ∀ (fuel : Nat) (listed : Array Bool) (a : Act) (w : World), wpAnyH P md ops Q S' fuel listed a w → wpAnyH P md ops Q S fuel listed a w
  | 0, _, _, _, h => h
  | fuel + 1, _, _, _, h => ⟨h.1, fun i hi => wpOp_mono (fun a' w' h' => ⟨hs w' h'.1, wpAnyH_to hs fuel _ a' w' h'.2⟩) (h.2 i hi)⟩

set_option maxRecDepth 100000 in
set_option maxHeartbeats 8000000 in
theorem resumed_net {N : Net} {v v1 v2 : Value} {one two : List Int} {w : World} (hn : NetAt w v N) (h1 : IntsAt w v1 one) (h2 : IntsAt w v2 two) (hf : NetFits N)
    (f1 : ∀ x ∈ one, InR x) (f2 : ∀ x ∈ two, InR x) (l1 : one.length ≤ 1048576) (l2 : two.length ≤ 1048576) (hok : validB N = true) :
    Calls Tryd.prog 7 #[v, v1, v2] w fun e w' => e = .returned (.bool true) ∧ Below w.heap.size w w' := by
  have HS : Hid (∀ wx, Calls Tryd.prog 8 #[] wx fun e w' => e = .returned (.bool true) ∧ Below wx.heap.size wx w') := sure_calls
  have hNt : ∀ wx, Below w.heap.size w wx → NetAt wx v N := fun wx hx => hn.below hx
  have hb0 : ∀ o, Below (w.heap.size + 1) (w.alloc o) (w.alloc o) := fun o => Below.refl _ _
  have hcount := valid_counts hok
  have HN : Hid (∀ wx, Below w.heap.size w wx → Calls Tryd.prog 10 #[v] wx fun e w' => ∃ p, e = .returned (.tuple #[.pointer (some ⟨p, 0, none⟩), .int .i64 0]) ∧ Has (fun b => b < wx.heap.size) p N (initR N N.streams) w' ∧ Below wx.heap.size wx w') := fun wx hx => has_new (hNt wx hx) hok
  have HG0 : Hid (∀ p wx w', Below w.heap.size w wx → Below wx.heap.size wx w' → Has (fun b => b < wx.heap.size) p N (initR N N.streams) w' → Calls Tryd.prog 11 #[.pointer (some ⟨p, 0, none⟩), v, v1] w' fun e w'' => ∃ p' S, e = .returned (.pointer (some ⟨p', 0, none⟩)) ∧ Has (fun b => b < wx.heap.size) p' N S w'' ∧ Good N S one.length ∧ Below wx.heap.size wx w'') := fun p wx w' hx hx' ha => by
    have hkb : ∀ wy, Keeps (fun b => b < wx.heap.size) w' wy → Below wx.heap.size wx wy := fun wy hk => hx'.trans (hk.below hx'.size fun b hb => hb)
    refine (goes_calls ha (Good.init hok hf) hf (fun wy hk => hNt wy (hx.trans ((hkb wy hk).mono hx.size))) (fun wy hk => h1.below (hx.trans ((hkb wy hk).mono hx.size))) f1 (by omega)).mono fun e w'' ⟨p', S, q1, q2, q3, q4, q5⟩ => ⟨p', S, q1, q2, by simpa using q3, hkb _ q5⟩
  have HSv : Hid (∀ (A : Nat → Prop) p S c wx, Has A p N S wx → Good N S c → c ≤ 200000000 → Calls Tryd.prog 18 #[.pointer (some ⟨p, 0, none⟩)] wx fun e w' => ∃ a n c, e = .returned (.slice a n c) ∧ Told (fun b => wx.heap.size ≤ b ∧ b < w'.heap.size) w' a n c N S ∧ Below wx.heap.size wx w') := fun A p S c wx ha hg hc => told_save ha (hg.saves hok hc)
  have HLd : Hid (∀ (A P : Nat → Prop) p S c wx wy a n cc, Has A p N S wx → Good N S c → c ≤ 200000000 → Told P wy a n cc N S → Below w.heap.size w wy → Calls Tryd.prog 19 #[v, .slice a n cc] wy fun e w' => ∃ p, e = .returned (.tuple #[.pointer (some ⟨p, 0, none⟩), .int .i64 0]) ∧ Has (fun b => b < wy.heap.size) p N S w' ∧ Below wy.heap.size wy w') := fun A P p S c wx wy a n cc ha hg hc ht hb => told_load (hNt wy hb) hok ht (hg.saves hok hc) (hg.loads ha hc)
  have HCv : Hid (∀ (P : Nat → Prop) S c wx a n cc, Good N S c → c ≤ 200000000 → Told P wx a n cc N S → (convert 53 9 (.slice a n cc)).run Tryd.prog wx = .ok (.string (strOfNums (bytesOf (saveNums N S)))) wx) := fun P S c wx a n cc hg hc ht => ht.conv hok (hg.saves hok hc)
  have HGo : Hid (∀ (P : Nat → Prop) p q r S T U c wx, Trio P p q r N S T U wx → Good N S c → c ≤ 1048576 → Below w.heap.size w wx → (∀ b, b < w.heap.size → P b) → Calls Tryd.prog 11 #[.pointer (some ⟨p, 0, none⟩), v, v2] wx fun e w' => ∃ p' S', e = .returned (.pointer (some ⟨p', 0, none⟩)) ∧ Trio P p' q r N S' T U w' ∧ Good N S' (c + two.length) ∧ GoesTo N S two S' ∧ Keeps P wx w') := fun P p q r S T U c wx ht hg hc hb hP => trio_goes ht hg hf hb hP (fun wy hy => hNt wy hy) (fun wy hy => h2.below hy) f2 (by omega) hb.size
  obtain ⟨vs0, vr0, vw0, rfl, g1, g2, g3⟩ := hn
  obtain ⟨sa, sc, rfl⟩ := g1.form
  obtain ⟨ar, cr, rfl⟩ := g2.form
  obtain ⟨aw, cw, rfl⟩ := g3.form
  have HB0 := hide (hb0 (.cells #[.slice sa N.streams.length sc, .slice ar N.sources.length cr, .slice aw N.workers.length cw] 29))
  obtain ⟨-, hs8, -, hw6⟩ := hcount
  have hl1 := hide l1
  have hl2 := hide l2
  clear g1 g2 g3 hNt h1 h2 hb0 f1 f2 hf hok l1 l2
  generalize N.workers.length = wl at *
  generalize N.streams.length = sl at *
  generalize N.sources.length = rl at *
  generalize one.length = ol at *
  generalize two.length = tl at *
  go_enter Tryd.func7, Tryd.ntmps7
  go_wp2_with fail
  refine (unhide HS _).mono ?_
  rintro e w1 ⟨rfl, hb1⟩
  have HB1 := hide (below_box2 HB0.out hb1)
  have t1 : w1.heap[w.heap.size]? = some (.cells #[.slice sa sl sc, .slice ar rl cr, .slice aw wl cw] 29 (0, 0)) := by
    rw [HB1.out.block _ (by omega)]; exact heap_alloc_new _ _
  have z0 := (blk_cell t1 0 _ rfl).1
  have z1 := (blk_cell t1 1 _ rfl).1
  have z2 := (blk_cell t1 2 _ rfl).1
  have htl1 := lt_of_blk t1
  have HT1 := hide t1
  clear hb1 t1 HB0 HS
  go_wp2_with fail
  refine (unhide HN _ (below_box HB1.out)).mono ?_
  rintro e w2 ⟨p, rfl, ha, hb2⟩
  have HG1 := hide (HG0.out p w1 w2 (below_box HB1.out) hb2 ha)
  have t2 := (hb2.block _ htl1).trans HT1.out
  have z0 := (blk_cell t2 0 _ rfl).1
  have z1 := (blk_cell t2 1 _ rfl).1
  have z2 := (blk_cell t2 2 _ rfl).1
  clear ha hb2 t2 HG0 HN
  go_wp2_with fail
  refine (unhide HG1).mono ?_
  rintro e w3 ⟨p1, S, rfl, ha, hg, hb3⟩
  have HA := hide ha
  have HGd := hide hg
  have HB3 := hide hb3
  have HSv1 := hide (HSv.out _ p1 S ol w3 ha hg (by have := hl1.out; omega))
  clear ha hg hb3 HG1 z0 z1 z2
  go_wp2_with fail
  refine (unhide HSv1).mono ?_
  rintro e w4 ⟨sva, svn, svc, rfl, htd, hb4⟩
  have HBa : Hid (Below w1.heap.size w1 w4) := HB3.out.trans (hb4.mono HB3.out.size)
  have HTd := hide htd
  have HB4 := hide hb4
  have HLd1 := hide (HLd.out _ _ p1 S ol w3 w4 sva svn svc HA.out HGd.out (by have := hl1.out; omega) htd ((below_box HB1.out).trans (HBa.out.mono (below_box HB1.out).size)))
  have t4 := (HBa.out.block _ htl1).trans HT1.out
  have z0 := (blk_cell t4 0 _ rfl).1
  have z1 := (blk_cell t4 1 _ rfl).1
  have z2 := (blk_cell t4 2 _ rfl).1
  clear htd hb4 t4 HSv1
  go_wp2_with fail
  refine (unhide HLd1).mono ?_
  rintro e w5 ⟨q, rfl, hay, hb5⟩
  have HAY := hide hay
  have HB5 := hide hb5
  have hbb : Below w1.heap.size w1 w5 := HBa.out.trans (hb5.mono HBa.out.size)
  have HLd2 := hide (HLd.out _ _ p1 S ol w3 w5 sva svn svc HA.out HGd.out (by have := hl1.out; omega) (HTd.out.below hb5) ((below_box HB1.out).trans (hbb.mono (below_box HB1.out).size)))
  have t5 := (hbb.block _ htl1).trans HT1.out
  have z0 := (blk_cell t5 0 _ rfl).1
  have z1 := (blk_cell t5 1 _ rfl).1
  have z2 := (blk_cell t5 2 _ rfl).1
  clear hay hb5 hbb t5 HLd1 HLd
  go_wp2_with fail
  refine (unhide HLd2).mono ?_
  rintro e w6 ⟨r, rfl, haz, hb6⟩
  have HTr : Hid (Trio (fun b => b < w1.heap.size ∨ (w3.heap.size ≤ b ∧ b < w4.heap.size)) p1 q r N S S S w6) := Trio.make (Two.make (HA.out.add HB4.out) HB5.out HAY.out fun b hb => hb) hb6 haz
  have HT6 : Hid (Told (fun b => b < w1.heap.size ∨ (w3.heap.size ≤ b ∧ b < w4.heap.size)) w6 sva svn svc N S) := ((HTd.out.below HB5.out).below hb6).mono fun b hb => Or.inr hb
  have HB6 : Hid (Below w1.heap.size w1 w6) := (HBa.out.trans (HB5.out.mono HBa.out.size)).trans (hb6.mono (by have := HBa.out.size; have := HB5.out.size; omega))
  clear haz hb6 HLd2 z0 z1 z2 HA HAY HB3 HB4 HB5 HTd HBa
  generalize hP : (fun b => b < w1.heap.size ∨ (w3.heap.size ≤ b ∧ b < w4.heap.size)) = P at *
  have HP : Hid (∀ b, b < w1.heap.size → P b) := fun b hb => by rw [← hP]; exact Or.inl hb
  clear hP
  obtain ⟨str, hstr⟩ : ∃ str, str = strOfNums (bytesOf (saveNums N S)) := ⟨_, rfl⟩
  have HSy : Hid (∀ wx, Below w6.heap.size w6 wx → Calls Tryd.prog 18 #[.pointer (some ⟨q, 0, none⟩)] wx fun e w' => ∃ a n c, e = .returned (.slice a n c) ∧ (convert 53 9 (.slice a n c)).run Tryd.prog w' = .ok (.string str) w' ∧ (∀ k, (convert 53 9 (.slice a n c)).run Tryd.prog (w'.drewN k) = .ok (.string str) (w'.drewN k)) ∧ (convert 53 9 (.slice sva svn svc)).run Tryd.prog w' = .ok (.string str) w' ∧ (∀ k, (convert 53 9 (.slice sva svn svc)).run Tryd.prog (w'.drewN k) = .ok (.string str) (w'.drewN k)) ∧ Below w6.heap.size w6 w') := fun wx hx => by
    obtain ⟨A, hA, -, -⟩ := (HTr.out.below hx).swap.left
    refine (HSv.out A q S ol wx hA HGd.out (by have := hl1.out; omega)).mono fun e w' ⟨a, n, c, q1, q2, q3⟩ => ?_
    have hall : Below w6.heap.size w6 w' := hx.trans (q3.mono hx.size)
    have c1 : ∀ wy, Below w'.heap.size w' wy → (convert 53 9 (.slice a n c)).run Tryd.prog wy = .ok (.string str) wy := fun wy hy => by rw [hstr]; exact HCv.out _ S ol wy a n c HGd.out (by have := hl1.out; omega) (q2.below hy)
    have c2 : ∀ wy, Below w'.heap.size w' wy → (convert 53 9 (.slice sva svn svc)).run Tryd.prog wy = .ok (.string str) wy := fun wy hy => by rw [hstr]; exact HCv.out _ S ol wy sva svn svc HGd.out (by have := hl1.out; omega) ((HT6.out.below hall).below hy)
    exact ⟨a, n, c, q1, c1 _ (Below.refl _ _), fun k => c1 _ (below_drewN (Below.refl _ _) k), c2 _ (Below.refl _ _), fun k => c2 _ (below_drewN (Below.refl _ _) k), hall⟩
  have HcA : Hid (∀ wx, Below w6.heap.size w6 wx → (convert 53 9 (.slice sva svn svc)).run Tryd.prog wx = .ok (.string str) wx) := fun wx hx => by rw [hstr]; exact HCv.out _ S ol _ sva svn svc HGd.out (by have := hl1.out; omega) (HT6.out.below hx)
  have hcs0 := HcA.out w6.drew (below_drewN (Below.refl _ _) 1)
  have Hstr := hide hstr
  clear hstr
  go_wp2
  refine wp_region_held_drew (S := fun w' => (convert 53 9 (.slice sva svn svc)).run Tryd.prog w' = .ok (.string str) w') (by kernel_rfl) hcs0 (fun hHeld => ?_)
  refine wpAnyH_take (i := 0) (oi := ?oi1) (v := ?v1) ?hi1 (by kernel_rfl) (by kernel_rfl) (by kernel_rfl) ?hq1 (Or.inl ⟨?hw1, ?hy1⟩) (by assumption) ?rest1
  case hi1 => simp only [List.getElem?_toArray, List.getElem?_cons_zero]; rfl
  case hq1 => exact fun _ _ _ h => h
  case hw1 => rfl
  case hy1 => (intro w hSw; (try dsimp only at hSw); first | (go_simp; done) | (go_simp; with_reducible rfl))
  simp only [Act.put, List.setIfInBounds_toArray, List.set_cons_zero, List.set_cons_succ]
  refine wpAnyH_take (i := 1) (oi := ?oi2) (v := ?v2) ?hi2 (by kernel_rfl) (by kernel_rfl) (by kernel_rfl) ?hq2 (Or.inl ⟨?hw2, ?hy2⟩) (by assumption) ?rest2
  case hi2 => simp only [List.getElem?_toArray, List.getElem?_cons_succ, List.getElem?_cons_zero]; rfl
  case hq2 => exact fun _ _ _ h => h
  case hw2 => rfl
  case hy2 => (intro w hSw; (try dsimp only at hSw); first | (go_simp; done) | (go_simp; with_reducible rfl))
  simp only [Act.put, List.setIfInBounds_toArray, List.set_cons_zero, List.set_cons_succ]
  refine wpAnyH_take (i := 2) (oi := ?oi3) (v := ?v3) ?hi3 (by kernel_rfl) (by kernel_rfl) (by kernel_rfl) ?hq3 (Or.inl ⟨?hw3, ?hy3⟩) (by assumption) ?rest3
  case hi3 => simp only [List.getElem?_toArray, List.getElem?_cons_succ, List.getElem?_cons_zero]; rfl
  case hq3 => exact fun _ _ _ h => h
  case hw3 => rfl
  case hy3 => (intro w hSw; (try dsimp only at hSw); first | (go_simp; done) | (go_simp; with_reducible rfl))
  simp only [Act.put, List.setIfInBounds_toArray, List.set_cons_zero, List.set_cons_succ]
  refine wpAnyH_take (i := 3) (oi := ?oi4) (v := ?v4) ?hi4 (by kernel_rfl) (by kernel_rfl) (by kernel_rfl) ?hq4 (Or.inl ⟨?hw4, ?hy4⟩) (by assumption) ?rest4
  case hi4 => simp only [List.getElem?_toArray, List.getElem?_cons_succ, List.getElem?_cons_zero]; rfl
  case hq4 => exact fun _ _ _ h => h
  case hw4 => rfl
  case hy4 => (intro w hSw; (try dsimp only at hSw); first | (go_simp; done) | (go_simp; with_reducible rfl))
  simp only [Act.put, List.setIfInBounds_toArray, List.set_cons_zero, List.set_cons_succ]
  refine wpAnyH_take (i := 4) (oi := ?oi5) (v := ?v5) ?hi5 (by kernel_rfl) (by kernel_rfl) (by kernel_rfl) ?hq5 (Or.inl ⟨?hw5, ?hy5⟩) (by assumption) ?rest5
  case hi5 => simp only [List.getElem?_toArray, List.getElem?_cons_succ, List.getElem?_cons_zero]; rfl
  case hq5 => exact fun _ _ _ h => h
  case hw5 => rfl
  case hy5 => (intro w hSw; (try dsimp only at hSw); first | (go_simp; done) | (go_simp; with_reducible rfl))
  simp only [Act.put, List.setIfInBounds_toArray, List.set_cons_zero, List.set_cons_succ]
  refine wpAnyH_take (i := 5) (oi := ?oi6) (v := ?v6) ?hi6 (by kernel_rfl) (by kernel_rfl) (by kernel_rfl) ?hq6 (Or.inl ⟨?hw6, ?hy6⟩) (by assumption) ?rest6
  case hi6 => simp only [List.getElem?_toArray, List.getElem?_cons_succ, List.getElem?_cons_zero]; rfl
  case hq6 => exact fun _ _ _ h => h
  case hw6 => rfl
  case hy6 => (intro w hSw; (try dsimp only at hSw); first | (go_simp; done) | (go_simp; with_reducible rfl))
  simp only [Act.put, List.setIfInBounds_toArray, List.set_cons_zero, List.set_cons_succ]
  refine wpAnyH_take (i := 6) (oi := ?oi7) (v := ?v7) ?hi7 (by kernel_rfl) (by kernel_rfl) (by kernel_rfl) ?hq7 (Or.inl ⟨?hw7, ?hy7⟩) (by assumption) ?rest7
  case hi7 => simp only [List.getElem?_toArray, List.getElem?_cons_succ, List.getElem?_cons_zero]; rfl
  case hq7 => exact fun _ _ _ h => h
  case hw7 => rfl
  case hy7 => (intro w hSw; (try dsimp only at hSw); first | (go_simp; done) | (go_simp; with_reducible rfl))
  simp only [Act.put, List.setIfInBounds_toArray, List.set_cons_zero, List.set_cons_succ]
  refine wpAnyH_take (i := 7) (oi := ?oi8) (v := ?v8) ?hi8 (by kernel_rfl) (by kernel_rfl) (by kernel_rfl) ?hq8 (Or.inl ⟨?hw8, ?hy8⟩) (by assumption) ?rest8
  case hi8 => simp only [List.getElem?_toArray, List.getElem?_cons_succ, List.getElem?_cons_zero]; rfl
  case hq8 => exact fun _ _ _ h => h
  case hw8 => rfl
  case hy8 => (intro w hSw; (try dsimp only at hSw); first | (go_simp; done) | (go_simp; with_reducible rfl))
  simp only [Act.put, List.setIfInBounds_toArray, List.set_cons_zero, List.set_cons_succ]
  refine wpAnyH_take (i := 8) (oi := ?oi9) (v := ?v9) ?hi9 (by kernel_rfl) (by kernel_rfl) (by kernel_rfl) ?hq9 (Or.inl ⟨?hw9, ?hy9⟩) (by assumption) ?rest9
  case hi9 => simp only [List.getElem?_toArray, List.getElem?_cons_succ, List.getElem?_cons_zero]; rfl
  case hq9 => exact fun _ _ _ h => h
  case hw9 => rfl
  case hy9 => (intro w hSw; (try dsimp only at hSw); first | (go_simp; done) | (go_simp; with_reducible rfl))
  simp only [Act.put, List.setIfInBounds_toArray, List.set_cons_zero, List.set_cons_succ]
  refine wpAnyH_take (i := 9) (oi := ?oi10) (v := ?v10) ?hi10 (by kernel_rfl) (by kernel_rfl) (by kernel_rfl) ?hq10 (Or.inl ⟨?hw10, ?hy10⟩) (by assumption) ?rest10
  case hi10 => simp only [List.getElem?_toArray, List.getElem?_cons_succ, List.getElem?_cons_zero]; rfl
  case hq10 => exact fun _ _ _ h => h
  case hw10 => rfl
  case hy10 => (intro w hSw; (try dsimp only at hSw); first | (go_simp; done) | (go_simp; with_reducible rfl))
  simp only [Act.put, List.setIfInBounds_toArray, List.set_cons_zero, List.set_cons_succ]
  refine wpAnyH_take (i := 10) (oi := ?oi11) (v := ?v11) ?hi11 (by kernel_rfl) (by kernel_rfl) (by kernel_rfl) ?hq11 (Or.inl ⟨?hw11, ?hy11⟩) (by assumption) ?rest11
  case hi11 => simp only [List.getElem?_toArray, List.getElem?_cons_succ, List.getElem?_cons_zero]; rfl
  case hq11 => exact fun _ _ _ h => h
  case hw11 => rfl
  case hy11 => (intro w hSw; (try dsimp only at hSw); first | (go_simp; done) | (go_simp; with_reducible rfl))
  simp only [Act.put, List.setIfInBounds_toArray, List.set_cons_zero, List.set_cons_succ]
  refine wpAnyH_take (i := 11) (oi := ?oi12) (v := ?v12) ?hi12 (by kernel_rfl) (by kernel_rfl) (by kernel_rfl) ?hq12 (Or.inl ⟨?hw12, ?hy12⟩) (by assumption) ?rest12
  case hi12 => simp only [List.getElem?_toArray, List.getElem?_cons_succ, List.getElem?_cons_zero]; rfl
  case hq12 => exact fun _ _ _ h => h
  case hw12 => rfl
  case hy12 => (intro w hSw; (try dsimp only at hSw); first | (go_simp; done) | (go_simp; with_reducible rfl))
  simp only [Act.put, List.setIfInBounds_toArray, List.set_cons_zero, List.set_cons_succ]
  refine wpAnyH_take (i := 12) (oi := ?oi13) (v := ?v13) ?hi13 (by kernel_rfl) (by kernel_rfl) (by kernel_rfl) ?hq13 (Or.inl ⟨?hw13, ?hy13⟩) (by assumption) ?rest13
  case hi13 => simp only [List.getElem?_toArray, List.getElem?_cons_succ, List.getElem?_cons_zero]; rfl
  case hq13 => exact fun _ _ _ h => h
  case hw13 => rfl
  case hy13 => (intro w hSw; (try dsimp only at hSw); first | (go_simp; done) | (go_simp; with_reducible rfl))
  simp only [Act.put, List.setIfInBounds_toArray, List.set_cons_zero, List.set_cons_succ]
  refine wpAnyH_take (i := 13) (oi := ?oi14) (v := ?v14) ?hi14 (by kernel_rfl) (by kernel_rfl) (by kernel_rfl) ?hq14 (Or.inl ⟨?hw14, ?hy14⟩) (by assumption) ?rest14
  case hi14 => simp only [List.getElem?_toArray, List.getElem?_cons_succ, List.getElem?_cons_zero]; rfl
  case hq14 => exact fun _ _ _ h => h
  case hw14 => rfl
  case hy14 => (intro w hSw; (try dsimp only at hSw); first | (go_simp; done) | (go_simp; with_reducible rfl))
  simp only [Act.put, List.setIfInBounds_toArray, List.set_cons_zero, List.set_cons_succ]
  refine wpAnyH_take (i := 14) (oi := ?oi15) (v := ?v15) ?hi15 (by kernel_rfl) (by kernel_rfl) (by kernel_rfl) ?hq15 (Or.inl ⟨?hw15, ?hy15⟩) (by assumption) ?rest15
  case hi15 => simp only [List.getElem?_toArray, List.getElem?_cons_succ, List.getElem?_cons_zero]; rfl
  case hq15 => exact fun _ _ _ h => h
  case hw15 => rfl
  case hy15 => (intro w hSw; (try dsimp only at hSw); first | (go_simp; done) | (go_simp; with_reducible rfl))
  simp only [Act.put, List.setIfInBounds_toArray, List.set_cons_zero, List.set_cons_succ]
  refine wpAnyH_take (i := 15) (oi := ?oi16) (v := ?v16) ?hi16 (by kernel_rfl) (by kernel_rfl) (by kernel_rfl) ?hq16 (Or.inl ⟨?hw16, ?hy16⟩) (by assumption) ?rest16
  case hi16 => simp only [List.getElem?_toArray, List.getElem?_cons_succ, List.getElem?_cons_zero]; rfl
  case hq16 => exact fun _ _ _ h => h
  case hw16 => rfl
  case hy16 => (intro w hSw; (try dsimp only at hSw); first | (go_simp; done) | (go_simp; with_reducible rfl))
  simp only [Act.put, List.setIfInBounds_toArray, List.set_cons_zero, List.set_cons_succ]
  refine wpAnyH_take (i := 18) (oi := ?oi17) (v := ?v17) ?hi17 (by kernel_rfl) (by kernel_rfl) (by kernel_rfl) ?hq17 (Or.inl ⟨?hw17, ?hy17⟩) (by assumption) ?rest17
  case hi17 => simp only [List.getElem?_toArray, List.getElem?_cons_succ, List.getElem?_cons_zero]; rfl
  case hq17 => exact fun _ _ _ h => h
  case hw17 => rfl
  case hy17 => (intro w hSw; (try dsimp only at hSw); first | (go_simp; done) | (go_simp; with_reducible rfl))
  simp only [Act.put, List.setIfInBounds_toArray, List.set_cons_zero, List.set_cons_succ]
  refine wpAnyH_take (i := 19) (oi := ?oi18) (v := ?v18) ?hi18 (by kernel_rfl) (by kernel_rfl) (by kernel_rfl) ?hq18 (Or.inl ⟨?hw18, ?hy18⟩) (by assumption) ?rest18
  case hi18 => simp only [List.getElem?_toArray, List.getElem?_cons_succ, List.getElem?_cons_zero]; rfl
  case hq18 => exact fun _ _ _ h => h
  case hw18 => rfl
  case hy18 => (intro w hSw; (try dsimp only at hSw); first | (go_simp; done) | (go_simp; with_reducible rfl))
  simp only [Act.put, List.setIfInBounds_toArray, List.set_cons_zero, List.set_cons_succ]
  refine wpAnyH_ready (rs := [16]) (by kernel_rfl) (by simp) ?_
  refine AllReadyH.cons (o := ?oi19) ?hi19 (fun K hK => ?hc19) AllReadyH.nil
  case hi19 => simp only [List.getElem?_toArray, List.getElem?_cons_succ, List.getElem?_cons_zero]; rfl
  go_simp
  refine (unhide HSy _ (below_drewN (Below.refl _ _) 1)).mono ?_
  rintro e w7 ⟨ya, yn, yc, rfl, y1, y2, y3, y4, hb7⟩
  have HB7 := hide hb7
  clear hb7 y2 y4
  go_wp2_with fail
  refine hK.out _ _ ?_ (fun _ => ?_)
  · exact y3
  clear hK K hHeld
  refine wpAnyH_to (S' := fun w' => (convert 53 9 (.slice sva svn svc)).run Tryd.prog w' = .ok (.string str) w' ∧ (convert 53 9 (.slice ya yn yc)).run Tryd.prog w' = .ok (.string str) w') (fun _ h => h.1) _ _ _ _ ?_
  have hHeld : (convert 53 9 (.slice sva svn svc)).run Tryd.prog w7 = .ok (.string str) w7 ∧ (convert 53 9 (.slice ya yn yc)).run Tryd.prog w7 = .ok (.string str) w7 := ⟨y3, y1⟩
  refine wpAnyH_take (i := 17) (oi := ?oi20) (v := ?v20) ?hi20 (by kernel_rfl) (by kernel_rfl) (by kernel_rfl) ?hq20 (Or.inl ⟨?hw20, ?hy20⟩) (by assumption) ?rest20
  case hi20 => simp only [List.getElem?_toArray, List.getElem?_cons_succ, List.getElem?_cons_zero]; rfl
  case hq20 => exact fun _ _ _ h => h
  case hw20 => rfl
  case hy20 => (intro w hSw; (try dsimp only at hSw); first | (go_simp; done) | (go_simp; with_reducible rfl))
  simp only [Act.put, List.setIfInBounds_toArray, List.set_cons_zero, List.set_cons_succ]
  refine wpAnyH_take (i := 20) (oi := ?oi21) (v := ?v21) ?hi21 (by kernel_rfl) (by kernel_rfl) (by kernel_rfl) ?hq21 (Or.inl ⟨?hw21, ?hy21⟩) (by assumption) ?rest21
  case hi21 => simp only [List.getElem?_toArray, List.getElem?_cons_succ, List.getElem?_cons_zero]; rfl
  case hq21 => exact fun _ _ _ h => h
  case hw21 => rfl
  case hy21 => (intro w hSw; (try dsimp only at hSw); first | (go_simp; done) | (go_simp; with_reducible rfl))
  simp only [Act.put, List.setIfInBounds_toArray, List.set_cons_zero, List.set_cons_succ]
  refine wpAnyH_take (i := 21) (oi := ?oi22) (v := ?v22) ?hi22 (by kernel_rfl) (by kernel_rfl) (by kernel_rfl) ?hq22 (Or.inl ⟨?hw22, ?hy22⟩) (by assumption) ?rest22
  case hi22 => simp only [List.getElem?_toArray, List.getElem?_cons_succ, List.getElem?_cons_zero]; rfl
  case hq22 => exact fun _ _ _ h => h
  case hw22 => rfl
  case hy22 => (intro w hSw; (try dsimp only at hSw); first | (go_simp; done) | (go_simp; with_reducible rfl))
  simp only [Act.put, List.setIfInBounds_toArray, List.set_cons_zero, List.set_cons_succ]
  refine wpAnyH_done (by kernel_rfl) ?_ _
  clear hHeld y1 y3 hcs0 HcA HSy
  have HB17 : Hid (Below w1.heap.size w1 w7) := HB6.out.trans (HB7.out.mono HB6.out.size)
  have HTr7 : Hid (Trio P p1 q r N S S S w7) := HTr.out.below HB7.out
  have HT7 : Hid (Told P w7 sva svn svc N S) := HT6.out.below HB7.out
  have HGo1 := hide (HGo.out P p1 q r S S S ol w7 HTr7.out HGd.out hl1.out ((below_box HB1.out).trans (HB17.out.mono (below_box HB1.out).size)) fun b hb => HP.out b (by have := (below_box HB1.out).size; omega))
  have t7 := (HB17.out.block _ htl1).trans HT1.out
  have z0 := (blk_cell t7 0 _ rfl).1
  have z1 := (blk_cell t7 1 _ rfl).1
  have z2 := (blk_cell t7 2 _ rfl).1
  clear HB7 HTr HT6 HB6 t7 HTr7
  go_wp2_with fail
  refine (unhide HGo1).mono ?_
  rintro e w8 ⟨p2, S2, rfl, htr, hg2, hgt, hk8⟩
  have HB18 : Hid (Below w1.heap.size w1 w8) := HB17.out.trans (hk8.below HB17.out.size fun b hb => HP.out b hb)
  have HT8 : Hid (Told P w8 sva svn svc N S) := HT7.out.keeps hk8
  have HG2 := hide hg2
  have HGT2 := hide hgt
  have HGo2 := hide (HGo.out P q p2 r S S2 S ol w8 htr.swap HGd.out hl1.out ((below_box HB1.out).trans (HB18.out.mono (below_box HB1.out).size)) fun b hb => HP.out b (by have := (below_box HB1.out).size; omega))
  have t8 := (HB18.out.block _ htl1).trans HT1.out
  have z0 := (blk_cell t8 0 _ rfl).1
  have z1 := (blk_cell t8 1 _ rfl).1
  have z2 := (blk_cell t8 2 _ rfl).1
  clear htr hg2 hgt hk8 HGo1 HGo HB17 HT7 t8
  go_wp2_with fail
  refine (unhide HGo2).mono ?_
  rintro e w9 ⟨q2, T2, rfl, htr, hg3, hgt, hk9⟩
  obtain rfl : T2 = S2 := hgt.unique HGT2.out rfl
  have HB9 : Hid (Below w.heap.size w w9) := (below_box HB1.out).trans ((HB18.out.trans (hk9.below HB18.out.size fun b hb => HP.out b hb)).mono (below_box HB1.out).size)
  have HT9 : Hid (Told P w9 sva svn svc N S) := HT8.out.keeps hk9
  have HTr9 : Hid (Trio P p2 q2 r N T2 T2 S w9) := htr.swap
  obtain ⟨st2, hst2⟩ : ∃ st2, st2 = strOfNums (bytesOf (saveNums N T2)) := ⟨_, rfl⟩
  have hA0 : ∀ wx, Below w9.heap.size w9 wx → (convert 53 9 (.slice sva svn svc)).run Tryd.prog wx = .ok (.string str) wx := fun wx hx => by rw [Hstr.out]; exact HCv.out _ S ol _ sva svn svc HGd.out (by have := hl1.out; omega) (HT9.out.below hx)
  have hA1 : ∀ (A B : Nat → Prop) pp R st0 wx, (R = T2 ∧ st0 = st2 ∨ R = S ∧ st0 = str) → Below w9.heap.size w9 wx → Has A pp N R wx → Calls Tryd.prog 18 #[.pointer (some ⟨pp, 0, none⟩)] wx fun e w' => ∃ a n c, e = .returned (.slice a n c) ∧ (∀ wy, Below w'.heap.size w' wy → (convert 53 9 (.slice a n c)).run Tryd.prog wy = .ok (.string st0) wy) ∧ Below w9.heap.size w9 w' ∧ Below wx.heap.size wx w' := fun A B pp R st0 wx hR hx hA => by
    have hgR : ∃ c, Good N R c ∧ c ≤ 200000000 := by
      rcases hR with ⟨rfl, -⟩ | ⟨rfl, -⟩
      · exact ⟨_, HG2.out, by have := hl1.out; have := hl2.out; omega⟩
      · exact ⟨_, HGd.out, by have := hl1.out; omega⟩
    have hst : st0 = strOfNums (bytesOf (saveNums N R)) := by
      rcases hR with ⟨rfl, rfl⟩ | ⟨rfl, rfl⟩
      · exact hst2
      · exact Hstr.out
    obtain ⟨c0, hg0, hc0⟩ := hgR
    refine (HSv.out A pp R c0 wx hA hg0 hc0).mono fun e w' ⟨a, n, c, q1, q2, q3⟩ => ⟨a, n, c, q1, fun wy hy => ?_, hx.trans (q3.mono hx.size), q3⟩
    rw [hst]; exact HCv.out _ R c0 wy a n c hg0 hc0 (q2.below hy)
  have HSx : Hid (∀ wx, Below w9.heap.size w9 wx → Calls Tryd.prog 18 #[.pointer (some ⟨p2, 0, none⟩)] wx fun e w' => ∃ a n c, e = .returned (.slice a n c) ∧ (∀ wy, Below w'.heap.size w' wy → (convert 53 9 (.slice a n c)).run Tryd.prog wy = .ok (.string st2) wy) ∧ Below w9.heap.size w9 w' ∧ Below wx.heap.size wx w') := fun wx hx => by
    obtain ⟨A, hA, -, -⟩ := (HTr9.out.below hx).left
    exact hA1 A A p2 T2 st2 wx (Or.inl ⟨rfl, rfl⟩) hx hA
  have HSy : Hid (∀ wx, Below w9.heap.size w9 wx → Calls Tryd.prog 18 #[.pointer (some ⟨q2, 0, none⟩)] wx fun e w' => ∃ a n c, e = .returned (.slice a n c) ∧ (∀ wy, Below w'.heap.size w' wy → (convert 53 9 (.slice a n c)).run Tryd.prog wy = .ok (.string st2) wy) ∧ Below w9.heap.size w9 w' ∧ Below wx.heap.size wx w') := fun wx hx => by
    obtain ⟨A, hA, -, -⟩ := (HTr9.out.below hx).swap.left
    exact hA1 A A q2 T2 st2 wx (Or.inl ⟨rfl, rfl⟩) hx hA
  have HSz : Hid (∀ wx, Below w9.heap.size w9 wx → Calls Tryd.prog 18 #[.pointer (some ⟨r, 0, none⟩)] wx fun e w' => ∃ a n c, e = .returned (.slice a n c) ∧ (∀ wy, Below w'.heap.size w' wy → (convert 53 9 (.slice a n c)).run Tryd.prog wy = .ok (.string str) wy) ∧ Below w9.heap.size w9 w' ∧ Below wx.heap.size wx w') := fun wx hx => by
    obtain ⟨A, hA, -, -⟩ := (HTr9.out.below hx).swap2.swap.left
    exact hA1 A A r S str wx (Or.inr ⟨rfl, rfl⟩) hx hA
  have HcA := hide hA0
  clear hA0 hA1 htr hg3 hgt hk9 hst2 Hstr HSv HCv HTr9 HT9 HT8 HGT2 HG2 HGd HGo2 HB18 HB1 HT1 hl1 hl2 HP z0 z1 z2
  have hcs0 := HcA.out w9.drew (below_drewN (Below.refl _ _) 1)
  go_wp2
  refine wp_region_held_drew (S := fun w' => (convert 53 9 (.slice sva svn svc)).run Tryd.prog w' = .ok (.string str) w') (by kernel_rfl) hcs0 (fun hHeld => ?_)
  refine wpAnyH_take (i := 0) (oi := ?oi23) (v := ?v23) ?hi23 (by kernel_rfl) (by kernel_rfl) (by kernel_rfl) ?hq23 (Or.inl ⟨?hw23, ?hy23⟩) (by assumption) ?rest23
  case hi23 => simp only [List.getElem?_toArray, List.getElem?_cons_zero]; rfl
  case hq23 => exact fun _ _ _ h => h
  case hw23 => rfl
  case hy23 => (intro w hSw; (try dsimp only at hSw); first | (go_simp; done) | (go_simp; with_reducible rfl))
  simp only [Act.put, List.setIfInBounds_toArray, List.set_cons_zero, List.set_cons_succ]
  refine wpAnyH_take (i := 1) (oi := ?oi24) (v := ?v24) ?hi24 (by kernel_rfl) (by kernel_rfl) (by kernel_rfl) ?hq24 (Or.inl ⟨?hw24, ?hy24⟩) (by assumption) ?rest24
  case hi24 => simp only [List.getElem?_toArray, List.getElem?_cons_succ, List.getElem?_cons_zero]; rfl
  case hq24 => exact fun _ _ _ h => h
  case hw24 => rfl
  case hy24 => (intro w hSw; (try dsimp only at hSw); first | (go_simp; done) | (go_simp; with_reducible rfl))
  simp only [Act.put, List.setIfInBounds_toArray, List.set_cons_zero, List.set_cons_succ]
  refine wpAnyH_take (i := 2) (oi := ?oi25) (v := ?v25) ?hi25 (by kernel_rfl) (by kernel_rfl) (by kernel_rfl) ?hq25 (Or.inl ⟨?hw25, ?hy25⟩) (by assumption) ?rest25
  case hi25 => simp only [List.getElem?_toArray, List.getElem?_cons_succ, List.getElem?_cons_zero]; rfl
  case hq25 => exact fun _ _ _ h => h
  case hw25 => rfl
  case hy25 => (intro w hSw; (try dsimp only at hSw); first | (go_simp; done) | (go_simp; with_reducible rfl))
  simp only [Act.put, List.setIfInBounds_toArray, List.set_cons_zero, List.set_cons_succ]
  refine wpAnyH_take (i := 3) (oi := ?oi26) (v := ?v26) ?hi26 (by kernel_rfl) (by kernel_rfl) (by kernel_rfl) ?hq26 (Or.inl ⟨?hw26, ?hy26⟩) (by assumption) ?rest26
  case hi26 => simp only [List.getElem?_toArray, List.getElem?_cons_succ, List.getElem?_cons_zero]; rfl
  case hq26 => exact fun _ _ _ h => h
  case hw26 => rfl
  case hy26 => (intro w hSw; (try dsimp only at hSw); first | (go_simp; done) | (go_simp; with_reducible rfl))
  simp only [Act.put, List.setIfInBounds_toArray, List.set_cons_zero, List.set_cons_succ]
  refine wpAnyH_take (i := 4) (oi := ?oi27) (v := ?v27) ?hi27 (by kernel_rfl) (by kernel_rfl) (by kernel_rfl) ?hq27 (Or.inl ⟨?hw27, ?hy27⟩) (by assumption) ?rest27
  case hi27 => simp only [List.getElem?_toArray, List.getElem?_cons_succ, List.getElem?_cons_zero]; rfl
  case hq27 => exact fun _ _ _ h => h
  case hw27 => rfl
  case hy27 => (intro w hSw; (try dsimp only at hSw); first | (go_simp; done) | (go_simp; with_reducible rfl))
  simp only [Act.put, List.setIfInBounds_toArray, List.set_cons_zero, List.set_cons_succ]
  refine wpAnyH_take (i := 5) (oi := ?oi28) (v := ?v28) ?hi28 (by kernel_rfl) (by kernel_rfl) (by kernel_rfl) ?hq28 (Or.inl ⟨?hw28, ?hy28⟩) (by assumption) ?rest28
  case hi28 => simp only [List.getElem?_toArray, List.getElem?_cons_succ, List.getElem?_cons_zero]; rfl
  case hq28 => exact fun _ _ _ h => h
  case hw28 => rfl
  case hy28 => (intro w hSw; (try dsimp only at hSw); first | (go_simp; done) | (go_simp; with_reducible rfl))
  simp only [Act.put, List.setIfInBounds_toArray, List.set_cons_zero, List.set_cons_succ]
  refine wpAnyH_take (i := 6) (oi := ?oi29) (v := ?v29) ?hi29 (by kernel_rfl) (by kernel_rfl) (by kernel_rfl) ?hq29 (Or.inl ⟨?hw29, ?hy29⟩) (by assumption) ?rest29
  case hi29 => simp only [List.getElem?_toArray, List.getElem?_cons_succ, List.getElem?_cons_zero]; rfl
  case hq29 => exact fun _ _ _ h => h
  case hw29 => rfl
  case hy29 => (intro w hSw; (try dsimp only at hSw); first | (go_simp; done) | (go_simp; with_reducible rfl))
  simp only [Act.put, List.setIfInBounds_toArray, List.set_cons_zero, List.set_cons_succ]
  refine wpAnyH_take (i := 7) (oi := ?oi30) (v := ?v30) ?hi30 (by kernel_rfl) (by kernel_rfl) (by kernel_rfl) ?hq30 (Or.inl ⟨?hw30, ?hy30⟩) (by assumption) ?rest30
  case hi30 => simp only [List.getElem?_toArray, List.getElem?_cons_succ, List.getElem?_cons_zero]; rfl
  case hq30 => exact fun _ _ _ h => h
  case hw30 => rfl
  case hy30 => (intro w hSw; (try dsimp only at hSw); first | (go_simp; done) | (go_simp; with_reducible rfl))
  simp only [Act.put, List.setIfInBounds_toArray, List.set_cons_zero, List.set_cons_succ]
  refine wpAnyH_take (i := 10) (oi := ?oi31) (v := ?v31) ?hi31 (by kernel_rfl) (by kernel_rfl) (by kernel_rfl) ?hq31 (Or.inl ⟨?hw31, ?hy31⟩) (by assumption) ?rest31
  case hi31 => simp only [List.getElem?_toArray, List.getElem?_cons_succ, List.getElem?_cons_zero]; rfl
  case hq31 => exact fun _ _ _ h => h
  case hw31 => rfl
  case hy31 => (intro w hSw; (try dsimp only at hSw); first | (go_simp; done) | (go_simp; with_reducible rfl))
  simp only [Act.put, List.setIfInBounds_toArray, List.set_cons_zero, List.set_cons_succ]
  refine wpAnyH_ready (rs := [8]) (by kernel_rfl) (by simp) ?_
  refine AllReadyH.cons (o := ?oi32) ?hi32 (fun K hK => ?hc32) AllReadyH.nil
  case hi32 => simp only [List.getElem?_toArray, List.getElem?_cons_succ, List.getElem?_cons_zero]; rfl
  go_simp
  refine (unhide HSx _ (below_drewN (Below.refl _ _) 1)).mono ?_
  rintro e wX ⟨xa, xn, xc, rfl, cx, hbx, -⟩
  have HBx := hide hbx
  have CX1 := cx _ (Below.refl _ _)
  have HCX := hide cx
  have CS1 := HcA.out _ hbx
  clear hbx cx
  go_wp2_with fail
  refine hK.out _ _ ?_ (fun _ => ?_)
  · exact CS1
  clear hK K hHeld
  refine wpAnyH_to (S' := fun w' => (convert 53 9 (.slice sva svn svc)).run Tryd.prog w' = .ok (.string str) w' ∧ (convert 53 9 (.slice xa xn xc)).run Tryd.prog w' = .ok (.string st2) w') (fun _ h => h.1) _ _ _ _ ?_
  have hHeld : (convert 53 9 (.slice sva svn svc)).run Tryd.prog wX = .ok (.string str) wX ∧ (convert 53 9 (.slice xa xn xc)).run Tryd.prog wX = .ok (.string st2) wX := ⟨CS1, CX1⟩
  clear CS1 CX1
  refine wpAnyH_take (i := 9) (oi := ?oi33) (v := ?v33) ?hi33 (by kernel_rfl) (by kernel_rfl) (by kernel_rfl) ?hq33 (Or.inl ⟨?hw33, ?hy33⟩) (by assumption) ?rest33
  case hi33 => simp only [List.getElem?_toArray, List.getElem?_cons_succ, List.getElem?_cons_zero]; rfl
  case hq33 => exact fun _ _ _ h => h
  case hw33 => rfl
  case hy33 => (intro w hSw; (try dsimp only at hSw); first | (go_simp; done) | (go_simp; with_reducible rfl))
  simp only [Act.put, List.setIfInBounds_toArray, List.set_cons_zero, List.set_cons_succ]
  refine wpAnyH_ready (rs := [11]) (by kernel_rfl) (by simp) ?_
  refine AllReadyH.cons (o := ?oi34) ?hi34 (fun K hK => ?hc34) AllReadyH.nil
  case hi34 => simp only [List.getElem?_toArray, List.getElem?_cons_succ, List.getElem?_cons_zero]; rfl
  go_simp
  refine (unhide HSy _ HBx.out).mono ?_
  rintro e wY ⟨ya, yn, yc, rfl, cy, hby, hbxy⟩
  have HBy := hide hby
  have CY1 := cy _ (Below.refl _ _)
  have CX2 := HCX.out _ hbxy
  have CS2 := HcA.out _ hby
  have HCYP : Hid (∀ wx, Below wY.heap.size wY wx → ((convert 53 9 (.slice sva svn svc)).run Tryd.prog wx = .ok (.string str) wx ∧ (convert 53 9 (.slice xa xn xc)).run Tryd.prog wx = .ok (.string st2) wx) ∧ (convert 53 9 (.slice ya yn yc)).run Tryd.prog wx = .ok (.string st2) wx) := fun wx hx => ⟨⟨HcA.out _ (hby.trans (hx.mono hby.size)), HCX.out _ (hbxy.trans (hx.mono hbxy.size))⟩, cy _ hx⟩
  clear hby cy hbxy
  go_wp2_with fail
  refine hK.out _ _ ?_ (fun _ => ?_)
  · exact ⟨CS2, CX2⟩
  clear hK K hHeld
  refine wpAnyH_to (S' := fun w' => ((convert 53 9 (.slice sva svn svc)).run Tryd.prog w' = .ok (.string str) w' ∧ (convert 53 9 (.slice xa xn xc)).run Tryd.prog w' = .ok (.string st2) w') ∧ (convert 53 9 (.slice ya yn yc)).run Tryd.prog w' = .ok (.string st2) w') (fun _ h => h.1) _ _ _ _ ?_
  have hHeld : ((convert 53 9 (.slice sva svn svc)).run Tryd.prog wY = .ok (.string str) wY ∧ (convert 53 9 (.slice xa xn xc)).run Tryd.prog wY = .ok (.string st2) wY) ∧ (convert 53 9 (.slice ya yn yc)).run Tryd.prog wY = .ok (.string st2) wY := ⟨⟨CS2, CX2⟩, CY1⟩
  clear CS2 CX2 CY1
  refine wpAnyH_take (i := 12) (oi := ?oi35) (v := ?v35) ?hi35 (by kernel_rfl) (by kernel_rfl) (by kernel_rfl) ?hq35 (Or.inl ⟨?hw35, ?hy35⟩) (by assumption) ?rest35
  case hi35 => simp only [List.getElem?_toArray, List.getElem?_cons_succ, List.getElem?_cons_zero]; rfl
  case hq35 => exact fun _ _ _ h => h
  case hw35 => rfl
  case hy35 => (intro w hSw; (try dsimp only at hSw); first | (go_simp; done) | (go_simp; with_reducible rfl))
  simp only [Act.put, List.setIfInBounds_toArray, List.set_cons_zero, List.set_cons_succ]
  refine wpAnyH_take (i := 13) (oi := ?oi36) (v := ?v36) ?hi36 (by kernel_rfl) (by kernel_rfl) (by kernel_rfl) ?hq36 (Or.inl ⟨?hw36, ?hy36⟩) (by assumption) ?rest36
  case hi36 => simp only [List.getElem?_toArray, List.getElem?_cons_succ, List.getElem?_cons_zero]; rfl
  case hq36 => exact fun _ _ _ h => h
  case hw36 => rfl
  case hy36 => (intro w hSw; (try dsimp only at hSw); first | (go_simp; done) | (go_simp; with_reducible rfl))
  simp only [Act.put, List.setIfInBounds_toArray, List.set_cons_zero, List.set_cons_succ]
  refine wpAnyH_take (i := 14) (oi := ?oi37) (v := ?v37) ?hi37 (by kernel_rfl) (by kernel_rfl) (by kernel_rfl) ?hq37 (Or.inl ⟨?hw37, ?hy37⟩) (by assumption) ?rest37
  case hi37 => simp only [List.getElem?_toArray, List.getElem?_cons_succ, List.getElem?_cons_zero]; rfl
  case hq37 => exact fun _ _ _ h => h
  case hw37 => rfl
  case hy37 => (intro w hSw; (try dsimp only at hSw); first | (go_simp; done) | (go_simp; with_reducible rfl))
  simp only [Act.put, List.setIfInBounds_toArray, List.set_cons_zero, List.set_cons_succ]
  refine wpAnyH_take (i := 15) (oi := ?oi38) (v := ?v38) ?hi38 (by kernel_rfl) (by kernel_rfl) (by kernel_rfl) ?hq38 (Or.inl ⟨?hw38, ?hy38⟩) (by assumption) ?rest38
  case hi38 => simp only [List.getElem?_toArray, List.getElem?_cons_succ, List.getElem?_cons_zero]; rfl
  case hq38 => exact fun _ _ _ h => h
  case hw38 => rfl
  case hy38 => (intro w hSw; (try dsimp only at hSw); first | (go_simp; done) | (go_simp; with_reducible rfl))
  simp only [Act.put, List.setIfInBounds_toArray, List.set_cons_zero, List.set_cons_succ]
  refine wpAnyH_take (i := 16) (oi := ?oi39) (v := ?v39) ?hi39 (by kernel_rfl) (by kernel_rfl) (by kernel_rfl) ?hq39 (Or.inl ⟨?hw39, ?hy39⟩) (by assumption) ?rest39
  case hi39 => simp only [List.getElem?_toArray, List.getElem?_cons_succ, List.getElem?_cons_zero]; rfl
  case hq39 => exact fun _ _ _ h => h
  case hw39 => rfl
  case hy39 => (intro w hSw; (try dsimp only at hSw); first | (go_simp; done) | (go_simp; with_reducible rfl))
  simp only [Act.put, List.setIfInBounds_toArray, List.set_cons_zero, List.set_cons_succ]
  refine wpAnyH_take (i := 19) (oi := ?oi40) (v := ?v40) ?hi40 (by kernel_rfl) (by kernel_rfl) (by kernel_rfl) ?hq40 (Or.inl ⟨?hw40, ?hy40⟩) (by assumption) ?rest40
  case hi40 => simp only [List.getElem?_toArray, List.getElem?_cons_succ, List.getElem?_cons_zero]; rfl
  case hq40 => exact fun _ _ _ h => h
  case hw40 => rfl
  case hy40 => (intro w hSw; (try dsimp only at hSw); first | (go_simp; done) | (go_simp; with_reducible rfl))
  simp only [Act.put, List.setIfInBounds_toArray, List.set_cons_zero, List.set_cons_succ]
  refine wpAnyH_take (i := 20) (oi := ?oi41) (v := ?v41) ?hi41 (by kernel_rfl) (by kernel_rfl) (by kernel_rfl) ?hq41 (Or.inl ⟨?hw41, ?hy41⟩) (by assumption) ?rest41
  case hi41 => simp only [List.getElem?_toArray, List.getElem?_cons_succ, List.getElem?_cons_zero]; rfl
  case hq41 => exact fun _ _ _ h => h
  case hw41 => rfl
  case hy41 => (intro w hSw; (try dsimp only at hSw); first | (go_simp; done) | (go_simp; with_reducible rfl))
  simp only [Act.put, List.setIfInBounds_toArray, List.set_cons_zero, List.set_cons_succ]
  refine wpAnyH_ready (rs := [17]) (by kernel_rfl) (by simp) ?_
  refine AllReadyH.cons (o := ?oi42) ?hi42 (fun K hK => ?hc42) AllReadyH.nil
  case hi42 => simp only [List.getElem?_toArray, List.getElem?_cons_succ, List.getElem?_cons_zero]; rfl
  go_simp
  refine (unhide HSz _ HBy.out).mono ?_
  rintro e wZ ⟨za, zn, zc, rfl, cz, hbz, hbyz⟩
  have HBz := hide hbz
  have CZ1 := cz _ (Below.refl _ _)
  have CA3 := HCYP.out _ hbyz
  clear hbz cz hbyz
  go_wp2_with fail
  refine hK.out _ _ ?_ (fun _ => ?_)
  · exact CA3
  clear hK K hHeld
  refine wpAnyH_to (S' := fun w' => (((convert 53 9 (.slice sva svn svc)).run Tryd.prog w' = .ok (.string str) w' ∧ (convert 53 9 (.slice xa xn xc)).run Tryd.prog w' = .ok (.string st2) w') ∧ (convert 53 9 (.slice ya yn yc)).run Tryd.prog w' = .ok (.string st2) w') ∧ (convert 53 9 (.slice za zn zc)).run Tryd.prog w' = .ok (.string str) w') (fun _ h => h.1) _ _ _ _ ?_
  have hHeld : (((convert 53 9 (.slice sva svn svc)).run Tryd.prog wZ = .ok (.string str) wZ ∧ (convert 53 9 (.slice xa xn xc)).run Tryd.prog wZ = .ok (.string st2) wZ) ∧ (convert 53 9 (.slice ya yn yc)).run Tryd.prog wZ = .ok (.string st2) wZ) ∧ (convert 53 9 (.slice za zn zc)).run Tryd.prog wZ = .ok (.string str) wZ := ⟨CA3, CZ1⟩
  clear CA3 CZ1
  refine wpAnyH_take (i := 18) (oi := ?oi43) (v := ?v43) ?hi43 (by kernel_rfl) (by kernel_rfl) (by kernel_rfl) ?hq43 (Or.inl ⟨?hw43, ?hy43⟩) (by assumption) ?rest43
  case hi43 => simp only [List.getElem?_toArray, List.getElem?_cons_succ, List.getElem?_cons_zero]; rfl
  case hq43 => exact fun _ _ _ h => h
  case hw43 => rfl
  case hy43 => (intro w hSw; (try dsimp only at hSw); first | (go_simp; done) | (go_simp; with_reducible rfl))
  simp only [Act.put, List.setIfInBounds_toArray, List.set_cons_zero, List.set_cons_succ]
  refine wpAnyH_take (i := 21) (oi := ?oi44) (v := ?v44) ?hi44 (by kernel_rfl) (by kernel_rfl) (by kernel_rfl) ?hq44 (Or.inl ⟨?hw44, ?hy44⟩) (by assumption) ?rest44
  case hi44 => simp only [List.getElem?_toArray, List.getElem?_cons_succ, List.getElem?_cons_zero]; rfl
  case hq44 => exact fun _ _ _ h => h
  case hw44 => rfl
  case hy44 => (intro w hSw; (try dsimp only at hSw); first | (go_simp; done) | (go_simp; with_reducible rfl))
  simp only [Act.put, List.setIfInBounds_toArray, List.set_cons_zero, List.set_cons_succ]
  refine wpAnyH_take (i := 22) (oi := ?oi45) (v := ?v45) ?hi45 (by kernel_rfl) (by kernel_rfl) (by kernel_rfl) ?hq45 (Or.inl ⟨?hw45, ?hy45⟩) (by assumption) ?rest45
  case hi45 => simp only [List.getElem?_toArray, List.getElem?_cons_succ, List.getElem?_cons_zero]; rfl
  case hq45 => exact fun _ _ _ h => h
  case hw45 => rfl
  case hy45 => (intro w hSw; (try dsimp only at hSw); first | (go_simp; done) | (go_simp; with_reducible rfl))
  simp only [Act.put, List.setIfInBounds_toArray, List.set_cons_zero, List.set_cons_succ]
  refine wpAnyH_take (i := 23) (oi := ?oi46) (v := ?v46) ?hi46 (by kernel_rfl) (by kernel_rfl) (by kernel_rfl) ?hq46 (Or.inl ⟨?hw46, ?hy46⟩) (by assumption) ?rest46
  case hi46 => simp only [List.getElem?_toArray, List.getElem?_cons_succ, List.getElem?_cons_zero]; rfl
  case hq46 => exact fun _ _ _ h => h
  case hw46 => rfl
  case hy46 => (intro w hSw; (try dsimp only at hSw); first | (go_simp; done) | (go_simp; with_reducible rfl))
  simp only [Act.put, List.setIfInBounds_toArray, List.set_cons_zero, List.set_cons_succ]
  refine wpAnyH_done (by kernel_rfl) ?_ _
  have HBB : Hid (Below w.heap.size w wZ) := HB9.out.trans (HBz.out.mono HB9.out.size)
  clear hHeld HcA hcs0 HCX HCYP HBz HBy HBx HSx HSy HSz HB9
  go_wp2
  go_ret
  exact ⟨rfl, HBB.out⟩

set_option maxRecDepth 100000 in
set_option maxHeartbeats 2000000 in
theorem resumed_out {N : Net} {v v1 v2 : Value} {w : World} (hn : NetAt w v N) (hok : validB N = false) :
    Calls Tryd.prog 7 #[v, v1, v2] w fun e w' => e = .returned (.bool true) ∧ Below w.heap.size w w' := by
  have HS : Hid (∀ wx, Calls Tryd.prog 8 #[] wx fun e w' => e = .returned (.bool true) ∧ Below wx.heap.size wx w') := sure_calls
  have HN : Hid (∀ wx, Below w.heap.size w wx → Calls Tryd.prog 10 #[v] wx fun e w' => e = .returned (.tuple #[.pointer none, .int .i64 1]) ∧ Below wx.heap.size wx w') := fun wx hx => new_out (hn.below hx) hok
  have hb0 : ∀ o, Below (w.heap.size + 1) (w.alloc o) (w.alloc o) := fun o => Below.refl _ _
  obtain ⟨vs0, vr0, vw0, rfl, g1, g2, g3⟩ := hn
  obtain ⟨sa, sc, rfl⟩ := g1.form
  obtain ⟨ar, cr, rfl⟩ := g2.form
  obtain ⟨aw, cw, rfl⟩ := g3.form
  have HB0 := hide (hb0 (.cells #[.slice sa N.streams.length sc, .slice ar N.sources.length cr, .slice aw N.workers.length cw] 29))
  clear g1 g2 g3 hb0
  generalize N.workers.length = wl at *
  generalize N.streams.length = sl at *
  generalize N.sources.length = rl at *
  go_enter Tryd.func7, Tryd.ntmps7
  go_wp2_with fail
  refine (unhide HS _).mono ?_
  rintro e w1 ⟨rfl, hb1⟩
  have HB1 := hide (below_box2 HB0.out hb1)
  have t1 : w1.heap[w.heap.size]? = some (.cells #[.slice sa sl sc, .slice ar rl cr, .slice aw wl cw] 29 (0, 0)) := by
    rw [HB1.out.block _ (by omega)]; exact heap_alloc_new _ _
  have z0 := (blk_cell t1 0 _ rfl).1
  have z1 := (blk_cell t1 1 _ rfl).1
  have z2 := (blk_cell t1 2 _ rfl).1
  clear hb1 t1 HB0 HS
  go_wp2_with fail
  refine (unhide HN _ (below_box HB1.out)).mono ?_
  rintro e w2 ⟨rfl, hb2⟩
  have HB2 := hide (below_box (below_box2 HB1.out hb2))
  clear hb2 HN HB1 z0 z1 z2
  go_wp2
  go_ret
  exact ⟨rfl, HB2.out⟩

theorem resumed_calls {N : Net} {v v1 v2 : Value} {one two : List Int} {w : World} (hn : NetAt w v N) (h1 : IntsAt w v1 one) (h2 : IntsAt w v2 two) (hf : NetFits N)
    (f1 : ∀ x ∈ one, InR x) (f2 : ∀ x ∈ two, InR x) (l1 : one.length ≤ 1048576) (l2 : two.length ≤ 1048576) :
    Calls Tryd.prog 7 #[v, v1, v2] w fun e w' => e = .returned (.bool true) ∧ Below w.heap.size w w' := by
  cases hok : validB N
  · exact resumed_out hn hok
  · exact resumed_net hn h1 h2 hf f1 f2 l1 l2 hok

end Go.Proofs.YthfdgdfnflilfaaDoor

/- Part 28: Play3, Laws1, Open4. -/
import Derived.Test.YthfdgdfnflilfaaGreatDoorPart27
/- The law's opens, of a race that is played. -/
namespace Go.Proofs.YthfdgdfnflilfaaGreatDoor
open Go.RowKit Go.Conc

section
variable {wz : World} {base p : Nat} {v0 : Value} {c d : Nat} {l : List Sdi} {col : Nat → Nat} {w : World}

theorem PlayAt.opens {v : Value} {n : Net} (h : PlayAt wz base p v0 c 0 l col w) (hl : l.length ≤ 1) (hn : NetAt wz v n) (hs : ShortNet n) (hc : c ≤ 1000000000) :
    Calls Tryz.prog 8 #[.pointer (some ⟨p, 0, none⟩), v, .bool true] w fun e w' => e = .returned (.bool true) ∧ ∃ v0' l' col', l'.length ≤ l.length + 1 ∧ PlayAt wz base p v0' (c + 3145731) 0 l' col' w' ∧ (∀ b, b < w.heap.size → 20 < col b → col' b = col b) ∧ Fr (fun b => base ≤ b ∧ (col b ≤ 20 ∨ col b = 24)) w w' := by
  have h1 := hs.2.1
  have h2 := hs.2.2.1
  have hst : NetStays base col w v n := fun wx hx => hn.below (h.wzm.trans ⟨hx.os, hx.tape, hx.output, hx.size, fun b hb' => hx.block b (by have := h.wzm.size; omega) (fun e => by have := e.1; have := h.wzb; omega)⟩)
  have hz : ∀ w', Fr (fun b => base ≤ b ∧ (col b ≤ 20 ∨ col b = 24)) w w' → Below wz.heap.size wz w' := fun w' hf => h.wzm.trans ⟨hf.os, hf.tape, hf.output, hf.size, fun b hb => hf.block b (by have := h.wzm.size; omega) (fun e => by have := e.1; have := h.wzb; omega)⟩
  have hold : ∀ (w' : World) (col' : Nat → Nat) (v0' : Value) (c' : Nat), c ≤ c' → Bk base col' w' p v0' c' → Fr (fun b => base ≤ b ∧ (col b ≤ 20 ∨ col b = 24)) w w' → (∀ b, b < w.heap.size → 20 < col b → col' b = col b) → ∀ i (hi : i < l.length), Sd wz base p v0' c' l[i].sd (30 + 2 * i) (31 + 2 * i) l[i].x l[i].y l[i].n l[i].vs l[i].vr l[i].vw col' w' l[i].R l[i].R ∧ Fine l[i].n l[i].R 0 := fun w' col' v0' c' hcc hb hf ho i hi => by
    obtain ⟨g1, g2⟩ := h.side i hi
    exact ⟨⟨g1.at'.frame (fun b hb e => ⟨hf.block b hb (fun e' => by have := e'.2; omega), ho b hb (by omega)⟩) (hz w' hf), hb, hz w' hf, h.wzb, g1.x0, g1.x9, g1.y0, g1.y9, g1.ne, g1.fits, g1.net, g1.short⟩, g2⟩
  cases hok : validB n
  · refine (opens_plain h.bk hst hs (by omega) true (fun _ => hok)).mono fun e w' ⟨q1, col', q2, q3⟩ => ⟨q1, v0, l, col', by omega, ?_, q3.old, q3.fr.mono fun b _ e => ⟨e.1, Or.inl e.2⟩⟩
    have hf : Fr (fun b => base ≤ b ∧ (col b ≤ 20 ∨ col b = 24)) w w' := q3.fr.mono fun b _ e => ⟨e.1, Or.inl e.2⟩
    have q2' : Bk base col' w' p v0 (c + 3145731) := q2.frame (fun _ _ _ => rfl) (fun _ _ _ => rfl) q2.low (Nat.le_refl _) (by omega)
    refine ⟨hold w' col' v0 _ (by omega) q2' hf q3.old, q2', own_of_blockB h.row fun g hg => q3.fr.block g (h.row.lt g hg).2 (fun e => by have := h.v0c g hg; omega), fun g hg => ?_, h.len, hz w' hf, h.wzb⟩
    rw [q3.old g (h.row.lt g hg).2 (by rw [h.v0c g hg]; omega)]; exact h.v0c g hg
  · have hvl : (l.map fun i => (Value.pointer (some ⟨i.sd, 0, none⟩) : Value)).length = l.length := by simp
    refine (opens_add (vals := l.map fun i => (Value.pointer (some ⟨i.sd, 0, none⟩) : Value)) (some wz) (30 + 2 * l.length) (31 + 2 * l.length) (by omega) (by omega) (by omega) (by omega) h.bk (by rw [hvl]; exact h.row) h.v0c (by omega) hst hs (by omega) hok (fun wz' e => by cases e; exact ⟨hn, h.wzm, h.wzb⟩)).mono fun e w' ⟨q1, q2⟩ => ⟨q1, ?_⟩
    obtain ⟨col', v0', sd, x, y, vs, vr, vw, hv, r1, r2, r3, r4, r5, r6, r7, r8, r9, r10, r11⟩ := q2.ex
    have r1' : Bk base col' w' p v0' (c + 3145731) := r1.frame (fun _ _ _ => rfl) (fun _ _ _ => rfl) r1.low (Nat.le_refl _) (by omega)
    have hfits := fits_of_short hs
    refine ⟨v0', l ++ [⟨sd, x, y, n, vs, vr, vw, initR n n.streams⟩], col', by simp, ⟨fun i hi => ?_, r1', ?_, r3, by simp; omega, hz w' r9, h.wzb⟩, r10, r9⟩
    · rcases Nat.lt_or_ge i l.length with hlt | hge
      · rw [List.getElem_append_left hlt]
        exact hold w' col' v0' _ (by omega) r1' r9 r10 i hlt
      · have : i = l.length := by simp at hi; omega
        subst this
        rw [List.getElem_append_right (Nat.le_refl _)]
        simp only [Nat.sub_self, List.getElem_cons_zero]
        exact ⟨⟨⟨r6, r4, r7, r8 wz rfl⟩, r1', hz w' r9, h.wzb, by omega, by omega, by omega, by omega, by omega, hfits, by rw [← hv]; exact hn, hs⟩, Fine.init hok hfits⟩
    · rw [List.length_append, List.map_append]
      rw [hvl] at r2
      exact r2

/-- The law's world, as it begins. -/
theorem play_new {w1 : World} (hp : w1.heap[p]? = some (.cells #[.slice none 0 0, .slice none 0 0, .slice none 0 0, .slice none 0 0, .slice none 0 0, .slice none 0 0, .slice none 0 0, .slice none 0 0] 35 (0, 0))) (hge : wz.heap.size ≤ p) (hz : Below wz.heap.size wz w1) :
    PlayAt wz wz.heap.size p (.slice none 0 0) 0 0 [] (fun b => if b < wz.heap.size then 99 else if b = p then 0 else 21) w1 := by
  have hn : ¬ p < wz.heap.size := by omega
  have h0 : (fun b => if b < wz.heap.size then 99 else if b = p then 0 else 21) p = 0 := by simp [hn]
  exact ⟨(fun i hi => by simp at hi), bk_new hp h0 hge (fun b h => by simp [h]), ⟨rfl, Or.inl ⟨rfl, rfl⟩⟩, (fun g hg => by cases hg), by simp, hz, Nat.le_refl _⟩

end

end Go.Proofs.YthfdgdfnflilfaaGreatDoor
/- The law's Steps, the walk. -/
namespace Go.Proofs.YthfdgdfnflilfaaGreatDoor
open Go.RowKit Go.Conc

set_option maxRecDepth 100000 in
set_option maxHeartbeats 4000000 in
theorem stepsF_calls {n : Net} {v vo : Value} {ops : List OpV} {w : World} (hlaw : StepLaw 5) (hn : NetAt w v n) (hs : ShortNet n) (ho : ScriptAt w vo ops) :
    Calls Tryz.prog 3 #[v, vo] w fun e w' => e = .returned (.bool true) ∧ Below w.heap.size w w' := by
  have HN := hide hn
  obtain ⟨vs, vr, vw, rfl, h1, h2, h3⟩ := hn
  obtain ⟨sa, sc, rfl⟩ := h1.form
  obtain ⟨ar, cr, rfl⟩ := h2.form
  obtain ⟨aw, cw, rfl⟩ := h3.form
  clear h1 h2 h3
  have HW : Hid (∀ w1, Below ((w.alloc (.cells #[.slice sa n.streams.length sc, .slice ar n.sources.length cr, .slice aw n.workers.length cw] 26)).alloc (.cells #[.slice none 0 0, .slice none 0 0, .slice none 0 0, .slice none 0 0, .slice none 0 0, .slice none 0 0, .slice none 0 0, .slice none 0 0] 35)).heap.size ((w.alloc (.cells #[.slice sa n.streams.length sc, .slice ar n.sources.length cr, .slice aw n.workers.length cw] 26)).alloc (.cells #[.slice none 0 0, .slice none 0 0, .slice none 0 0, .slice none 0 0, .slice none 0 0, .slice none 0 0, .slice none 0 0, .slice none 0 0] 35)) w1 →
      (w1.heap[w.heap.size]? = some (.cells #[.slice sa n.streams.length sc, .slice ar n.sources.length cr, .slice aw n.workers.length cw] 26 (0, 0))) ∧ Calls Tryz.prog 8 #[.pointer (some ⟨w.heap.size + 1, 0, none⟩), .agg #[.slice sa n.streams.length sc, .slice ar n.sources.length cr, .slice aw n.workers.length cw], .bool true] w1 fun e w2 => e = .returned (.bool true) ∧
        Calls Tryz.prog 9 #[.pointer (some ⟨w.heap.size + 1, 0, none⟩), vo, .int .i64 5] w2 fun e w3 => e = .returned (.bool true) ∧ Below w.heap.size w w3) := fun w1 hb => by
    have hsz : ((w.alloc (.cells #[.slice sa n.streams.length sc, .slice ar n.sources.length cr, .slice aw n.workers.length cw] 26)).alloc (.cells #[.slice none 0 0, .slice none 0 0, .slice none 0 0, .slice none 0 0, .slice none 0 0, .slice none 0 0, .slice none 0 0, .slice none 0 0] 35)).heap.size = w.heap.size + 2 := by simp
    have hb0 : Below w.heap.size w w1 := (((Below.refl _ w).alloc (Nat.le_refl _) _).alloc (by simp) _).trans (hb.mono (by rw [hsz]; omega))
    have hbox := hb.block w.heap.size (by rw [hsz]; omega)
    have hwld := hb.block (w.heap.size + 1) (by rw [hsz]; omega)
    have hp0 := play_new (wz := w) (hwld.trans (heapNew (by simp))) (by omega) hb0
    refine ⟨hbox.trans (heapOld (by simp) (heapNew rfl)), (hp0.opens (by simp) HN.out hs (by omega)).mono fun e w2 ⟨q1, v0', l', col', q2, q3, q4, q5⟩ => ⟨q1, ?_⟩⟩
    have hb2 : Below w.heap.size w w2 := q3.wzm
    refine (play_calls (L := l'.length) ⟨⟨l', col', rfl, q3⟩, Fr.refl _ _⟩ (by simp at q2; omega) ho hlaw (by omega) (by omega)).mono fun e w3 ⟨r1, r2⟩ => ⟨r1, ?_⟩
    exact hb2.trans ⟨r2.os, r2.tape, r2.output, r2.size, fun b hb' => r2.block b (by have := hb2.size; omega) (by omega)⟩
  obtain ⟨⟨oa, oc, rfl, -, -⟩, -⟩ := ho
  generalize n.streams.length = k0 at *
  generalize n.sources.length = k1 at *
  generalize n.workers.length = k2 at *
  clear HN hs
  go_enter Tryz.func3, Tryz.ntmps3
  go_wp2_with fail
  refine (first_calls _).mono ?_
  rintro e w1 ⟨rfl, hb⟩
  obtain ⟨hbx, hop⟩ := HW.out w1 hb
  have HOp := hide hop
  clear hb HW hop
  obtain ⟨z0, -⟩ := blk_cell (l := [_, _, _]) hbx 0 _ rfl
  obtain ⟨z1, -⟩ := blk_cell (l := [_, _, _]) hbx 1 _ rfl
  obtain ⟨z2, -⟩ := blk_cell (l := [_, _, _]) hbx 2 _ rfl
  clear hbx
  go_wp2_with fail
  refine (unhide HOp).mono ?_
  rintro e w2 ⟨rfl, hpl⟩
  have HPl := hide hpl
  clear HOp hpl z0 z1 z2
  go_wp2_with fail
  refine (unhide HPl).mono ?_
  rintro e w3 ⟨rfl, hb⟩
  have HB := hide hb
  clear hb HPl
  go_wp2
  go_ret
  exact ⟨rfl, HB.out⟩

end Go.Proofs.YthfdgdfnflilfaaGreatDoor
/- What comes in to a law over a net and a script. -/
namespace Go.Proofs.YthfdgdfnflilfaaGreatDoor
open Go.ChangeShapes Go.WideShapes Go.ChangeAt Go.RowKit Go.Deep

theorem bulks.many {H : Type} (k : Nat) : ∀ (l : List (DataW H)), (∀ d ∈ l, k ≤ Rows.uptoBulk d) → k * l.length ≤ Rows.uptoBulkAll l
  | [], _ => by simp [Rows.uptoBulkAll]
  | x :: r, h => by
    have h1 := h x (by simp)
    have h2 := bulks.many k r (fun d hd => h d (by simp [hd]))
    simp only [Rows.uptoBulkAll, List.length_cons, Nat.mul_add, Nat.mul_one]
    omega

instance : Inhabited OpV := ⟨⟨0, 0, [], none, 0, ⟨[], [], []⟩, none, 0, none, 0, none, 0, ByteArray.empty, false⟩⟩

section
variable {H : Type} {enc : TypeId × Value → H} {w : World}

/-- A slice that came in, element by element; how many there may be. -/
theorem many_of_trod {t e : TypeId} {c fuel : Nat} {cs : List Value} {d : DataW H} {ps : List MemPlace} (ht : Tryz.prog.underlying t = some (.slice e)) (hc : Tryz.prog.cellsOf e = c) (hc0 : 0 < c)
    (h : DataW.trod enc Tryz.prog w 0 (fun _ => true) true fuel t cs = some (d, ps)) (hb : Rows.uptoBulk d ≤ 1048576) :
    ∃ (v : Value) (len n : Nat) (CS : Nat → List Value) (D : Nat → DataW H) (Pl : Nat → List MemPlace), cs = [v] ∧ (∀ k, (∀ i, i < len → k ≤ Rows.uptoBulk (D i)) → k * len ≤ 1048576) ∧ Sl w v len c (fun i j => (CS i).getD j (.bool false)) ∧
      ∀ i, i < len → (CS i).length = c ∧ DataW.trod enc Tryz.prog w 0 (fun _ => true) true n e (CS i) = some (D i, Pl i) ∧ Rows.uptoBulk (D i) ≤ 1048576 := by
  rcases open_slice ht h with ⟨rfl, h0⟩ | ⟨a, len, cap, m, n, D, Pl, rfl, -, hl, hm, hmm, hx, hi⟩
  · exact ⟨.slice none 0 0, 0, 0, fun _ => [], fun _ => .nil, fun _ => [], rfl, (fun k _ => by omega), ⟨none, 0, rfl, by omega, by omega, Or.inl rfl⟩, fun i hi => by omega⟩
  · simp only [if_true] at hmm
    subst hmm
    obtain ⟨hd, -⟩ := Prod.mk.inj hx
    have hbl : ∀ i, i < len → Rows.uptoBulk (D i) ≤ 1048576 := fun i hi => by
      rw [hd] at hb
      simp only [Rows.uptoBulk] at hb
      have := bulks.part_le (d := D i) (l := (List.range len).map D) (List.mem_map.2 ⟨i, List.mem_range.2 hi, rfl⟩)
      omega
    have hlen : ∀ k, (∀ i, i < len → k ≤ Rows.uptoBulk (D i)) → k * len ≤ 1048576 := fun k hk => by
      rw [hd] at hb
      simp only [Rows.uptoBulk] at hb
      have := bulks.many k ((List.range len).map D) (fun x hx => by
        obtain ⟨i, hi, rfl⟩ := List.mem_map.1 hx
        exact hk i (List.mem_range.1 hi))
      simp at this
      omega
    rw [hc] at hi
    obtain ⟨CS, hCS⟩ := choose_lt (α := List Value) (p := fun i cs' => w.cells? 0 (a.add (i * c)) c = some cs' ∧ DataW.trod enc Tryz.prog w 0 (fun _ => true) true n e cs' = some (D i, Pl i)) hi
    have hcell : ∀ i, i < len → (CS i).length = c ∧ ∀ j, j < c → w.cell? ((a.add (i * c)).add j) = (CS i)[j]? := fun i hi' => by
      obtain ⟨-, q1, q2⟩ := World.cells?_some (hCS i (by omega)).1
      exact ⟨q1, q2⟩
    have hl1 := hlen 1 (fun i _ => bulks.one_le _)
    refine ⟨_, len, n, CS, D, Pl, rfl, hlen, ⟨some a, _, rfl, by omega, hl, ?_⟩, fun i hi' => ⟨(hcell i hi').1, (hCS i (by omega)).2, hbl i hi'⟩⟩
    rcases Nat.eq_zero_or_pos len with h0 | h0
    · exact Or.inl h0
    · obtain ⟨b, off, spot⟩ := a
      have hspot : spot = none := by
        have := (hcell 0 h0).2 0 hc0
        rw [List.getElem?_eq_getElem (by rw [(hcell 0 h0).1]; exact hc0)] at this
        simpa [Addr.add] using World.cell?_spot this
      subst hspot
      refine Or.inr ⟨b, off, rfl, fun i hi' j hj => ?_⟩
      have := (hcell i hi').2 j hj
      rw [add_plain, add_plain] at this
      rw [this, List.getElem?_eq_getElem (by rw [(hcell i hi').1]; exact hj)]
      simp [List.getD, (hcell i hi').1, hj]

set_option maxRecDepth 100000 in
theorem op_of_trod {fuel : Nat} {cs : List Value} {d : DataW H} {ps : List MemPlace} (h : DataW.trod enc Tryz.prog w 0 (fun _ => true) true fuel 65 cs = some (d, ps)) (hb : Rows.uptoBulk d ≤ 1048576) :
    (∃ o : OpV, cs = o.vals ∧ OpAt w o) ∧ 7 ≤ Rows.uptoBulk d := by
  obtain ⟨xs, n, -, hx, hl, hxs, hf⟩ := DataW.trod_struct Tryz.underlying65 h
  have c8 : Tryz.prog.cellsOf 65 = 8 := by kernel_rfl
  have hl8 : cs.length = 8 := hl.trans c8
  have hx6 : xs.length = 6 := hxs
  have c3 : Tryz.prog.cellsOf 3 = 1 := by kernel_rfl
  have c22 : Tryz.prog.cellsOf 22 = 1 := by kernel_rfl
  have c26 : Tryz.prog.cellsOf 26 = 3 := by kernel_rfl
  have c9 : Tryz.prog.cellsOf 9 = 1 := by kernel_rfl
  have c4 : Tryz.prog.cellsOf 4 = 1 := by kernel_rfl
  match cs, hl8, xs, hx6, hx with
  | [k0, k1, k2, k3, k4, k5, k6, k7], _, [y0, y1, y2, y3, y4, y5], _, hx =>
    have e0 : DataW.trod enc Tryz.prog w 0 (fun _ => true) true n 3 (([k0, k1, k2, k3, k4, k5, k6, k7].drop 0).take (Tryz.prog.cellsOf 3)) = some y0 := hf 0 _ rfl
    have e1 : DataW.trod enc Tryz.prog w 0 (fun _ => true) true n 3 (([k0, k1, k2, k3, k4, k5, k6, k7].drop 1).take (Tryz.prog.cellsOf 3)) = some y1 := hf 1 _ rfl
    have e2 : DataW.trod enc Tryz.prog w 0 (fun _ => true) true n 22 (([k0, k1, k2, k3, k4, k5, k6, k7].drop 2).take (Tryz.prog.cellsOf 22)) = some y2 := hf 2 _ rfl
    have e3 : DataW.trod enc Tryz.prog w 0 (fun _ => true) true n 26 (([k0, k1, k2, k3, k4, k5, k6, k7].drop 3).take (Tryz.prog.cellsOf 26)) = some y3 := hf 3 _ rfl
    have e4 : DataW.trod enc Tryz.prog w 0 (fun _ => true) true n 9 (([k0, k1, k2, k3, k4, k5, k6, k7].drop 6).take (Tryz.prog.cellsOf 9)) = some y4 := hf 4 _ rfl
    have e5 : DataW.trod enc Tryz.prog w 0 (fun _ => true) true n 4 (([k0, k1, k2, k3, k4, k5, k6, k7].drop 7).take (Tryz.prog.cellsOf 4)) = some y5 := hf 5 _ rfl
    rw [c3] at e0 e1
    rw [c22] at e2
    rw [c26] at e3
    rw [c9] at e4
    rw [c4] at e5
    have hd : d = .agg [y0.1, y1.1, y2.1, y3.1, y4.1, y5.1] := by have := (Prod.mk.inj hx).1; simpa using this
    rw [hd] at hb ⊢
    have b0 := bulks.one_le y0.1
    have b1 := bulks.one_le y1.1
    have b2 := bulks.one_le y2.1
    have b3 := bulks.one_le y3.1
    have b4 := bulks.one_le y4.1
    have b5 := bulks.one_le y5.1
    simp only [Rows.uptoBulk, Rows.uptoBulkAll] at hb ⊢
    obtain ⟨z0, g0, -⟩ := DataW.trod_int Tryz.underlying3 e0
    obtain ⟨z1, g1, -, hw1⟩ := DataW.trod_int Tryz.underlying3 e1
    obtain ⟨v2, l2, q2, r2, s2, -⟩ := ints_of_trod (d := y2.1) (ps := y2.2) e2 (by omega)
    obtain ⟨nn, hn, hsh⟩ := net_of_trod (v := .agg #[k3, k4, k5]) (d := y3.1) (ps := y3.2) ⟨_, rfl⟩ e3 (by omega)
    obtain ⟨st, g4, hy4, -⟩ := DataW.trod_string Tryz.underlying9 e4
    obtain ⟨bb, g5, -⟩ := DataW.trod_bool Tryz.underlying4 e5
    obtain ⟨vs, vr, vw, hv, h1, h2, h3⟩ := id hn
    obtain ⟨a0, c0, rfl⟩ := h1.form
    obtain ⟨a1, c1, rfl⟩ := h2.form
    obtain ⟨a2, c2, rfl⟩ := h3.form
    obtain ⟨sa, sc, rfl, -, -, -⟩ := r2.open
    have hst : st.size ≤ 1048576 := by
      have : Rows.uptoBulk y4.1 = st.data.toList.length + 1 := by rw [hy4]; simp [Rows.uptoBulk]
      have e : st.data.toList.length = st.size := rfl
      omega
    simp at g0 g1 q2 g4 g5 hv
    obtain ⟨rfl, rfl, rfl⟩ := hv
    refine ⟨⟨⟨z0, z1, l2, sa, sc, nn, a0, c0, a1, c1, a2, c2, st, bb⟩, ?_, ⟨r2, s2, hn, hsh, hst, inR_of_wf hw1⟩⟩, by omega⟩
    rw [g0, g1, q2, g4, g5]
    rfl

theorem script_of_trod {fuel : Nat} {cs : List Value} {d : DataW H} {ps : List MemPlace} (h : DataW.trod enc Tryz.prog w 0 (fun _ => true) true fuel 27 cs = some (d, ps)) (hb : Rows.uptoBulk d ≤ 1048576) :
    ∃ v ops, cs = [v] ∧ ScriptAt w v ops := by
  obtain ⟨v, len, n, CS, D, Pl, hcs, hlen, hsl, hi⟩ := many_of_trod (c := 8) (e := 65) Tryz.underlying27 (by kernel_rfl) (by decide) h hb
  have h7 := hlen 7 (fun i hi' => (op_of_trod (hi i hi').2.1 (hi i hi').2.2).2)
  obtain ⟨V, hV⟩ := choose_lt (α := OpV) (n := len) (p := fun i x => CS i = x.vals ∧ OpAt w x) (fun i hi' => (op_of_trod (hi i hi').2.1 (hi i hi').2.2).1)
  have hl : ((List.range len).map V).length = len := by simp
  refine ⟨v, (List.range len).map V, hcs, ⟨?_, fun o ho => ?_⟩⟩
  · obtain ⟨a, cap, rfl, -, -, hc⟩ := hsl
    refine ⟨a, cap, by rw [hl], by rw [hl]; omega, fun i hi' => ?_⟩
    have hi2 : i < len := by rw [hl] at hi'; exact hi'
    rcases hc with hc | ⟨b, off, rfl, hc⟩
    · omega
    · refine ⟨b, off, rfl, fun j hj => ?_⟩
      rw [hc i hi2 j hj, List.getElem_map, List.getElem_range, ← (hV i hi2).1]
      have : j < (CS i).length := by rw [(hi i hi2).1]; exact hj
      simp [List.getD, this]
  · obtain ⟨i, hi', rfl⟩ := List.mem_map.1 ho
    exact (hV i (List.mem_range.1 hi')).2

end

set_option maxRecDepth 100000 in
/-- What comes in to a law over a net and a script. -/
theorem two_open {H : Type} {enc : TypeId × Value → H} {W : World} {base : Nat} {args : Array Value} {ds : List (DataW H)} {p : List MemPlace}
    (hval : ∀ (j : Nat) t v, #[26, 27][j]? = some t → args[j]? = some v → Value.okWide Tryz.prog W .any base t v)
    (hA : DataW.TrodAll enc Tryz.prog W 0 (fun _ => true) true [26, 27] args.toList ds p) (hk : Rows.uptoBulkAll ds ≤ 1048576) :
    ∃ v0 v1 n ops, args = #[v0, v1] ∧ (∃ d0 d1, ds = [d0, d1]) ∧ NetAt W v0 n ∧ ShortNet n ∧ ScriptAt W v1 ops := by
  obtain ⟨v0, vs0, d0, ds0, p0, q0, e0, rfl, -, h0, r0⟩ := trodAll_cons hA
  obtain ⟨v1, vs1, d1, ds1, p1, q1, rfl, rfl, -, h1, r1⟩ := trodAll_cons r0
  obtain ⟨rfl, rfl, -⟩ := trodAll_nil r1
  obtain rfl : args = #[v0, v1] := by cases args; simp_all
  simp only [Rows.uptoBulkAll] at hk
  obtain ⟨cs0, rfl, -⟩ := okWide_struct Tryz.underlying26 (hval 0 26 v0 rfl rfl)
  obtain ⟨f0, g0⟩ := h0
  obtain ⟨f1, g1⟩ := h1
  obtain ⟨n, hn, hsh⟩ := net_of_trod ⟨_, rfl⟩ g0 (by omega)
  obtain ⟨w1, ops, e1, i1⟩ := script_of_trod g1 (by omega)
  have e1' := slice_one e1 (okWide_slice Tryz.underlying27 (hval 1 27 v1 rfl rfl))
  subst e1'
  exact ⟨_, _, n, ops, rfl, ⟨_, _, rfl⟩, hn, hsh, i1⟩

end Go.Proofs.YthfdgdfnflilfaaGreatDoor

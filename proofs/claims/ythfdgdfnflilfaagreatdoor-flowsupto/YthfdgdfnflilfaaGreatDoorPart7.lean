/- Part 7: Open1, Lent3, Lent4, Back1. -/
import Derived.ProofKit
import Derived.OpenShut
import Derived.JoinedCond
import Derived.ReadAgain
import Derived.Deep.Slices
import Derived.Deep.Cut
import Derived.Test.YthfdgdfnflilfaaGreatDoorRows
import Derived.Test.YthfdgdfnflilfaaGreatDoorPart6
/- What comes in, read as nets and lists of numbers. -/
namespace Go.Proofs.YthfdgdfnflilfaaGreatDoor
open Go.ChangeShapes Go.WideShapes Go.ChangeAt Go.RowKit Go.Deep

/-- A number of 64 bits. -/
def Fits (c : Int) : Prop := -9223372036854775808 ≤ c ∧ c ≤ 9223372036854775807

namespace bulks
theorem one_le {H : Type} (d : DataW H) : 1 ≤ Rows.uptoBulk d := by
  cases d with
  | lit l => cases l <;> simp [Rows.uptoBulk]
  | nil => simp [Rows.uptoBulk]
  | ptr d => simp [Rows.uptoBulk]
  | slice elems spare => simp [Rows.uptoBulk]
  | agg parts => simp [Rows.uptoBulk]
  | iface t d => simp [Rows.uptoBulk]
  | map entries => simp [Rows.uptoBulk]
  | held h => simp [Rows.uptoBulk]
theorem part_le {H : Type} {d : DataW H} {l : List (DataW H)} (h : d ∈ l) : Rows.uptoBulk d ≤ Rows.uptoBulkAll l := by
  induction l with
  | nil => cases h
  | cons x r ih =>
    simp only [Rows.uptoBulkAll]
    cases List.mem_cons.1 h with
    | inl e => subst e; omega
    | inr e => have := ih e; omega
theorem length_le {H : Type} (l : List (DataW H)) : l.length ≤ Rows.uptoBulkAll l := by
  induction l with
  | nil => simp [Rows.uptoBulkAll]
  | cons x r ih => have := one_le x; simp only [Rows.uptoBulkAll, List.length_cons]; omega
end bulks

instance : Inhabited Ins := ⟨⟨0, 0, 0, 0⟩⟩
instance : Inhabited Src := ⟨⟨0, []⟩⟩

section
variable {H : Type} {enc : TypeId × Value → H} {w : World}

/-- A slice that came in, element by element. -/
theorem sl_of_trod {t e : TypeId} {c fuel : Nat} {cs : List Value} {d : DataW H} {ps : List MemPlace} (ht : Tryz.prog.underlying t = some (.slice e)) (hc : Tryz.prog.cellsOf e = c) (hc0 : 0 < c)
    (h : DataW.trod enc Tryz.prog w 0 (fun _ => true) true fuel t cs = some (d, ps)) (hb : Rows.uptoBulk d ≤ 1048576) :
    ∃ (v : Value) (len n : Nat) (CS : Nat → List Value) (D : Nat → DataW H) (Pl : Nat → List MemPlace), cs = [v] ∧ len ≤ 1048576 ∧ Sl w v len c (fun i j => (CS i).getD j (.bool false)) ∧
      ∀ i, i < len → (CS i).length = c ∧ DataW.trod enc Tryz.prog w 0 (fun _ => true) true n e (CS i) = some (D i, Pl i) ∧ Rows.uptoBulk (D i) ≤ 1048576 := by
  rcases open_slice ht h with ⟨rfl, h0⟩ | ⟨a, len, cap, m, n, D, Pl, rfl, -, hl, hm, hmm, hx, hi⟩
  · exact ⟨.slice none 0 0, 0, 0, fun _ => [], fun _ => .nil, fun _ => [], rfl, by omega, ⟨none, 0, rfl, by omega, by omega, Or.inl rfl⟩, fun i hi => by omega⟩
  · simp only [if_true] at hmm
    subst hmm
    obtain ⟨hd, -⟩ := Prod.mk.inj hx
    have hbl : ∀ i, i < len → Rows.uptoBulk (D i) ≤ 1048576 := fun i hi => by
      rw [hd] at hb
      simp only [Rows.uptoBulk] at hb
      have := bulks.part_le (d := D i) (l := (List.range len).map D) (List.mem_map.2 ⟨i, List.mem_range.2 hi, rfl⟩)
      omega
    have hlen : len ≤ 1048576 := by
      rw [hd] at hb
      simp only [Rows.uptoBulk] at hb
      have := bulks.length_le ((List.range len).map D)
      simp at this
      omega
    rw [hc] at hi
    obtain ⟨CS, hCS⟩ := choose_lt (α := List Value) (p := fun i cs' => w.cells? 0 (a.add (i * c)) c = some cs' ∧ DataW.trod enc Tryz.prog w 0 (fun _ => true) true n e cs' = some (D i, Pl i)) hi
    have hcell : ∀ i, i < len → (CS i).length = c ∧ ∀ j, j < c → w.cell? ((a.add (i * c)).add j) = (CS i)[j]? := fun i hi' => by
      obtain ⟨-, q1, q2⟩ := World.cells?_some (hCS i (by omega)).1
      exact ⟨q1, q2⟩
    refine ⟨_, len, n, CS, D, Pl, rfl, hlen, ⟨some a, _, rfl, by omega, hl, ?_⟩, fun i hi' => ⟨(hcell i hi').1, (hCS i (by omega)).2, hbl i hi'⟩⟩
    rcases Nat.eq_zero_or_pos len with h0 | h0
    · exact Or.inl h0
    · obtain ⟨b, off, spot⟩ := a
      have hspot : spot = none := by
        have := (hcell 0 h0).2 0 hc0
        rw [List.getElem?_eq_getElem (by rw [(hcell 0 h0).1]; exact hc0)] at this
        simpa [Addr.add] using World.cell?_spot this
      subst hspot
      refine Or.inr ⟨b, off, rfl, fun i hi' j hj => ?_⟩
      have := (hcell i hi').2 j hj
      rw [add_plain, add_plain] at this
      rw [this, List.getElem?_eq_getElem (by rw [(hcell i hi').1]; exact hj)]
      simp [List.getD, (hcell i hi').1, hj]

theorem inR_of_wf {x : Int} (h : (Lit.int .i64 x).wf = true) : Fits x := bounds_i64 h

theorem range_getD {α : Type} (V : Nat → α) (len i : Nat) (d : α) (h : i < len) : ((List.range len).map V).getD i d = V i := by simp [List.getD, h]

theorem ints_of_trod {fuel : Nat} {cs : List Value} {d : DataW H} {ps : List MemPlace} (h : DataW.trod enc Tryz.prog w 0 (fun _ => true) true fuel 22 cs = some (d, ps)) (hb : Rows.uptoBulk d ≤ 1048576) :
    ∃ v l, cs = [v] ∧ IntsAt w v l ∧ l.length ≤ 1048576 ∧ ∀ x ∈ l, Fits x := by
  obtain ⟨v, len, n, CS, D, Pl, hcs, hlen, hsl, hi⟩ := sl_of_trod (e := 3) Tryz.underlying22 (by kernel_rfl) Nat.one_pos h hb
  obtain ⟨V, hV⟩ := choose_lt (α := Int) (n := len) (p := fun i x => CS i = [.int .i64 x] ∧ Fits x) (fun i hi' => by
    obtain ⟨q1, q2, q3⟩ := hi i hi'
    obtain ⟨x, hx, -, hw⟩ := DataW.trod_int Tryz.underlying3 q2
    exact ⟨x, hx, inR_of_wf hw⟩)
  refine ⟨v, (List.range len).map V, hcs, ?_, by simpa using hlen, fun x hx => ?_⟩
  · have hl : ((List.range len).map V).length = len := by simp
    unfold IntsAt
    rw [hl]
    refine hsl.congr fun i hi' j hj => ?_
    have hj0 : j = 0 := by omega
    subst hj0
    rw [(hV i hi').1, range_getD _ _ _ _ hi']
    rfl
  · obtain ⟨i, hi', rfl⟩ := List.mem_map.1 hx
    exact (hV i (List.mem_range.1 hi')).2

set_option maxRecDepth 100000 in
theorem ins_of_trod {fuel : Nat} {cs : List Value} {x : DataW H × List MemPlace} (h : DataW.trod enc Tryz.prog w 0 (fun _ => true) true fuel 44 cs = some x) : ∃ i : Ins, cs = [.int .i64 i.op, .int .i64 i.a, .int .i64 i.b, .int .i64 i.c] ∧ Fits i.c := by
  obtain ⟨xs, n, -, -, hl, hxs, hf⟩ := DataW.trod_struct Tryz.underlying44 h
  have c56 : Tryz.prog.cellsOf 44 = 4 := by kernel_rfl
  have hl4 : cs.length = 4 := hl.trans c56
  have hx4 : xs.length = 4 := hxs
  have c3 : Tryz.prog.cellsOf 3 = 1 := by kernel_rfl
  match cs, hl4, xs, hx4 with
  | [c0, c1, c2, c3'], _, [y0, y1, y2, y3], _ =>
    have e0 : DataW.trod enc Tryz.prog w 0 (fun _ => true) true n 3 (([c0, c1, c2, c3'].drop 0).take (Tryz.prog.cellsOf 3)) = some y0 := hf 0 _ rfl
    have e1 : DataW.trod enc Tryz.prog w 0 (fun _ => true) true n 3 (([c0, c1, c2, c3'].drop 1).take (Tryz.prog.cellsOf 3)) = some y1 := hf 1 _ rfl
    have e2 : DataW.trod enc Tryz.prog w 0 (fun _ => true) true n 3 (([c0, c1, c2, c3'].drop 2).take (Tryz.prog.cellsOf 3)) = some y2 := hf 2 _ rfl
    have e3 : DataW.trod enc Tryz.prog w 0 (fun _ => true) true n 3 (([c0, c1, c2, c3'].drop 3).take (Tryz.prog.cellsOf 3)) = some y3 := hf 3 _ rfl
    rw [c3] at e0 e1 e2 e3
    obtain ⟨z0, g0, -⟩ := DataW.trod_int Tryz.underlying3 e0
    obtain ⟨z1, g1, -⟩ := DataW.trod_int Tryz.underlying3 e1
    obtain ⟨z2, g2, -⟩ := DataW.trod_int Tryz.underlying3 e2
    obtain ⟨z3, g3, -, hw3⟩ := DataW.trod_int Tryz.underlying3 e3
    simp at g0 g1 g2 g3
    exact ⟨⟨z0, z1, z2, z3⟩, by rw [g0, g1, g2, g3], inR_of_wf hw3⟩

theorem code_of_trod {fuel : Nat} {cs : List Value} {d : DataW H} {ps : List MemPlace} (h : DataW.trod enc Tryz.prog w 0 (fun _ => true) true fuel 45 cs = some (d, ps)) (hb : Rows.uptoBulk d ≤ 1048576) :
    ∃ v l, cs = [v] ∧ CodeAt w v l ∧ l.length ≤ 1048576 ∧ ∀ i ∈ l, Fits i.c := by
  obtain ⟨v, len, n, CS, D, Pl, hcs, hlen, hsl, hi⟩ := sl_of_trod (c := 4) (e := 44) Tryz.underlying45 (by kernel_rfl) (by decide) h hb
  obtain ⟨V, hV⟩ := choose_lt (α := Ins) (n := len) (p := fun i x => CS i = [.int .i64 x.op, .int .i64 x.a, .int .i64 x.b, .int .i64 x.c] ∧ Fits x.c) (fun i hi' => ins_of_trod (hi i hi').2.1)
  refine ⟨v, (List.range len).map V, hcs, ?_, by simpa using hlen, fun x hx => by
    obtain ⟨i, hi', rfl⟩ := List.mem_map.1 hx
    exact (hV i (List.mem_range.1 hi')).2⟩
  have hl : ((List.range len).map V).length = len := by simp
  unfold CodeAt
  rw [hl]
  refine hsl.congr fun i hi' j hj => ?_
  rw [(hV i hi').1, range_getD _ _ _ _ hi']
  have : j = 0 ∨ j = 1 ∨ j = 2 ∨ j = 3 := by omega
  rcases this with rfl | rfl | rfl | rfl <;> rfl

theorem workers_of_trod {fuel : Nat} {cs : List Value} {d : DataW H} {ps : List MemPlace} (h : DataW.trod enc Tryz.prog w 0 (fun _ => true) true fuel 24 cs = some (d, ps)) (hb : Rows.uptoBulk d ≤ 1048576) :
    ∃ v l, cs = [v] ∧ WorkersAt w v l ∧ l.length ≤ 1048576 ∧ ∀ c ∈ l, c.length ≤ 1048576 ∧ ∀ i ∈ c, Fits i.c := by
  obtain ⟨v, len, n, CS, D, Pl, hcs, hlen, hsl, hi⟩ := sl_of_trod (c := 1) (e := 45) Tryz.underlying24 (by kernel_rfl) (by decide) h hb
  obtain ⟨V, hV⟩ := choose_lt (α := Value × List Ins) (n := len) (p := fun i x => CS i = [x.1] ∧ CodeAt w x.1 x.2 ∧ x.2.length ≤ 1048576 ∧ ∀ j ∈ x.2, Fits j.c) (fun i hi' => by
    obtain ⟨q1, q2, q3⟩ := hi i hi'
    obtain ⟨v', l', e1, e2, e3⟩ := code_of_trod q2 q3
    exact ⟨(v', l'), e1, e2, e3⟩)
  refine ⟨v, (List.range len).map fun i => (V i).2, hcs, ⟨fun i => (V i).1, ?_, fun i hi' => ?_⟩, by simpa using hlen, fun c hc => ?_⟩
  · have hl : ((List.range len).map fun i => (V i).2).length = len := by simp
    rw [hl]
    refine hsl.congr fun i hi' j hj => ?_
    have hj0 : j = 0 := by omega
    subst hj0
    rw [(hV i hi').1]
    rfl
  · have hi2 : i < len := by simpa using hi'
    simpa using (hV i hi2).2.1
  · obtain ⟨i, hi', rfl⟩ := List.mem_map.1 hc
    exact (hV i (List.mem_range.1 hi')).2.2

set_option maxRecDepth 100000 in
theorem source_of_trod {fuel : Nat} {cs : List Value} {d : DataW H} {ps : List MemPlace} (h : DataW.trod enc Tryz.prog w 0 (fun _ => true) true fuel 42 cs = some (d, ps)) (hb : Rows.uptoBulk d ≤ 1048576) :
    ∃ (s : Src) (v : Value), cs = [.int .i64 s.stream, v] ∧ IntsAt w v s.words ∧ s.words.length ≤ 1048576 ∧ ∀ x ∈ s.words, Fits x := by
  obtain ⟨xs, n, -, hx, hl, hxs, hf⟩ := DataW.trod_struct Tryz.underlying42 h
  have c54 : Tryz.prog.cellsOf 42 = 2 := by kernel_rfl
  have hl2 : cs.length = 2 := hl.trans c54
  have hx2 : xs.length = 2 := hxs
  have c3 : Tryz.prog.cellsOf 3 = 1 := by kernel_rfl
  have c22 : Tryz.prog.cellsOf 22 = 1 := by kernel_rfl
  match cs, hl2, xs, hx2, hx with
  | [c0, c1], _, [y0, y1], _, hx =>
    have e0 : DataW.trod enc Tryz.prog w 0 (fun _ => true) true n 3 (([c0, c1].drop 0).take (Tryz.prog.cellsOf 3)) = some y0 := hf 0 _ rfl
    have e1 : DataW.trod enc Tryz.prog w 0 (fun _ => true) true n 22 (([c0, c1].drop 1).take (Tryz.prog.cellsOf 22)) = some y1 := hf 1 _ rfl
    rw [c3] at e0
    rw [c22] at e1
    obtain ⟨z0, g0, -⟩ := DataW.trod_int Tryz.underlying3 e0
    have hd : d = .agg [y0.1, y1.1] := by have := (Prod.mk.inj hx).1; simpa using this
    have hby : Rows.uptoBulk y1.1 ≤ 1048576 := by
      rw [hd] at hb
      simp only [Rows.uptoBulk, Rows.uptoBulkAll] at hb
      omega
    obtain ⟨v', l', q1, q2, q3, q4⟩ := ints_of_trod (d := y1.1) (ps := y1.2) e1 hby
    simp at g0 q1
    exact ⟨⟨z0, l'⟩, v', by rw [g0, q1], q2, q3, q4⟩

theorem sources_of_trod {fuel : Nat} {cs : List Value} {d : DataW H} {ps : List MemPlace} (h : DataW.trod enc Tryz.prog w 0 (fun _ => true) true fuel 23 cs = some (d, ps)) (hb : Rows.uptoBulk d ≤ 1048576) :
    ∃ v l, cs = [v] ∧ SourcesAt w v l ∧ l.length ≤ 1048576 ∧ ∀ s ∈ l, s.words.length ≤ 1048576 ∧ ∀ x ∈ s.words, Fits x := by
  obtain ⟨v, len, n, CS, D, Pl, hcs, hlen, hsl, hi⟩ := sl_of_trod (c := 2) (e := 42) Tryz.underlying23 (by kernel_rfl) (by decide) h hb
  obtain ⟨V, hV⟩ := choose_lt (α := Value × Src) (n := len) (p := fun i x => CS i = [.int .i64 x.2.stream, x.1] ∧ IntsAt w x.1 x.2.words ∧ x.2.words.length ≤ 1048576 ∧ ∀ y ∈ x.2.words, Fits y) (fun i hi' => by
    obtain ⟨q1, q2, q3⟩ := hi i hi'
    obtain ⟨s', v', e1, e2, e3⟩ := source_of_trod q2 q3
    exact ⟨(v', s'), e1, e2, e3⟩)
  refine ⟨v, (List.range len).map fun i => (V i).2, hcs, ⟨fun i => (V i).1, ?_, fun i hi' => ?_⟩, by simpa using hlen, fun c hc => ?_⟩
  · have hl : ((List.range len).map fun i => (V i).2).length = len := by simp
    rw [hl]
    refine hsl.congr fun i hi' j hj => ?_
    rw [(hV i hi').1, range_getD _ _ _ _ hi']
    have : j = 0 ∨ j = 1 := by omega
    rcases this with rfl | rfl <;> rfl
  · have hi2 : i < len := by simpa using hi'
    simpa using (hV i hi2).2.1
  · obtain ⟨i, hi', rfl⟩ := List.mem_map.1 hc
    exact (hV i (List.mem_range.1 hi')).2.2

/-- How long a net's lists are at the most. -/
def ShortNet (n : Net) : Prop := n.streams.length ≤ 1048576 ∧ n.sources.length ≤ 1048576 ∧ n.workers.length ≤ 1048576 ∧ (∀ s ∈ n.sources, s.words.length ≤ 1048576 ∧ ∀ x ∈ s.words, Fits x) ∧ (∀ c ∈ n.workers, c.length ≤ 1048576 ∧ ∀ i ∈ c, Fits i.c)

set_option maxRecDepth 100000 in
theorem net_of_trod {fuel : Nat} {v : Value} {d : DataW H} {ps : List MemPlace} (hv : ∃ cs, v = .agg cs) (h : DataW.trod enc Tryz.prog w 0 (fun _ => true) true fuel 26 v.cells.toList = some (d, ps)) (hb : Rows.uptoBulk d ≤ 1048576) :
    ∃ n, NetAt w v n ∧ ShortNet n := by
  obtain ⟨cs, rfl⟩ := hv
  obtain ⟨xs, n, -, hx, hl, hxs, hf⟩ := DataW.trod_struct Tryz.underlying26 h
  have c26 : Tryz.prog.cellsOf 26 = 3 := by kernel_rfl
  have hl3 : cs.toList.length = 3 := hl.trans c26
  have hx3 : xs.length = 3 := hxs
  have c22 : Tryz.prog.cellsOf 22 = 1 := by kernel_rfl
  have c23 : Tryz.prog.cellsOf 23 = 1 := by kernel_rfl
  have c24 : Tryz.prog.cellsOf 24 = 1 := by kernel_rfl
  obtain ⟨cl⟩ := cs
  simp only [Value.cells] at hl3 hf
  match cl, hl3, xs, hx3, hx with
  | [k0, k1, k2], _, [y0, y1, y2], _, hx =>
    have e0 : DataW.trod enc Tryz.prog w 0 (fun _ => true) true n 22 (([k0, k1, k2].drop 0).take (Tryz.prog.cellsOf 22)) = some y0 := hf 0 _ rfl
    have e1 : DataW.trod enc Tryz.prog w 0 (fun _ => true) true n 23 (([k0, k1, k2].drop 1).take (Tryz.prog.cellsOf 23)) = some y1 := hf 1 _ rfl
    have e2 : DataW.trod enc Tryz.prog w 0 (fun _ => true) true n 24 (([k0, k1, k2].drop 2).take (Tryz.prog.cellsOf 24)) = some y2 := hf 2 _ rfl
    rw [c22] at e0
    rw [c23] at e1
    rw [c24] at e2
    have hd : d = .agg [y0.1, y1.1, y2.1] := by have := (Prod.mk.inj hx).1; simpa using this
    rw [hd] at hb
    simp only [Rows.uptoBulk, Rows.uptoBulkAll] at hb
    obtain ⟨v0, l0, q0, r0, s0, -⟩ := ints_of_trod (d := y0.1) (ps := y0.2) e0 (by omega)
    obtain ⟨v1, l1, q1, r1, s1, t1⟩ := sources_of_trod (d := y1.1) (ps := y1.2) e1 (by omega)
    obtain ⟨v2, l2, q2, r2, s2, t2⟩ := workers_of_trod (d := y2.1) (ps := y2.2) e2 (by omega)
    simp at q0 q1 q2
    subst q0 q1 q2
    exact ⟨⟨l0, l1, l2⟩, ⟨_, _, _, rfl, r0, r1, r2⟩, s0, s1, s2, t1, t2⟩

end

theorem Tryz.kids : Kids Tryz.prog (· < Tryz.prog.types.size) := kids_rows (by kernel_rfl) (by kernel_rfl)
theorem Tryz.full : ∀ t e, t < Tryz.prog.types.size → Tryz.prog.underlying t = some (.slice e) → 0 < Tryz.prog.cellsOf e := slices_full_of Tryz.prog (by kernel_rfl)

theorem trodAll_carry {H : Type} {enc : TypeId × Value → H} {P : Program} {w w' : World} {sp : Nat → Bool} : ∀ {ts : List TypeId} {vs : List Value} {ds : List (DataW H)} {ps : List MemPlace}, DataW.TrodAll enc P w 0 sp true ts vs ds ps → (∀ p ∈ ps, w.sameAt w' p) → DataW.TrodAll enc P w' 0 sp true ts vs ds ps
  | [], [], [], _, h, _ => h
  | _ :: _, _ :: _, _ :: _, _, ⟨p, q, ⟨n, h1⟩, h2, e⟩, hs =>
    ⟨p, q, ⟨n, DataW.trod_carry n _ _ _ h1 fun x hx => hs x (by rw [e]; exact List.mem_append_left _ hx)⟩, trodAll_carry h2 (fun x hx => hs x (by rw [e]; exact List.mem_append_right _ hx)), e⟩

set_option maxRecDepth 100000 in
/-- A law that answers true, and has left alone all that was there. -/
theorem post_law {H : Type} {enc : TypeId × Value → H} {f : Func} {s : ChangeSpec} {W W' : World} {args : Array Value} {ds : List (DataW H)} {before : List MemPlace} {fresh handsOn again : Bool}
    (hvars : s.vars = []) (hres : f.resultTypes = #[4]) (hT : ∀ t ∈ f.params.toList, t < Tryz.prog.types.size)
    (hfn : (s.fn H (ds ++ [])).results = [.lit (.bool true)]) (hfa : (s.fn H (ds ++ [])).args = ds) (hfv : (s.fn H (ds ++ [])).vars = [])
    (hW : DataW.Whole enc Tryz.prog f.params.toList s.vars false W args.toList ds [] before) (hb : Below W.heap.size W W') :
    s.post enc Tryz.prog f false fresh handsOn again W args (.bool true) W' := by
  have hW0 := hW
  obtain ⟨p, q, hA, hV, hpq, hz, -⟩ := hW
  rw [hvars] at hV
  have hq : q = [] := hV
  subst hq
  have hbe : before = p := by rw [hpq]; simp
  subst hbe
  have hargs : ∀ sp : Nat → Bool, (∀ x ∈ before, sp x.block = true) → DataW.TrodAll enc Tryz.prog W' 0 sp true f.params.toList args.toList ds before := fun sp hsp =>
    trodAll_carry (DataW.TrodAll.respare Tryz.kids Tryz.full hT hA hsp) fun x hx => hb.same (hA.lt x hx)
  have hr : ∀ (b : Nat) (sp : Nat → Bool) (hd : Bool), DataW.TrodAll enc Tryz.prog W' b sp hd f.resultTypes.toList ((Value.bool true).resultList f.resultTypes.size) [.lit (.bool true)] [] := fun b sp hd => by
    rw [hres]; exact trodAll_mk1 (shut_bool Tryz.underlying4 _)
  have hold : ∀ x ∈ before, (fun b => decide (b < W.heap.size)) x.block = true := fun x hx => by simpa using hA.lt x hx
  refine ⟨ds, [], before, [], before, [], hW0, by rw [hfn]; exact hr _ _ _, by rw [hfa]; exact hargs _ hold, by rw [hvars, hfv]; rfl, hb.frame _, fun _ => ?_⟩
  refine ⟨?_, _, [], ([] ++ before) ++ [], ⟨[] ++ before, [], trodAll_append (hargs _ (fun _ _ => rfl)) (hr _ _ _), by rw [hvars]; exact (rfl : ([] : List MemPlace) = []), rfl, ?_, fun h => by cases h⟩, ?_⟩
  · exact ok_one hres rfl (okWide_bool_mk Tryz.underlying4 _)
  · intro b off hp
    have hp' : MemPlace.cell b off ∈ before := by simpa using hp
    rw [hb.frozen (p := ⟨b, off, none⟩) (hA.lt _ hp')]
    exact hz b off (by rw [hpq]; simpa using hp')
  · intro x hx _
    simpa using hx

end Go.Proofs.YthfdgdfnflilfaaGreatDoor
/- Nets that are lent: the two loops of lent. -/
namespace Go.Proofs.YthfdgdfnflilfaaGreatDoor
open Go.RowKit Go.Conc

theorem Tryz.infoSrc : (Tryz.prog.info? 42).map (fun i => (i.zero, i.size, i.bytes)) = some (some (.agg #[.int .i64 0, .slice none 0 0]), 2, 32) := by kernel_rfl
theorem Tryz.infoLI : (Tryz.prog.info? 22).map (fun i => (i.zero, i.size, i.bytes)) = some (some (.slice none 0 0), 1, 24) := by kernel_rfl
theorem Tryz.infoLC : (Tryz.prog.info? 45).map (fun i => (i.zero, i.size, i.bytes)) = some (some (.slice none 0 0), 1, 24) := by kernel_rfl

theorem Tryz.infoLS : (Tryz.prog.info? 23).map (fun i => (i.zero, i.size, i.bytes)) = some (some (.slice none 0 0), 1, 24) := by kernel_rfl
theorem Tryz.infoLW : (Tryz.prog.info? 24).map (fun i => (i.zero, i.size, i.bytes)) = some (some (.slice none 0 0), 1, 24) := by kernel_rfl

/-- make of one more than n elements of whatever size. -/
theorem make_wide {P : Program} (t e : TypeId) (z : Value) (size bytes : Nat) (ht : P.underlying t = some (.slice e)) (hinfo : (P.info? e).map (fun i => (i.zero, i.size, i.bytes)) = some (some z, size, bytes)) (n : Nat) (hb : bytes * (n + 1) ≤ 281474976710656) (h63 : n + 1 ≤ 9223372036854775807) (w : World) :
    (Instr.makeSlice t (.int .i64 ((n : Int) + 1)) (.int .i64 ((n : Int) + 1))).run P w = .ok (.slice (some ⟨w.heap.size, 0, none⟩) (n + 1) (n + 1)) (w.alloc (.cells (madeCells z.cells ((n + 1) * size)) e)) := by
  obtain ⟨i, hi, hz0, hz1, hz2⟩ := info_parts hinfo
  have hb' : (i.bytes : Int) * ((n : Int) + 1) ≤ 281474976710656 := by
    have h : ((i.bytes * (n + 1) : Nat) : Int) ≤ 281474976710656 := by rw [hz2]; omega
    rwa [Int.natCast_mul, Int.natCast_add] at h
  have hr := run_make (P := P) w t e i z ht hi hz0 .i64 .i64 ((n : Int) + 1) ((n : Int) + 1) (by omega) (Int.le_refl _) hb' (by omega)
  have ec : ((n : Int) + 1).toNat = n + 1 := by omega
  rw [ec, hz1] at hr
  exact hr

/-- The first loop of lent: i sources are there. -/
structure Loan1 (B : Nat) (w0 : World) (n : Net) (bx : Obj) (gs gr : Nat) (rooms : Value) (G : Nat → Nat) (IA : Nat → Option Addr) (IC : Nat → Nat) (vW : Value) (i : Nat) (wr : World) : Prop where
  box : wr.heap[B]? = some bx
  blk : wr.heap[B + 1]? = some (.cells #[rooms, .slice none 0 0, .slice none 0 0, ownV gs n.streams.length, vW, ownV gr n.sources.length, .slice none 0 0, .slice none 0 0] 61 (0, 0))
  str : Lentd wr gs rooms n.streams
  words : WordsAt (B + 2) wr n gs G IA IC vW i
  src : SrcRow wr gr n.sources IA IC i
  ges : B + 2 ≤ gs
  ger : B + 2 ≤ gr
  below : Below B w0 wr

theorem SrcRow.blk {w : World} {g : Nat} {ss : List Src} {IA : Nat → Option Addr} {IC : Nat → Nat} {i : Nat} (h : SrcRow w g ss IA IC i) : ∃ cs : Array Value, w.heap[g]? = some (.cells cs 42 (0, 0)) := by
  obtain ⟨cs, h1, -⟩ := h.ex
  exact ⟨_, h1⟩
theorem WkRow.blk {w : World} {g : Nat} {ws : List (List Ins)} {C : Nat → Nat} {i : Nat} (h : WkRow w g ws C i) : ∃ cs : Array Value, w.heap[g]? = some (.cells cs 45 (0, 0)) := by
  obtain ⟨cs, h1, -⟩ := h.ex
  exact ⟨_, h1⟩

/-- What an append behind a call that made memory leaves alone. -/
theorem kept_append {wr w1 w2 : World} {o : Obj} {v : Value} {k : Nat} (hb1 : Below wr.heap.size wr w1) (hg : (w1.alloc o).grownBy w2 v.ownBlock) (hk : k < wr.heap.size) (hne : v.ownBlock ≠ some k) : w2.heap[k]? = wr.heap[k]? := by
  have := hb1.size
  rw [hg.block k (by simp; omega) (fun e => hne e.symm), Below.heap_alloc _ _ _ (by omega), hb1.block k hk]

theorem own_ne_type {w : World} {B n : Nat} {e t : TypeId} {size : Nat} {v : Value} {xs : List Value} {k : Nat} {cs : Array Value} {f : Nat × Nat} (h : w.ownsRow B e size v n xs) (hk : w.heap[k]? = some (.cells cs t f)) (ht : e ≠ t) : v.ownBlock ≠ some k := fun e' => by
  obtain ⟨cur, hc⟩ := own_blockB h e'
  exact absurd rfl (ne_of_types hc hk ht)

theorem Loan1.next {B : Nat} {w0 : World} {n : Net} {bx : Obj} {gs gr : Nat} {rooms : Value} {G : Nat → Nat} {IA : Nat → Option Addr} {IC : Nat → Nat} {vW : Value} {i : Nat} {wr w1 w2 : World} (h : Loan1 B w0 n bx gs gr rooms G IA IC vW i wr) (hi : i < n.sources.length)
    {ia : Option Addr} {ic g cap : Nat} {o : Obj} (hb1 : Below wr.heap.size wr w1) (hl : Lentd w1 wr.heap.size (.slice ia (wordsOf n i).length ic) (wordsOf n i))
    (ho : w2.ownsRow (B + 2) 22 1 (.slice (some ⟨g, 0, none⟩) (i + 1) cap) (i + 1) ((List.range i).map (fun t => ownV (G t) (wordsOf n t).length) ++ [ownV wr.heap.size (wordsOf n i).length])) (hg : (w1.alloc o).grownBy w2 vW.ownBlock) :
    w2.heap[B]? = some bx ∧ w2.heap[B + 1]? = wr.heap[B + 1]? ∧ w2.heap[gr]? = wr.heap[gr]? ∧ Below B w0 w2 ∧ gr ≠ B + 1 ∧
    Loan1 B w0 n bx gs gr rooms (fun t => if t = i then wr.heap.size else G t) (fun t => if t = i then ia else IA t) (fun t => if t = i then ic else IC t) (.slice (some ⟨g, 0, none⟩) (i + 1) cap) (i + 1)
      (((w2.setCell ⟨B + 1, 4, none⟩ (.slice (some ⟨g, 0, none⟩) (i + 1) cap)).setCell ⟨gr, i * 2, none⟩ (.int .i64 (n.sources.getD i ⟨0, []⟩).stream)).setCell ⟨gr, i * 2 + 1, none⟩ (.slice ia (wordsOf n i).length ic)) := by
  have hsz1 := hb1.size
  have hB1 := lt_of_blk h.blk
  obtain ⟨csr, hcr⟩ := h.src.blk
  have keep : ∀ k, k < wr.heap.size → vW.ownBlock ≠ some k → w2.heap[k]? = wr.heap[k]? := fun k hk hne => kept_append hb1 hg hk hne
  have low : ∀ k, k < B + 2 → k < wr.heap.size → w2.heap[k]? = wr.heap[k]? := fun k hk hk' => keep k hk' fun e => by have := own_baseB h.words.row e; omega
  have hgr2 : w2.heap[gr]? = wr.heap[gr]? := keep gr (lt_of_blk hcr) (own_ne_type h.words.row hcr (by decide))
  have hne1 : gr ≠ B + 1 := by have := h.ger; omega
  have hng := lt_of_blk hl.blk
  have hnew : w2.heap[wr.heap.size]? = w1.heap[wr.heap.size]? := by
    rw [hg.block _ (by simp; omega) (fun e => ?_), Below.heap_alloc _ _ _ hng]
    have := (h.words.row.lt _ e.symm).2
    omega
  have hb2 : Below B w0 w2 := h.below.trans ⟨hg.os.trans hb1.os, hg.tape.trans hb1.tape, hg.output.trans hb1.output, Nat.le_trans hsz1 (Nat.le_trans (by simp) hg.size), fun k hk => low k (by omega) (by omega)⟩
  have hgg : B + 2 ≤ g := own_baseB ho rfl
  have hset : ∀ k, k ≠ B + 1 → k ≠ gr → ∀ v1 v2 v3, (((w2.setCell ⟨B + 1, 4, none⟩ v1).setCell ⟨gr, i * 2, none⟩ v2).setCell ⟨gr, i * 2 + 1, none⟩ v3).heap[k]? = w2.heap[k]? := fun k h1 h2 v1 v2 v3 => by
    rw [heap_setCell_other _ _ _ _ h2, heap_setCell_other _ _ _ _ h2, heap_setCell_other _ _ _ _ h1]
  have hgrt : ∀ k cs t, wr.heap[k]? = some (.cells cs t (0, 0)) → t ≠ 42 → k ≠ gr := fun k cs t hk ht => ne_of_types hk hcr ht
  refine ⟨(low B (by omega) (by omega)).trans h.box, low (B + 1) (by omega) hB1, hgr2, hb2, hne1, ⟨?_, ?_, ?_, ⟨?_, fun t ht => ?_, fun s t hst ht => ?_, fun t ht => ?_, fun t ht => ?_⟩, ?_, h.ges, h.ger, ?_⟩⟩
  · rw [hset _ (by omega) (by have := h.ger; omega), low B (by omega) (by omega)]; exact h.box
  · rw [heap_setCell_other _ _ _ _ (fun e => hne1 e.symm), heap_setCell_other _ _ _ _ (fun e => hne1 e.symm)]
    exact blk_set (l := [_, _, _, _, _, _, _, _]) ((low (B + 1) (by omega) hB1).trans h.blk) 4 _
  · have hlt := lt_of_blk h.str.blk
    refine h.str.frame ?_
    rw [hset _ (by have := h.ges; omega) (hgrt _ _ _ h.str.blk (by decide)), keep gs hlt (own_ne_type h.words.row h.str.blk (by decide))]
  · have e := map_range_snoc (fun t => ownV (G t) (wordsOf n t).length) (fun t => ownV (if t = i then wr.heap.size else G t) (wordsOf n t).length) i (ownV wr.heap.size (wordsOf n i).length) (fun t ht => by rw [if_neg (by omega)]) (by rw [if_pos rfl])
    rw [e]
    refine own_of_blockB ho fun k hk => hset k ?_ ?_ _ _ _
    · have := own_baseB ho hk; omega
    · obtain ⟨cur, hc⟩ := own_blockB ho hk
      exact ne_of_types hc (hgr2.trans hcr) (by decide)
  · by_cases e : t = i
    · subst e
      simp only [if_true]
      refine hl.frame ?_
      rw [hset _ (by omega) (fun e => by have := lt_of_blk hcr; omega), hnew]
    · simp only [e, if_false]
      have hw := h.words.words t (by omega)
      have hlt := lt_of_blk hw.blk
      refine hw.frame ?_
      rw [hset _ (by have := h.words.ge t (by omega); omega) (hgrt _ _ _ hw.blk (by decide)), keep _ hlt (own_ne_type h.words.row hw.blk (by decide))]
  · by_cases e : t = i
    · subst e
      have hs : s ≠ t := by omega
      simp only [hs, if_false, if_true]
      have := lt_of_blk (h.words.words s (by omega)).blk
      omega
    · have hs : s ≠ i := by omega
      simp only [e, hs, if_false]
      exact h.words.inj s t hst (by omega)
  · by_cases e : t = i
    · simp only [e, if_true]
      have := lt_of_blk h.str.blk
      omega
    · simp only [e, if_false]; exact h.words.ne t (by omega)
  · by_cases e : t = i
    · simp only [e, if_true]; omega
    · simp only [e, if_false]; exact h.words.ge t (by omega)
  · refine SrcRow.next (h.src.frame ?_) hi ia ic
    rw [heap_setCell_other _ _ _ _ hne1, hgr2]
  · exact ((hb2.setCell (p := ⟨B + 1, 4, none⟩) (by show B ≤ B + 1; omega) _).setCell (p := ⟨gr, i * 2, none⟩) (by have := h.ger; show B ≤ gr; omega) _).setCell (p := ⟨gr, i * 2 + 1, none⟩) (by have := h.ger; show B ≤ gr; omega) _

end Go.Proofs.YthfdgdfnflilfaaGreatDoor
/- Nets that are lent: the second loop of lent, and the loan. -/
namespace Go.Proofs.YthfdgdfnflilfaaGreatDoor
open Go.RowKit Go.Conc

/-- The second loop of lent: j workers are there. -/
structure Loan2 (B : Nat) (w0 : World) (n : Net) (bx : Obj) (L : LoanL) (C : Nat → Nat) (vC : Value) (j : Nat) (wr : World) : Prop where
  box : wr.heap[B]? = some bx
  blk : wr.heap[B + 1]? = some (.cells #[L.rooms, .slice none 0 0, .slice none 0 0, ownV L.gs n.streams.length, L.vW, ownV L.gr n.sources.length, vC, ownV L.gw n.workers.length] 61 (0, 0))
  str : Lentd wr L.gs L.rooms n.streams
  words : WordsAt (B + 2) wr n L.gs L.G L.IA L.IC L.vW n.sources.length
  src : SrcRow wr L.gr n.sources L.IA L.IC n.sources.length
  codes : CodesAt (B + 2) wr n.workers C vC j
  wks : WkRow wr L.gw n.workers C j
  ne : vC.ownBlock ≠ some L.gw
  ges : B + 2 ≤ L.gs
  ger : B + 2 ≤ L.gr
  gew : B + 2 ≤ L.gw
  below : Below B w0 wr

theorem Loan2.next {B : Nat} {w0 : World} {n : Net} {bx : Obj} {L : LoanL} {C : Nat → Nat} {vC : Value} {j : Nat} {wr w1 w2 : World} (h : Loan2 B w0 n bx L C vC j wr) (hj : j < n.workers.length)
    {g cap H : Nat} {o : Obj} (hb1 : Below wr.heap.size wr w1) (hl : w1.heap[wr.heap.size]? = some (.cells (codeRow (n.workers.getD j [] ++ [⟨80, 0, 0, 0⟩])).toArray 44 (0, 0)))
    (ho : w2.ownsRow (B + 2) 45 1 (.slice (some ⟨g, 0, none⟩) (j + 1) cap) (j + 1) ((List.range j).map (fun t => ownV (C t) (n.workers.getD t []).length) ++ [ownV wr.heap.size (n.workers.getD j []).length])) (hg : (w1.alloc o).grownBy w2 vC.ownBlock) (hor : vC.ownBlock = some g ∨ g = H) (hH : wr.heap.size ≤ H) :
    w2.heap[B]? = some bx ∧ w2.heap[B + 1]? = wr.heap[B + 1]? ∧ w2.heap[L.gw]? = wr.heap[L.gw]? ∧ Below B w0 w2 ∧ L.gw ≠ B + 1 ∧
    Loan2 B w0 n bx L (fun t => if t = j then wr.heap.size else C t) (.slice (some ⟨g, 0, none⟩) (j + 1) cap) (j + 1)
      ((w2.setCell ⟨B + 1, 6, none⟩ (.slice (some ⟨g, 0, none⟩) (j + 1) cap)).setCell ⟨L.gw, j, none⟩ (.slice (some ⟨wr.heap.size, 0, none⟩) (n.workers.getD j []).length ((n.workers.getD j []).length + 1))) := by
  have hsz1 := hb1.size
  have hB1 := lt_of_blk h.blk
  obtain ⟨csr, hcr⟩ := h.src.blk
  obtain ⟨csw, hcw⟩ := h.wks.blk
  have hgwl := lt_of_blk hcw
  have keep : ∀ k, k < wr.heap.size → vC.ownBlock ≠ some k → w2.heap[k]? = wr.heap[k]? := fun k hk hne => kept_append hb1 hg hk hne
  have low : ∀ k, k < B + 2 → k < wr.heap.size → w2.heap[k]? = wr.heap[k]? := fun k hk hk' => keep k hk' fun e => by have := own_baseB h.codes.row e; omega
  have hgw2 : w2.heap[L.gw]? = wr.heap[L.gw]? := keep L.gw hgwl h.ne
  have hne1 : L.gw ≠ B + 1 := by have := h.gew; omega
  have hng := lt_of_blk hl
  have hnew : w2.heap[wr.heap.size]? = w1.heap[wr.heap.size]? := by
    rw [hg.block _ (by simp; omega) (fun e => ?_), Below.heap_alloc _ _ _ hng]
    have := (h.codes.row.lt _ e.symm).2
    omega
  have hb2 : Below B w0 w2 := h.below.trans ⟨hg.os.trans hb1.os, hg.tape.trans hb1.tape, hg.output.trans hb1.output, Nat.le_trans hsz1 (Nat.le_trans (by simp) hg.size), fun k hk => low k (by omega) (by omega)⟩
  have hgg : B + 2 ≤ g := own_baseB ho rfl
  have hggw : g ≠ L.gw := fun e => by
    rcases hor with h1 | h1
    · exact h.ne (by rw [h1, e])
    · omega
  have hset : ∀ k, k ≠ B + 1 → k ≠ L.gw → ∀ v1 v2, ((w2.setCell ⟨B + 1, 6, none⟩ v1).setCell ⟨L.gw, j, none⟩ v2).heap[k]? = w2.heap[k]? := fun k h1 h2 v1 v2 => by
    rw [heap_setCell_other _ _ _ _ h2, heap_setCell_other _ _ _ _ h1]
  have hgt : ∀ k cs t, wr.heap[k]? = some (.cells cs t (0, 0)) → t ≠ 45 → k ≠ L.gw := fun k cs t hk ht => ne_of_types hk hcw ht
  have old : ∀ k cs t, wr.heap[k]? = some (.cells cs t (0, 0)) → t ≠ 45 → B + 2 ≤ k → ∀ v1 v2, ((w2.setCell ⟨B + 1, 6, none⟩ v1).setCell ⟨L.gw, j, none⟩ v2).heap[k]? = wr.heap[k]? := fun k cs t hk ht hge v1 v2 => by
    rw [hset k (by omega) (hgt k cs t hk ht), keep k (lt_of_blk hk) (own_ne_type h.codes.row hk (fun e => ht e.symm))]
  refine ⟨(low B (by omega) (by omega)).trans h.box, low (B + 1) (by omega) hB1, hgw2, hb2, hne1, ⟨?_, ?_, ?_, ?_, ?_, ⟨?_, fun t ht => ?_, fun s t hst ht => ?_, fun t ht => ?_⟩, ?_, ?_, h.ges, h.ger, h.gew, ?_⟩⟩
  · rw [hset _ (by omega) (by have := h.gew; omega), low B (by omega) (by omega)]; exact h.box
  · rw [heap_setCell_other _ _ _ _ (fun e => hne1 e.symm)]
    exact blk_set (l := [_, _, _, _, _, _, _, _]) ((low (B + 1) (by omega) hB1).trans h.blk) 6 _
  · exact h.str.frame (old _ _ _ h.str.blk (by decide) h.ges _ _)
  · refine h.words.frame (fun k hk => ?_) (fun t ht => old _ _ _ (h.words.words t ht).blk (by decide) (h.words.ge t ht) _ _)
    obtain ⟨cur, hc⟩ := own_blockB h.words.row hk
    exact old _ _ _ hc (by decide) (own_baseB h.words.row hk) _ _
  · exact h.src.frame (old _ _ _ hcr (by decide) h.ger _ _)
  · have e := map_range_snoc (fun t => ownV (C t) (n.workers.getD t []).length) (fun t => ownV (if t = j then wr.heap.size else C t) (n.workers.getD t []).length) j (ownV wr.heap.size (n.workers.getD j []).length) (fun t ht => by rw [if_neg (by omega)]) (by rw [if_pos rfl])
    rw [e]
    refine own_of_blockB ho fun k hk => ?_
    have : k = g := by simpa [Value.ownBlock] using hk.symm
    subst this
    exact hset _ (by omega) hggw _ _
  · by_cases e : t = j
    · subst e
      simp only [if_true]
      rw [hset _ (by omega) (fun e => by omega), hnew]
      exact hl
    · simp only [e, if_false]
      rw [old _ _ _ (h.codes.codes t (by omega)) (by decide) (h.codes.ge t (by omega))]
      exact h.codes.codes t (by omega)
  · by_cases e : t = j
    · subst e
      have hs : s ≠ t := by omega
      simp only [hs, if_false, if_true]
      have := lt_of_blk (h.codes.codes s (by omega))
      omega
    · have hs : s ≠ j := by omega
      simp only [e, hs, if_false]
      exact h.codes.inj s t hst (by omega)
  · by_cases e : t = j
    · simp only [e, if_true]; omega
    · simp only [e, if_false]; exact h.codes.ge t (by omega)
  · refine WkRow.next (h.wks.frame ?_) hj _
    rw [heap_setCell_other _ _ _ _ hne1, hgw2]
  · intro e
    exact hggw (by simpa [Value.ownBlock] using e)
  · exact (hb2.setCell (p := ⟨B + 1, 6, none⟩) (by show B ≤ B + 1; omega) _).setCell (p := ⟨L.gw, j, none⟩) (by have := h.gew; show B ≤ L.gw; omega) _

/-- A net that is lent. -/
structure LoanAt (B : Nat) (L : LoanL) (w : World) (n : Net) : Prop where
  blk : w.heap[L.q]? = some (.cells #[L.rooms, .slice (some ⟨L.gr, 0, none⟩) n.sources.length (n.sources.length + 1), .slice (some ⟨L.gw, 0, none⟩) n.workers.length (n.workers.length + 1), ownV L.gs n.streams.length, L.vW, ownV L.gr n.sources.length, L.vC, ownV L.gw n.workers.length] 61 (0, 0))
  str : Lentd w L.gs L.rooms n.streams
  words : WordsAt B w n L.gs L.G L.IA L.IC L.vW n.sources.length
  src : SrcRow w L.gr n.sources L.IA L.IC n.sources.length
  codes : CodesAt B w n.workers L.C L.vC n.workers.length
  wks : WkRow w L.gw n.workers L.C n.workers.length
  ne : L.vC.ownBlock ≠ some L.gw
  ge : B ≤ L.q ∧ B ≤ L.gs ∧ B ≤ L.gr ∧ B ≤ L.gw

theorem own_lower {w : World} {B B' n : Nat} {e : TypeId} {size : Nat} {v : Value} {xs : List Value} (h : w.ownsRow B e size v n xs) (hB : B' ≤ B) : w.ownsRow B' e size v n xs := by
  obtain ⟨h1, h2⟩ := h
  refine ⟨h1, h2.imp id fun ⟨g, cap, cur, hv, hb, r⟩ => ⟨g, cap, cur, hv, Nat.le_trans hB hb, r⟩⟩

/-- The loan's net is the net. -/
theorem LoanAt.net {B : Nat} {L : LoanL} {w : World} {n : Net} (h : LoanAt B L w n) (hs : ShortNet n) : NetAt w (.agg #[L.rooms, .slice (some ⟨L.gr, 0, none⟩) n.sources.length (n.sources.length + 1), .slice (some ⟨L.gw, 0, none⟩) n.workers.length (n.workers.length + 1)]) n := by
  obtain ⟨s1, s2, s3, s4, s5⟩ := hs
  obtain ⟨cs, c1, c2, c3, -, -, -⟩ := h.src.ex
  obtain ⟨ds, d1, d2, d3, -⟩ := h.wks.ex
  refine ⟨_, _, _, rfl, h.str.ints s1, ⟨fun i => .slice (L.IA i) (wordsOf n i).length (L.IC i), ⟨_, _, rfl, by omega, by omega, Or.inr ⟨L.gr, 0, rfl, fun i hi j hj => ?_⟩⟩, fun i hi => ?_⟩, ⟨fun i => .slice (some ⟨L.C i, 0, none⟩) (n.workers.getD i []).length ((n.workers.getD i []).length + 1), ⟨_, _, rfl, by omega, by omega, Or.inr ⟨L.gw, 0, rfl, fun i hi j hj => ?_⟩⟩, fun i hi => ?_⟩⟩
  · rw [Nat.zero_add]
    obtain ⟨q1, q2⟩ := c3 i hi
    have hc : j = 0 ∨ j = 1 := by omega
    rcases hc with rfl | rfl
    · exact row_cell c1 q1
    · exact row_cell c1 q2
  · have e : n.sources[i].words = wordsOf n i := by unfold wordsOf; rw [getD_eq _ _ _ hi]
    rw [e]
    refine (h.words.words i hi).ints ?_
    rw [← e]
    exact (s4 _ (List.getElem_mem hi)).1
  · rw [Nat.zero_add]
    have hc : j = 0 := by omega
    subst hc
    have := row_cell d1 (d3 i hi)
    simpa using this
  · have e : n.workers[i] = n.workers.getD i [] := by rw [getD_eq _ _ _ hi]
    have hl : (n.workers.getD i []).length ≤ 1048576 := by rw [← e]; exact (s5 _ (List.getElem_mem hi)).1
    rw [e]
    refine ⟨_, _, rfl, by omega, by omega, Or.inr ⟨L.C i, 0, rfl, fun t ht j hj => ?_⟩⟩
    rw [Nat.zero_add]
    refine row_cell (h.codes.codes i hi) ?_
    have hc := codeRow_get (n.workers.getD i [] ++ [⟨80, 0, 0, 0⟩]) t (by rw [List.length_append]; omega) j hj
    rw [hc]
    dsimp only
    rw [getD_eq _ _ _ ht, List.getElem_append_left ht]

end Go.Proofs.YthfdgdfnflilfaaGreatDoor
/- Lists that come back: backInts. -/
namespace Go.Proofs.YthfdgdfnflilfaaGreatDoor
open Go.RowKit Go.Conc

/-- Block g is the book's from now on, and whatever is new is row r's. -/
def recol (col : Nat → Nat) (g n r : Nat) : Nat → Nat := fun b => if b = g then 8 else if b < n then col b else r

theorem recol_g (col : Nat → Nat) (g n r : Nat) : recol col g n r g = 8 := by simp [recol]
theorem recol_old (col : Nat → Nat) (g n r b : Nat) (h : b ≠ g) (hb : b < n) : recol col g n r b = col b := by simp [recol, h, hb]
theorem recol_new (col : Nat → Nat) (g n r b : Nat) (h : b ≠ g) (hb : n ≤ b) : recol col g n r b = r := by simp [recol, h, Nat.not_lt.2 hb]

theorem setCell_over {w : World} {g i : Nat} {cs : List Value} {t : TypeId} {v : Value} (h : w.heap[g]? = some (.cells (List.replicate i v ++ cs.drop i).toArray t (0, 0))) (hi : i < cs.length) :
    (w.setCell ⟨g, i, none⟩ v).heap[g]? = some (.cells (List.replicate (i + 1) v ++ cs.drop (i + 1)).toArray t (0, 0)) := by
  have := blk_set h i v
  rw [this]
  congr 3
  rw [List.set_append_right _ _ (by simp)]
  simp only [List.length_replicate, Nat.sub_self]
  have hd : cs.drop i = cs[i] :: cs.drop (i + 1) := List.drop_eq_getElem_cons hi
  rw [hd, List.set_cons_zero, List.replicate_succ']
  simp

theorem over_get {i : Nat} {cs : List Value} {v : Value} (hi : i < cs.length) : (List.replicate i v ++ cs.drop i)[i]? = some cs[i] := by
  rw [List.getElem?_append_right (by simp)]
  simp [hi]

theorem replicate_sl {w : World} {g n : Nat} {v : Value} {t : TypeId} (h : w.heap[g]? = some (.cells (List.replicate n v).toArray t (0, 0))) (hn : n ≤ 140737488355328) : Sl w (.slice (some ⟨g, 0, none⟩) n n) n 1 fun _ _ => v := by
  refine ⟨_, _, rfl, hn, Nat.le_refl _, Or.inr ⟨g, 0, rfl, fun i hi j hj => ?_⟩⟩
  refine row_cell h ?_
  have : 0 + i * 1 + j = i := by omega
  rw [this]
  simp [hi]

/-- What came of a list that came back. -/
structure Backed (base : Nat) (col : Nat → Nat) (w : World) (p : Nat) (v0 : Value) (c g : Nat) (w' : World) : Prop where
  ex : ∃ col', Bk base col' w' p v0 (c + 1) ∧ (∀ b, b < w.heap.size → b ≠ g → col' b = col b) ∧ (∀ b, w.heap.size ≤ b → col' b ≤ 8) ∧ col' g = 8
  fr : Fr (fun b => b = g ∨ (base ≤ b ∧ col b ≤ 8)) w w'

/-- An append of a list that was turned over, to row r. -/
theorem Backed.push {base : Nat} {col : Nat → Nat} {w w1 w2 : World} {p : Nat} {v0 : Value} {c m g r : Nat} {v u : Value} {vals : List Value} {gr gcap H : Nat} {o : Obj} (hr1 : 3 ≤ r) (hr7 : r ≤ 7) (hb : Bk base col w p v0 c)
    (hcell : w.cell? ⟨p, r, none⟩ = some v) (hrow : w.ownsRow base (rowT r) 1 v vals.length vals) (hcv : ∀ g, v.ownBlock = some g → col g = r) (hle : vals.length ≤ c) (h6 : ∀ i (h : i < vals.length), ∃ m, Sl w vals[i] m (rowSz r) (rowF r i)) (h7 : ∀ x ∈ vals, ∀ g, x.ownBlock = some g → g < w.heap.size ∧ col g = 8)
    (hg : base ≤ g) (hcg : 8 < col g) (hgl : g < w.heap.size) (hf : Fr (fun b => b = g) w w1)
    (hown : w2.ownsRow base (rowT r) 1 (.slice (some ⟨gr, 0, none⟩) (vals.length + 1) gcap) (vals.length + 1) (vals ++ [u])) (hgr : (w1.alloc o).grownBy w2 v.ownBlock) (hor : v.ownBlock = some gr ∨ gr = H) (hH : w.heap.size ≤ H)
    (hu : Sl w1 u m (rowSz r) (rowF r vals.length)) (hug : ∀ b, u.ownBlock = some b → b = g) :
    Backed base col w p v0 c g (w2.setCell ⟨p, r, none⟩ (.slice (some ⟨gr, 0, none⟩) (vals.length + 1) gcap)) := by
  obtain ⟨cs, hp, hl⟩ := hb.blk
  have hpl := lt_of_blk hp
  have hgp : g ≠ p := fun e => by rw [e, hb.colp] at hcg; omega
  have hvg : v.ownBlock ≠ some g := fun e => by have := hcv g e; omega
  have hsz1 := hf.size
  have keep : ∀ b, b < w.heap.size → b ≠ g → v.ownBlock ≠ some b → w2.heap[b]? = w.heap[b]? := fun b h1 h2 h3 => by
    rw [hgr.block b (by simp; omega) (fun e => h3 e.symm), Below.heap_alloc _ _ _ (by omega), hf.block b h1 h2]
  have hbase : base ≤ w.heap.size := Nat.le_trans hb.ge (Nat.le_of_lt hpl)
  have hgrr : recol col g w.heap.size r gr = r := by
    rcases hor with h1 | h1
    · have := hrow.lt gr h1
      rw [recol_old _ _ _ _ _ (fun e => hvg (by rw [← e]; exact h1)) this.2]; exact hcv gr h1
    · exact recol_new _ _ _ _ _ (by omega) (by omega)
  refine ⟨⟨recol col g w.heap.size r, ?_, fun b h1 h2 => recol_old _ _ _ _ _ h2 h1, fun b h1 => ?_, recol_g _ _ _ _⟩, ?_⟩
  · refine BkM.push (v := v) (col := col) (w := w) (md := rowMd) r (by omega) hr7 hb hle h6 h7 hown (fun b h1 h2 h3 => keep b h1 (fun e => by rw [e] at h3; omega) h2) (Nat.le_trans hsz1 (Nat.le_trans (by simp) hgr.size)) hcv (fun b h1 h2 => recol_old _ _ _ _ _ (fun e => by rw [e] at h2; omega) h1) (fun b h1 => ?_) hgrr ?_ (hu.frame fun b hb' => ?_) (fun b hb' => ?_) ?_ (fun _ _ => rfl)
    · rw [recol_old _ _ _ _ _ (by omega) (by omega)]; exact hb.low b h1
    · rcases hor with h1 | h1
      · intro e; have := hcv gr h1; rw [e, hb.colp] at this; omega
      · omega
    · have := hug b hb'
      subst this
      rw [hgr.block b (by simp; omega) (fun e => hvg e.symm), Below.heap_alloc _ _ _ (by omega)]
    · have := hug b hb'
      subst this
      have := hgr.size
      simp at this
      exact ⟨by omega, recol_g _ _ _ _, hgp⟩
    · have : rowMd r = 1 := by
        rcases (show r = 3 ∨ r = 4 ∨ r = 5 ∨ r = 6 ∨ r = 7 by omega) with rfl | rfl | rfl | rfl | rfl <;> rfl
      rw [this, Nat.mod_one]
  · by_cases e : b = g
    · omega
    · rw [recol_new _ _ _ _ _ e h1]; omega
  · refine Fr.setCell (S := fun b => b = g ∨ (base ≤ b ∧ col b ≤ 8)) ?_ (p := ⟨p, r, none⟩) (Or.inr (Or.inr ⟨hb.ge, by rw [hb.colp]; omega⟩)) _
    refine Fr.grown ((hf.mono fun k _ hk => Or.inl hk).alloc o) hgr fun k hk => Or.inr (Or.inr ⟨(hrow.lt k hk).1, by have := hcv k hk; omega⟩)

set_option maxRecDepth 100000 in
set_option maxHeartbeats 4000000 in
theorem backInts_calls {base : Nat} {col : Nat → Nat} {w : World} {p : Nat} {v0 : Value} {c g : Nat} {l : List Int} {vl : Value} (hb : Bk base col w p v0 c) (hl : w.heap[g]? = some (.cells (intRow (l ++ [78])).toArray 3 (0, 0))) (hg : base ≤ g) (hcg : 8 < col g) (hi : IntsAt w vl l) (hlen : l.length ≤ 1048576) (hc : c ≤ 1099511627776) :
    Calls Tryz.prog 29 #[.pointer (some ⟨p, 0, none⟩), .slice (some ⟨g, 0, none⟩) (l.length + 1) (l.length + 1), vl] w fun e w' => e = .returned (.bool true) ∧ Backed base col w p v0 c g w' := by
  obtain ⟨iI, hiI, hI0, hI1, hI2⟩ := info_parts Tryz.infoLI
  obtain ⟨v, vals, q1, q2, q3, q4, q5, q6, q7⟩ := (hb.rows 4 (by decide) (by decide)).ex
  have q2' : w.ownsRow base 22 1 v vals.length vals := q2
  obtain ⟨cs, hp, hpl⟩ := hb.blk
  have hgl := lt_of_blk hl
  have hgp : g ≠ p := fun e => by rw [e, hb.colp] at hcg; omega
  have hvg : v.ownBlock ≠ some g := fun e => by have := q3 g e; omega
  have hvp : v.ownBlock ≠ some p := fun e => by have := q3 p e; rw [hb.colp] at this; omega
  have hown : IntsAt w (.slice (some ⟨g, 0, none⟩) l.length (l.length + 1)) l := (Lentd.mk (w := w) (g := g) (u := .slice (some ⟨g, 0, none⟩) l.length (l.length + 1)) (l := l) hl (Or.inl rfl)).ints hlen
  have HSm : Hid (Calls Tryz.prog 60 #[.slice (some ⟨g, 0, none⟩) l.length (l.length + 1), vl] w fun e w' => e = .returned (.bool true) ∧ ∃ q, w' = w.drewN q) := sameInts_calls hown hi
  have h78 : ∀ q, (w.drewN q).cell? ⟨g, l.length, none⟩ = some (.int .i64 78) := fun q => by
    refine row_cell (w := w.drewN q) hl ?_
    simp [intRow]
  obtain ⟨av, cv, rfl⟩ := own_slice q2'
  obtain ⟨al, cl, rfl, -, -, -⟩ := hi.open
  have hbase : base ≤ w.heap.size := Nat.le_trans hb.ge (Nat.le_of_lt (lt_of_blk hp))
  have HFin : Hid (∀ w1 w2 gr gcap o H, Fr (fun b => b = g) w w1 → w1.heap[g]? = some (.cells (List.replicate (l.length + 1) (.int .i64 (-7))).toArray 3 (0, 0)) → w2.ownsRow base 22 1 (.slice (some ⟨gr, 0, none⟩) (vals.length + 1) gcap) (vals.length + 1) (vals ++ [.slice (some ⟨g, 0, none⟩) (l.length + 1) (l.length + 1)]) → (w1.alloc o).grownBy w2 (Value.slice av vals.length cv).ownBlock → ((Value.slice av vals.length cv).ownBlock = some gr ∨ gr = H) → w.heap.size ≤ H →
      (∃ cs : List Value, w2.heap[p]? = some (.cells cs.toArray 35 (0, 0)) ∧ w2.cell? ⟨p, 4, none⟩ = some (.slice av vals.length cv)) ∧ Backed base col w p v0 c g (w2.setCell ⟨p, 4, none⟩ (.slice (some ⟨gr, 0, none⟩) (vals.length + 1) gcap))) := fun w1 w2 gr gcap o H hf h7 ho hgr hor hH => by
    have hsz1 := hf.size
    have hp2 : w2.heap[p]? = w.heap[p]? := by
      rw [hgr.block p (by have := lt_of_blk hp; simp; omega) (fun e => hvp e.symm), Below.heap_alloc _ _ _ (by have := lt_of_blk hp; omega), hf.block p (lt_of_blk hp) (fun e => hgp e.symm)]
    refine ⟨⟨cs, hp2.trans hp, (World.cell?_of_block (w := w) hp2).trans q1⟩, ?_⟩
    refine Backed.push (by decide) (by decide) hb q1 q2 q3 q4 q6 q7 hg hcg hgl hf ho hgr hor hH (m := l.length + 1) ?_ (fun b hb' => by simpa [Value.ownBlock] using hb'.symm)
    exact replicate_sl h7 (by omega)
  have HRow : Hid (∀ w1, Fr (fun b => b = g) w w1 → w1.ownsRow base 22 1 (.slice av vals.length cv) vals.length vals ∧ w1.cell? ⟨p, 4, none⟩ = some (.slice av vals.length cv)) := fun w1 hf =>
    ⟨own_of_blockB q2' fun k hk => hf.block k (q2'.lt k hk).2 (fun e => hvg (by rw [← e]; exact hk)), (World.cell?_of_block (w := w) (hf.block p (lt_of_blk hp) (fun e => hgp e.symm))).trans q1⟩
  have HL := hide hl
  have hll : (intRow (l ++ [78])).length = l.length + 1 := by simp [intRow]
  have h63 : vals.length + 1 ≤ maxLen := by unfold maxLen; omega
  have hbytes : (vals.length + 1) * 24 ≤ 140737488355328 := by omega
  clear hb hl hi hown q1 q2 q2' q3 q4 q5 q6 q7 hp hpl hvg hvp
  generalize intRow (l ++ [78]) = row at *
  generalize hn : l.length = n at *
  clear hn
  generalize vals.length = vn at *
  have hn0 : (0 : Int) ≤ (n : Int) := by omega
  have hn1 : (n : Int) ≤ (n : Int) + 1 := by omega
  have hn2 : (n : Int) < (n : Int) + 1 := by omega
  go_enter Tryz.func29, Tryz.ntmps29
  go_wp2_with fail
  refine (unhide HSm).mono ?_
  rintro e w1 ⟨rfl, q, rfl⟩
  have e78 := h78 q
  clear h78 HSm
  go_wp2
  go_loopw [10] (fun i wr => ∃ k : Nat, k ≤ n + 1 ∧ i = .int .i64 k ∧ Fr (fun b => b = g) w wr ∧ wr.heap[g]? = some (.cells (List.replicate k (Value.int .i64 (-7)) ++ row.drop k).toArray 3 (0, 0))) (fun i _ => n + 1 - (intOf i).toNat)
  case atStart => exact ⟨0, Nat.zero_le _, rfl, (Fr.refl _ w).drewN q, by simpa using HL.out⟩
  case round =>
    clear e78
    obtain ⟨k, hk, rfl, hf, hr⟩ := hrel
    by_cases hlt : k < n + 1
    · have hkr : k < row.length := by omega
      have c0 := row_cell hr (over_get hkr)
      have f0 := row_frozen hr k
      have HNx : Hid (Fr (fun b => b = g) w (wr.setCell ⟨g, k, none⟩ (.int .i64 (-7))) ∧ (wr.setCell ⟨g, k, none⟩ (.int .i64 (-7))).heap[g]? = some (.cells (List.replicate (k + 1) (Value.int .i64 (-7)) ++ row.drop (k + 1)).toArray 3 (0, 0))) :=
        ⟨Fr.setCell (S := fun b => b = g) hf (p := ⟨g, k, none⟩) (Or.inr rfl) _, setCell_over hr hkr⟩
      have hk0 : (0 : Int) ≤ (k : Int) := by omega
      have hk1 : (k : Int) < (n : Int) + 1 := by omega
      clear hf hr
      generalize row[k] = x at *
      go_wp2
      go_roundw
      case rel => exact ⟨k + 1, by omega, by go_num, HNx.out.1, HNx.out.2⟩
      case measure => simp [intOf]; omega
    · have hke : k = n + 1 := by omega
      subst hke
      have hr' : wr.heap[g]? = some (.cells (List.replicate (n + 1) (.int .i64 (-7))).toArray 3 (0, 0)) := by
        rw [hr, List.drop_of_length_le (by omega), List.append_nil]
      obtain ⟨hro, c4⟩ := HRow.out wr hf
      have hszr := hf.size
      have HRo := hide hro
      have HF2 := hide (fun w2 gr gcap o H => HFin.out wr w2 gr gcap o H hf hr')
      clear hr hr' hf hro HFin HRow HL
      go_wp2_with (at_builtin; refine wpList_append_lies _ rfl (.tmp 39) (.tmp 41) 31 rfl base 22 iI (.slice none 0 0) 1 24 Tryz.underlying31 hiI hI0 hI1 hI2 rfl (by decide) (.slice av vn cv) vn vals rfl (HRo.out.alloc _) ⟨wr.heap.size, 0, none⟩ 1 1 [.slice (some ⟨g, 0, none⟩) (n + 1) (n + 1)] rfl rfl ?c1 ?c2 (by decide) h63 hbytes (by simp; omega) (wr.heap.size + 1) (by simp) ?_)
      (try case c1 => exact cell_one_new _ _ _)
      case c2 => first | rfl | (intro u hu; simp at hu; subst hu; rfl)
      intro gr gc w2 ho hgr hor hglt
      obtain ⟨⟨cs2, y1, y2⟩, y3⟩ := HF2.out w2 gr gc _ _ ho hgr hor (by omega)
      have yf := row_frozen y1 4
      have Y3 := hide y3
      clear ho hgr hor hglt HF2 y1 y3 c4 HRo
      go_wp2
      go_ret
      exact ⟨rfl, Y3.out⟩

end Go.Proofs.YthfdgdfnflilfaaGreatDoor

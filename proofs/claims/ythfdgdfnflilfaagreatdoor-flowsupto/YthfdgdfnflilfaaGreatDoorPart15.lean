/- Part 15: Make6, Make7, Make8, Make9, Keep1, Keep2, Opens1, Opens2. -/
import Derived.Test.YthfdgdfnflilfaaGreatDoorPart14
/- newStreams: the walk. -/
namespace Go.Proofs.YthfdgdfnflilfaaGreatDoor
open Go.RowKit Go.Conc

set_option maxRecDepth 100000 in
set_option maxHeartbeats 1000000 in
theorem newStreams_calls {n : Net} {v : Value} {w : World} (h : NetAt w v n) (hok : validB n = true) :
    Calls Tryz.prog 24 #[v] w fun e w' => ∃ g, e = .returned (.slice (some ⟨g, 0, none⟩) n.streams.length n.streams.length) ∧ Loop2 w.heap.size g n n.sources.length w' ∧ Below w.heap.size w w' := by
  have hl8 := (valid_counts hok).2.1
  have hNet := h
  obtain ⟨vs, vr, vw, rfl, h1, h2, h3⟩ := h
  obtain ⟨sa, sc, rfl, hsn, -, hcs⟩ := h1.open
  obtain ⟨ar, cr, rfl, hrn, -, hcr⟩ := h2.open
  obtain ⟨aw, cw, rfl⟩ := h3.form
  have hsv : ∀ k (hk : k < n.streams.length), 1 ≤ n.streams[k] ∧ n.streams[k] ≤ 6 := fun k hk => by
    simp only [validB, validStreamsB, Bool.and_eq_true] at hok
    have := List.all_eq_true.1 hok.1.1.1.2 n.streams[k] (List.getElem_mem hk)
    simpa using this
  have hmk := run_make_row' (P := Tryz.prog) 71 70 (.pointer none) 8 Tryz.underlying71 Tryz.infoPS rfl .i64 .i64 n.streams.length (by omega) (by omega)
  rw [madeCells_zrow] at hmk
  have HH : Hid (∀ wx, Below w.heap.size w wx → ∀ k : Nat, Calls Tryz.prog 53 #[.agg #[.slice sa n.streams.length sc, .slice ar n.sources.length cr, .slice aw n.workers.length cw], .int .i64 (k : Int)] wx fun e w' => e = .returned (.bool (used n k)) ∧ Below wx.heap.size wx w') := fun wx hx k => hasReader_calls k (hNet.below hx)
  have HS : Hid (∀ wr, Below w.heap.size w wr → ∀ k (hk : k < n.streams.length), ∃ b off, sa = some ⟨b, off, none⟩ ∧ wr.cell? ⟨b, off + k, none⟩ = some (.int .i64 ((plainM n k).room : Nat))) := fun wr hb k hk => by
    obtain ⟨b, off, ha, hc⟩ := hcs wr hb k hk
    refine ⟨b, off, ha, ?_⟩
    have := hsv k hk
    rw [hc]; simp only [plainM]; rw [getD_eq _ _ _ hk]
    congr 2; omega
  have HR : Hid (∀ k, k < n.streams.length → ∀ wx : World, Calls Tryz.prog 54 #[.int .i64 ((plainM n k).room : Nat)] wx fun e w' => NewSt wx false (plainM n k) true e w') := fun k hk wx => by
    have := hsv k hk
    refine withRoom_calls wx (plainM n k).room ?_
    simp only [plainM]; rw [getD_eq _ _ _ hk]; omega
  have HU : Hid (∀ k, ∀ wx : World, Calls Tryz.prog 55 #[.int .i64 ((plainM n k).room : Nat)] wx fun e w' => NewSt wx false (plainM n k) false e w') := fun k wx => unread_calls wx _
  have HZ : Hid (∀ (w1 : World), w.heap.size ≤ w1.heap.size → Loop1 w.heap.size w1.heap.size n 0 (w1.alloc (.cells (zrow (.pointer none) n.streams.length) 70))) := fun w1 hge => by
    refine ⟨fun _ => 0, fun _ => .bool false, fun _ => none, ⟨⟨(zrow (.pointer none) n.streams.length).toList, by simpa using heap_alloc_new _ _, by simp [zrow], fun i hi hd => by simp at hd⟩, fun i hi hd => by simp at hd, ⟨hge, fun i hi hd => by simp at hd⟩, fun i j hi hj hd => by simp at hd⟩, fun i hi => by omega⟩
  have HN1 : Hid (∀ k g wx w1 b e, Loop1 w.heap.size g n k wx → k < n.streams.length → w.heap.size ≤ wx.heap.size → b = used n k → NewSt wx false (plainM n k) b e w1 → ∃ p, e = .returned (.pointer (some ⟨p, 0, none⟩)) ∧ (∃ x, w1.cell? ⟨g, k, none⟩ = some x) ∧ w1.frozen? ⟨g, k, none⟩ = false ∧ Below wx.heap.size wx w1 ∧ Loop1 w.heap.size g n (k + 1) (w1.setCell ⟨g, k, none⟩ (.pointer (some ⟨p, 0, none⟩)))) := fun k g wx w1 b e hl hk hsz hb hn => hl.next hk hsz hb hn
  have HSt : Hid (∀ g wx, Loop1 w.heap.size g n n.streams.length wx → Loop2 w.heap.size g n 0 wx) := fun g wx hl => Loop2.start hl
  clear h1 h2 h3 hcs hsv hNet
  generalize n.workers.length = wl at *
  generalize hsl0 : n.streams.length = sl at *
  have HSL := hide hsl0
  clear hsl0
  go_enter Tryz.func24, Tryz.ntmps24
  go_wp2
  go_loopw [15] (fun i wr => ∃ (k : Nat), k ≤ sl ∧ i = .int .i64 k ∧ Below (w.heap.size + 1) (w.alloc (.cells #[.slice sa sl sc, .slice ar n.sources.length cr, .slice aw wl cw] 26)) wr ∧ Loop1 w.heap.size (w.heap.size + 1) n k wr) (fun i _ => sl - (intOf i).toNat)
  case atStart =>
    have hz := HZ.out (w.alloc (.cells #[.slice sa sl sc, .slice ar n.sources.length cr, .slice aw wl cw] 26)) (by simp)
    refine ⟨0, Nat.zero_le _, rfl, ?_, by simpa using hz⟩
    have hb0 : Below (w.heap.size + 1) (w.alloc (.cells #[.slice sa sl sc, .slice ar n.sources.length cr, .slice aw wl cw] 26)) (w.alloc (.cells #[.slice sa sl sc, .slice ar n.sources.length cr, .slice aw wl cw] 26)) := Below.refl _ _
    exact hb0.alloc (by simp) _
  case round =>
    obtain ⟨k, hk, rfl, hbl, hrow⟩ := hrel
    have hb0 : Below w.heap.size w wr := below_box hbl
    have HB := hide hbl
    have HRo := hide hrow
    have t0 : wr.heap[w.heap.size]? = some (.cells #[.slice sa sl sc, .slice ar n.sources.length cr, .slice aw wl cw] 26 (0, 0)) := by
      rw [hbl.block _ (by omega)]; exact heap_alloc_new _ _
    have z0 := blk_cell t0 0 _ rfl
    have z1 := blk_cell t0 1 _ rfl
    have z2 := blk_cell t0 2 _ rfl
    clear t0
    by_cases hlt : k < sl
    · obtain ⟨b, off, rfl, d0⟩ := HS.out wr hb0 k hlt
      have HH1 := hide (HH.out wr hb0 k)
      have hk0 : (0 : Int) ≤ (k : Int) := by omega
      have hk1 : (k : Int) < (sl : Int) := by omega
      have HB0 := hide hb0
      have HX : Hid (∀ wx w1 c e, Below wr.heap.size wr wx → c = used n k → NewSt wx false (plainM n k) c e w1 → ∃ p, e = .returned (.pointer (some ⟨p, 0, none⟩)) ∧ (∃ x, w1.cell? ⟨w.heap.size + 1, k, none⟩ = some x) ∧ w1.frozen? ⟨w.heap.size + 1, k, none⟩ = false ∧ Below (w.heap.size + 1) (w.alloc (.cells #[.slice (some ⟨b, off, none⟩) sl sc, .slice ar n.sources.length cr, .slice aw wl cw] 26)) (w1.setCell ⟨w.heap.size + 1, k, none⟩ (.pointer (some ⟨p, 0, none⟩))) ∧ Loop1 w.heap.size (w.heap.size + 1) n (k + 1) (w1.setCell ⟨w.heap.size + 1, k, none⟩ (.pointer (some ⟨p, 0, none⟩)))) := fun wx w1 c e hx hc hn => by
        have hsz : w.heap.size + 1 ≤ wr.heap.size := by have := hbl.size; simpa using this
        have hl' : Loop1 w.heap.size (w.heap.size + 1) n k wx := by
          obtain ⟨st, VW, CH, hr, hch⟩ := hrow
          exact ⟨st, VW, CH, hr.below hx, hch⟩
        obtain ⟨p, q1, q2, q3, q4, q5⟩ := HN1.out k (w.heap.size + 1) wx w1 c e hl' hlt (by have := hx.size; omega) hc hn
        refine ⟨p, q1, q2, q3, ?_, q5⟩
        have hb2 := (hbl.trans (hx.mono hsz)).trans (q4.mono (by have := hx.size; omega))
        exact hb2.setCell (p := ⟨w.heap.size + 1, k, none⟩) (Nat.le_refl _) _
      have HR1 := hide (HR.out k hlt)
      have HU1 := hide (HU.out k)
      clear hbl hrow hb0 HS HR HU HZ hmk HN1 HSt hcr HH
      generalize ((plainM n k).room : Nat) = rm at *
      go_wp2_with fail
      refine (unhide HH1).mono ?_
      rintro e w1 ⟨rfl, hb1⟩
      cases hy : used n k
      · go_wp2_with fail
        refine (unhide HU1 _).mono ?_
        intro e w2 hn
        obtain ⟨p, rfl, ⟨x, hx⟩, hfz, hb', hr'⟩ := HX.out w1 w2 false e hb1 hy.symm hn
        have HB' := hide hb'
        have HR' := hide hr'
        clear hb' hr' hn hy
        go_wp2
        go_roundw
        case rel => exact ⟨k + 1, by omega, by go_num, HB'.out, HR'.out⟩
        case measure => simp [intOf]; omega
      · go_wp2_with fail
        refine (unhide HR1 _).mono ?_
        intro e w2 hn
        obtain ⟨p, rfl, ⟨x, hx⟩, hfz, hb', hr'⟩ := HX.out w1 w2 true e hb1 hy.symm hn
        have HB' := hide hb'
        have HR' := hide hr'
        clear hb' hr' hn hy
        go_wp2
        go_roundw
        case rel => exact ⟨k + 1, by omega, by go_num, HB'.out, HR'.out⟩
        case measure => simp [intOf]; omega
    · have e : k = sl := by omega
      subst e
      have HL2 := hide (HSt.out _ _ hrow)
      have hsrc : ∀ j (hj : j < n.sources.length), inB n.sources[j].stream k = true ∧ n.sources[j].words.length ≤ 50 ∧ hasSourceB (n.sources.take j) n.sources[j].stream = false := fun j hj => by
        have hq : validSourcesB n.sources n.streams.length = true := by
          simp only [validB, Bool.and_eq_true] at hok; exact hok.1.1.2
        have := List.all_eq_true.1 hq j (List.mem_range.2 hj)
        rw [getD_eq _ _ _ hj] at this
        simp only [Bool.and_eq_true, decide_eq_true_eq, Bool.not_eq_true'] at this
        exact ⟨by rw [HSL.out] at this; exact this.1.1, this.1.2, this.2⟩
      have HC : Hid (∀ wx, Below w.heap.size w wx → ∀ j (hj : j < n.sources.length), ∃ (b off : Nat) (u : Option Addr) (s sz uc : Nat), ar = some ⟨b, off, none⟩ ∧ s < k ∧ n.sources[j].stream = (s : Nat) ∧ srcJ n j s = false ∧ wx.cell? ⟨b, off + j * 2, none⟩ = some (.int .i64 (s : Nat)) ∧ wx.cell? ⟨b, off + j * 2 + 1, none⟩ = some (.slice u sz uc) ∧ ∀ wy, Below wx.heap.size wx wy → ∀ r, Calls Tryz.prog 56 #[.slice u sz uc] wy fun e w' => NewSt wy true ⟨n.sources[j].words, 0, r⟩ false e w') := fun wx hx j hj => by
        obtain ⟨b, off, u, ha, d0, d1, hu⟩ := hcr wx hx j hj
        obtain ⟨q1, q2, q3⟩ := hsrc j hj
        obtain ⟨s, hs⟩ : ∃ s : Nat, n.sources[j].stream = s := ⟨n.sources[j].stream.toNat, by simp [inB] at q1; omega⟩
        obtain ⟨ua, uc, rfl⟩ := hu.form
        rw [hs] at q1 q3 d0
        exact ⟨b, off, ua, s, _, uc, ha, by simp [inB] at q1; omega, hs, q3, d0, d1, fun wy hy r => fromSource_calls (hu.below hy) (by omega) r⟩
      have HN2 : Hid (∀ j (hj : j < n.sources.length) s wx w1 e, Loop2 w.heap.size (w.heap.size + 1) n j wx → n.sources[j].stream = (s : Nat) → s < k → srcJ n j s = false → w.heap.size ≤ wx.heap.size → NewSt wx true ⟨n.sources[j].words, 0, (n.streams.getD s 0).toNat⟩ false e w1 → ∃ p, e = .returned (.pointer (some ⟨p, 0, none⟩)) ∧ (∃ x, w1.cell? ⟨w.heap.size + 1, s, none⟩ = some x) ∧ w1.frozen? ⟨w.heap.size + 1, s, none⟩ = false ∧ Below wx.heap.size wx w1 ∧ Loop2 w.heap.size (w.heap.size + 1) n (j + 1) (w1.setCell ⟨w.heap.size + 1, s, none⟩ (.pointer (some ⟨p, 0, none⟩)))) := fun j hj s wx w1 e hl hs hsl hf hsz hn => hl.next hj hs (by rw [HSL.out]; exact hsl) hf hsz hn
      clear hsrc hcr HS HR HU HZ hmk HN1 HSt HH hrow HRo hok hbl hb0
      go_wp2
      go_loopw [37] (fun i wr => ∃ (j : Nat), j ≤ n.sources.length ∧ i = .int .i64 j ∧ Below (w.heap.size + 1) (w.alloc (.cells #[.slice sa k sc, .slice ar n.sources.length cr, .slice aw wl cw] 26)) wr ∧ Loop2 w.heap.size (w.heap.size + 1) n j wr) (fun i _ => n.sources.length - (intOf i).toNat)
      case atStart => exact ⟨0, Nat.zero_le _, rfl, HB.out, HL2.out⟩
      case round =>
        clear HL2 HB z0 z1 z2
        obtain ⟨j, hj, rfl, hbl, hrow⟩ := hrel
        have hb0 := below_box hbl
        have HB := hide hbl
        have HRo := hide hrow
        by_cases hlt2 : j < n.sources.length
        · obtain ⟨b, off, u, s, sz, uc, rfl, hsk, hs, hfree, d0, d1, hcall⟩ := HC.out _ hb0 j hlt2
          have HCa := hide hcall
          have HSs := hide hs
          have hj0 : (0 : Int) ≤ (j : Int) := by omega
          have hj1 : (j : Int) < (n.sources.length : Int) := by omega
          have hglt : w.heap.size + 1 < wr.heap.size := by
            obtain ⟨st, VW, CH, hr, -⟩ := hrow
            obtain ⟨cs, hg, -⟩ := hr.row
            exact lt_of_blk hg
          have HX : Hid (∀ wx, Below (wr.heap.size + 1) (wr.alloc (.cells #[.int .i64 (s : Nat), .slice u sz uc] 42)) wx → Calls Tryz.prog 56 #[.slice u sz uc] wx fun e w1 => ∃ p, e = .returned (.pointer (some ⟨p, 0, none⟩)) ∧ (w1.cell? ⟨wr.heap.size, 0, none⟩ = some (.int .i64 (s : Nat)) ∧ w1.cell? ⟨wr.heap.size, 1, none⟩ = some (.slice u sz uc)) ∧ (∃ x, w1.cell? ⟨w.heap.size + 1, s, none⟩ = some x) ∧ w1.frozen? ⟨w.heap.size + 1, s, none⟩ = false ∧ Below (w.heap.size + 1) (w.alloc (.cells #[.slice sa k sc, .slice (some ⟨b, off, none⟩) n.sources.length cr, .slice aw wl cw] 26)) (w1.setCell ⟨w.heap.size + 1, s, none⟩ (.pointer (some ⟨p, 0, none⟩))) ∧ Loop2 w.heap.size (w.heap.size + 1) n (j + 1) (w1.setCell ⟨w.heap.size + 1, s, none⟩ (.pointer (some ⟨p, 0, none⟩)))) := fun wx hx => by
            have hbx : Below wr.heap.size wr wx := below_box hx
            have hl' : Loop2 w.heap.size (w.heap.size + 1) n j wx := by
              obtain ⟨st, VW, CH, hr, hch⟩ := hrow
              exact ⟨st, VW, CH, hr.below hbx, hch⟩
            refine (hcall wx hbx (n.streams.getD s 0).toNat).mono fun e w1 hn => ?_
            obtain ⟨p, q1, q2, q3, q4, q5⟩ := HN2.out j hlt2 s wx w1 e hl' hs hsk hfree (by have := hbx.size; omega) hn
            have t1 : w1.heap[wr.heap.size]? = some (.cells #[.int .i64 (s : Nat), .slice u sz uc] 42 (0, 0)) := by
              have hsz := hx.size
              simp at hsz
              rw [q4.block _ (by omega), hx.block _ (by omega)]; exact heap_alloc_new _ _
            refine ⟨p, q1, ⟨row_cell t1 rfl, row_cell t1 rfl⟩, q2, q3, ?_, q5⟩
            have hb2 := (hbl.trans (hbx.mono (by omega))).trans (q4.mono (by have := hbx.size; omega))
            exact hb2.setCell (p := ⟨w.heap.size + 1, s, none⟩) (Nat.le_refl _) _
          have t0 : (wr.alloc (.cells #[.int .i64 (s : Nat), .slice u sz uc] 42)).heap[wr.heap.size]? = some (.cells #[.int .i64 (s : Nat), .slice u sz uc] 42 (0, 0)) := heap_alloc_new _ _
          have y0 : (wr.alloc (.cells #[.int .i64 (s : Nat), .slice u sz uc] 42)).cell? ⟨wr.heap.size, 0, none⟩ = some (.int .i64 (s : Nat)) := row_cell t0 rfl
          have y1 : (wr.alloc (.cells #[.int .i64 (s : Nat), .slice u sz uc] 42)).cell? ⟨wr.heap.size, 1, none⟩ = some (.slice u sz uc) := row_cell t0 rfl
          have hs0 : (0 : Int) ≤ (s : Int) := by omega
          have hs1 : (s : Int) < (k : Int) := by omega
          have nb : wr.heap.size ≠ w.heap.size + 1 := by omega
          have nb' : w.heap.size + 1 ≠ wr.heap.size := by omega
          have HNB := hide hglt
          clear hcall hs HC hbl hrow t0 hglt HN2 HCa hb0
          go_wp2
          have hbb : Below (wr.heap.size + 1) (wr.alloc (.cells #[.int .i64 (s : Nat), .slice u sz uc] 42)) (wr.alloc (.cells #[.int .i64 (s : Nat), .slice u sz uc] 42)) := Below.refl _ _
          generalize (wr.alloc (.cells #[.int .i64 (s : Nat), .slice u sz uc] 42)) = wq at *
          go_region_held3 (fun w' => w'.cell? ⟨wr.heap.size, 0, none⟩ = some (.int .i64 (s : Nat)) ∧ w'.cell? ⟨wr.heap.size, 1, none⟩ = some (.slice u sz uc)) (go_keep)
            ((go_at_call 56; refine (unhide HX _ ?_).mono ?_; (repeat (first | exact hbb | apply Below.drew | apply below_drewN)); rintro e w1 ⟨p, rfl, ⟨s1, s2⟩, ⟨x, hx⟩, hfz, hb1, hl1⟩; have HB1 := hide hb1; have HL1 := hide hl1; clear hb1 hl1))
          go_wp2
          go_roundw
          case rel => exact ⟨j + 1, by omega, by go_num, HB1.out, HL1.out⟩
          case measure => simp [intOf]; omega
        · go_wp2
          go_ret
          exact ⟨w.heap.size + 1, rfl, by have e : j = n.sources.length := by omega
                                          rw [← e]; exact HRo.out, hb0⟩

end Go.Proofs.YthfdgdfnflilfaaGreatDoor
/- A race that is new. -/
namespace Go.Proofs.YthfdgdfnflilfaaGreatDoor
open Go.RowKit Go.Conc

theorem srcJ_all (n : Net) (s : Nat) : srcJ n n.sources.length s = srcd n s := by
  simp only [srcJ, srcd, List.take_length]

theorem initR_s (n : Net) (s : Nat) (hs : s < n.streams.length) : (initR n n.streams).s s = wordsJ n n.sources.length s := by
  simp only [Rc.s, initR, wordsJ, srcJ_all]
  rw [getD_eq _ _ _ (by simpa using hs)]
  simp

theorem initR_w (n : Net) (k : Nat) : (initR n n.streams).w k = ⟨0, fun _ => 0, 0⟩ := by
  simp only [Rc.w, initR, List.getD]
  by_cases h : k < n.workers.length
  · rw [List.getElem?_replicate_of_lt h]; rfl
  · rw [List.getElem?_eq_none (by simpa using h)]; rfl

theorem raceAt_new {n : Net} {w w1 w2 w3 : World} {gs gw p : Nat} {wb : Nat → Nat} {VC : Nat → Value} (hok : validB n = true)
    (hS : Loop2 w.heap.size gs n n.sources.length w1) (hb : Below w1.heap.size w1 w2) (hW : RowW w1.heap.size gw n.workers n.workers.length wb VC w2) (hb3 : Below w2.heap.size w2 w3)
    (hp : w3.heap[p]? = some (.cells #[.slice (some ⟨gs, 0, none⟩) n.streams.length n.streams.length, .slice (some ⟨gw, 0, none⟩) n.workers.length n.workers.length] 74 (0, 0))) :
    ∃ L : Lay, RaceAt L w3 n (initR n n.streams) ∧ L.p = p ∧ (w.heap.size ≤ w1.heap.size → w.heap.size ≤ p → ∀ b, Foot L n b → w.heap.size ≤ b) := by
  obtain ⟨st, VW, CH, hr, hch⟩ := hS
  have hr3 := (hr.below hb).below hb3
  have hw3 := hW.below hb3
  obtain ⟨cs, hg, hl, hc⟩ := hr3.row
  obtain ⟨cw, hgw, hlw, hcw⟩ := hw3.row
  have h8 := (valid_counts hok).2.1
  refine ⟨⟨p, .slice (some ⟨gs, 0, none⟩) n.streams.length n.streams.length, .slice (some ⟨gw, 0, none⟩) n.workers.length n.workers.length, st, VW, CH, wb, VC⟩, ⟨hp, ⟨⟨⟨gs, _, rfl, cs, hg, fun i hi => hc i hi rfl⟩, by omega⟩, fun s hs => ?_⟩, ⟨gw, _, rfl, cw, hgw, hcw⟩, fun k hk => ?_, fun s hs hq => ?_, fun s t hs ht hne => hr3.inj s t hs ht rfl rfl hne, fun j k hj hk hne => ?_, by simp [initR], by simp [initR], hok⟩, rfl, fun hs1 hs2 b hf => ?_⟩
  · have := hr3.at' s hs rfl
    rw [initR_s _ _ hs, ← srcJ_all]; exact this
  · rw [initR_w]; exact hw3.wk k hk
  · have := hch s hs (by rw [srcJ_all]; exact hq)
    dsimp only
    rw [this]
  · rcases Nat.lt_or_ge j k with h | h
    · have := hw3.inj j k h hk; dsimp only; omega
    · have := hw3.inj k j (by omega) hj; dsimp only; omega
  · rcases hf with rfl | hf | hf | ⟨s, hs, hf⟩ | ⟨j, hj, hf⟩
    · exact hs2
    · have e : gs = b := by simpa [Value.ownBlock] using hf
      have := hr.base.1; omega
    · have e : gw = b := by simpa [Value.ownBlock] using hf
      have := hW.base.1; omega
    · obtain ⟨q1, q2, q3⟩ := hr.base.2 s hs rfl
      rcases hf with rfl | hf | hf
      · exact q1
      · exact q2 b hf
      · exact q3 b hf
    · obtain ⟨q1, q2⟩ := hW.base.2 j hj
      rcases hf with rfl | hf
      · dsimp only; omega
      · have := q2 b hf; omega

end Go.Proofs.YthfdgdfnflilfaaGreatDoor
/- New. -/
namespace Go.Proofs.YthfdgdfnflilfaaGreatDoor
open Go.RowKit Go.Conc

set_option maxHeartbeats 1000000 in
theorem new_out {n : Net} {v : Value} {w : World} (h : NetAt w v n) (hno : validB n = false) :
    Calls Tryz.prog 13 #[v] w fun e w' => e = .returned (.tuple #[.pointer none, .int .i64 1]) ∧ Below w.heap.size w w' := by
  have HV : Hid (∀ wx, Below w.heap.size w wx → Calls Tryz.prog 23 #[v] wx fun e w' => e = .returned (.bool false) ∧ Below wx.heap.size wx w') := fun wx hx => by
    have := valid_calls (h.below hx); rw [hno] at this; exact this
  obtain ⟨vs, vr, vw, rfl, h1, h2, h3⟩ := h
  obtain ⟨sa, sc, rfl⟩ := h1.form
  obtain ⟨ar, cr, rfl⟩ := h2.form
  obtain ⟨aw, cw, rfl⟩ := h3.form
  have hb0 : Below w.heap.size w (w.alloc (.cells #[.slice sa n.streams.length sc, .slice ar n.sources.length cr, .slice aw n.workers.length cw] 26)) := (Below.refl _ _).alloc (Nat.le_refl _) _
  have HB0 := hide hb0
  clear h1 h2 h3 hno hb0
  go_enter Tryz.func13, Tryz.ntmps13
  go_wp2_with fail
  refine (unhide HV _ HB0.out).mono ?_
  rintro e w1 ⟨rfl, hb1⟩
  have HB1 := hide (HB0.out.trans (hb1.mono HB0.out.size))
  clear hb1
  go_wp2
  go_ret2
  exact ⟨rfl, HB1.out⟩

end Go.Proofs.YthfdgdfnflilfaaGreatDoor
/- New of a net. -/
namespace Go.Proofs.YthfdgdfnflilfaaGreatDoor
open Go.RowKit Go.Conc

set_option maxRecDepth 100000 in
set_option maxHeartbeats 1000000 in
theorem new_calls {n : Net} {v : Value} {w : World} (h : NetAt w v n) (hok : validB n = true) :
    Calls Tryz.prog 13 #[v] w fun e w' => ∃ L : Lay, e = .returned (.tuple #[.pointer (some ⟨L.p, 0, none⟩), .int .i64 0]) ∧ RaceAt L w' n (initR n n.streams) ∧ (∀ b, Foot L n b → w.heap.size ≤ b) ∧ Below w.heap.size w w' := by
  have HV : Hid (∀ wx, Below w.heap.size w wx → Calls Tryz.prog 23 #[v] wx fun e w' => e = .returned (.bool true) ∧ Below wx.heap.size wx w') := fun wx hx => by
    have := valid_calls (h.below hx); rw [hok] at this; exact this
  have HS0 : ∀ wx, Below w.heap.size w wx → Calls Tryz.prog 24 #[v] wx fun e w' => ∃ g, e = .returned (.slice (some ⟨g, 0, none⟩) n.streams.length n.streams.length) ∧ Loop2 wx.heap.size g n n.sources.length w' ∧ Below wx.heap.size wx w' := fun wx hx => newStreams_calls (h.below hx) hok
  have HW0 : ∀ wx, Below w.heap.size w wx → Calls Tryz.prog 25 #[v] wx fun e w' => ∃ g wb VC, e = .returned (.slice (some ⟨g, 0, none⟩) n.workers.length n.workers.length) ∧ RowW wx.heap.size g n.workers n.workers.length wb VC w' ∧ Below wx.heap.size wx w' := fun wx hx =>
    newWorkers_calls (h.below hx) (valid_counts hok).2.2.2 (fun c hc => by
      simp only [validB, validWorkersB, Bool.and_eq_true] at hok
      have := List.all_eq_true.1 hok.1.2.2 c hc
      simp only [validCodeB, Bool.and_eq_true, decide_eq_true_eq] at this
      exact this.1.2)
  obtain ⟨vs, vr, vw, rfl, h1, h2, h3⟩ := h
  obtain ⟨sa, sc, rfl⟩ := h1.form
  obtain ⟨ar, cr, rfl⟩ := h2.form
  obtain ⟨aw, cw, rfl⟩ := h3.form
  have HS : Hid (∀ wx, Below (w.heap.size + 1) (w.alloc (.cells #[.slice sa n.streams.length sc, .slice ar n.sources.length cr, .slice aw n.workers.length cw] 26)) wx → Calls Tryz.prog 24 #[.agg #[.slice sa n.streams.length sc, .slice ar n.sources.length cr, .slice aw n.workers.length cw]] wx fun e w' => ∃ g, e = .returned (.slice (some ⟨g, 0, none⟩) n.streams.length n.streams.length) ∧ (w'.cell? ⟨w.heap.size, 0, none⟩ = some (.slice sa n.streams.length sc) ∧ w'.cell? ⟨w.heap.size, 1, none⟩ = some (.slice ar n.sources.length cr) ∧ w'.cell? ⟨w.heap.size, 2, none⟩ = some (.slice aw n.workers.length cw)) ∧ Loop2 w.heap.size g n n.sources.length w' ∧ Below (w.heap.size + 1) (w.alloc (.cells #[.slice sa n.streams.length sc, .slice ar n.sources.length cr, .slice aw n.workers.length cw] 26)) w') := fun wx hx => by
    refine (HS0 wx (below_box hx)).mono fun e w' hh => ?_
    obtain ⟨g, q1, ⟨st, VW, CH, hr, hch⟩, q3⟩ := hh
    have hsz := hx.size
    simp at hsz
    have hx' := hx.trans (q3.mono (by omega))
    have t0 : w'.heap[w.heap.size]? = some (.cells #[.slice sa n.streams.length sc, .slice ar n.sources.length cr, .slice aw n.workers.length cw] 26 (0, 0)) := by
      rw [hx'.block _ (by omega)]; exact heap_alloc_new _ _
    refine ⟨g, q1, ⟨row_cell t0 rfl, row_cell t0 rfl, row_cell t0 rfl⟩, ⟨st, VW, CH, ⟨hr.row, hr.at', ⟨by have := hr.base.1; omega, fun i hi hd => ?_⟩, hr.inj⟩, hch⟩, hx'⟩
    obtain ⟨b1, b2, b3⟩ := hr.base.2 i hi hd
    exact ⟨by omega, fun q hq => by have := b2 q hq; omega, fun q hq => by have := b3 q hq; omega⟩
  have HW : Hid (∀ wx, Below (w.heap.size + 1) (w.alloc (.cells #[.slice sa n.streams.length sc, .slice ar n.sources.length cr, .slice aw n.workers.length cw] 26)) wx → Calls Tryz.prog 25 #[.agg #[.slice sa n.streams.length sc, .slice ar n.sources.length cr, .slice aw n.workers.length cw]] wx fun e w' => ∃ g wb VC, e = .returned (.slice (some ⟨g, 0, none⟩) n.workers.length n.workers.length) ∧ (w'.cell? ⟨w.heap.size, 0, none⟩ = some (.slice sa n.streams.length sc) ∧ w'.cell? ⟨w.heap.size, 1, none⟩ = some (.slice ar n.sources.length cr) ∧ w'.cell? ⟨w.heap.size, 2, none⟩ = some (.slice aw n.workers.length cw)) ∧ RowW wx.heap.size g n.workers n.workers.length wb VC w' ∧ Below wx.heap.size wx w' ∧ Below (w.heap.size + 1) (w.alloc (.cells #[.slice sa n.streams.length sc, .slice ar n.sources.length cr, .slice aw n.workers.length cw] 26)) w') := fun wx hx => by
    refine (HW0 wx (below_box hx)).mono fun e w' hh => ?_
    obtain ⟨g, wb, VC, q1, q2, q3⟩ := hh
    have hsz := hx.size
    simp at hsz
    have hx' := hx.trans (q3.mono (by omega))
    have t0 : w'.heap[w.heap.size]? = some (.cells #[.slice sa n.streams.length sc, .slice ar n.sources.length cr, .slice aw n.workers.length cw] 26 (0, 0)) := by
      rw [hx'.block _ (by omega)]; exact heap_alloc_new _ _
    exact ⟨g, wb, VC, q1, ⟨row_cell t0 rfl, row_cell t0 rfl, row_cell t0 rfl⟩, q2, q3, hx'⟩
  have HE : Hid (∀ w1 w2 gs gw wb VC, w.heap.size ≤ w1.heap.size → Loop2 w.heap.size gs n n.sources.length w1 → Below w1.heap.size w1 w2 → RowW w1.heap.size gw n.workers n.workers.length wb VC w2 → ∃ L : Lay, L.p = w2.heap.size ∧ RaceAt L (w2.alloc (.cells #[.slice (some ⟨gs, 0, none⟩) n.streams.length n.streams.length, .slice (some ⟨gw, 0, none⟩) n.workers.length n.workers.length] 74)) n (initR n n.streams) ∧ (∀ b, Foot L n b → w.heap.size ≤ b)) := fun w1 w2 gs gw wb VC hs hS hb hW => by
    obtain ⟨L, q1, q2, q3⟩ := raceAt_new (p := w2.heap.size) hok hS hb hW ((Below.refl _ w2).alloc (Nat.le_refl _) (.cells #[.slice (some ⟨gs, 0, none⟩) n.streams.length n.streams.length, .slice (some ⟨gw, 0, none⟩) n.workers.length n.workers.length] 74)) (heap_alloc_new _ _)
    exact ⟨L, q2, q1, q3 hs (by have := hb.size; omega)⟩
  have hb0 : Below (w.heap.size + 1) (w.alloc (.cells #[.slice sa n.streams.length sc, .slice ar n.sources.length cr, .slice aw n.workers.length cw] 26)) (w.alloc (.cells #[.slice sa n.streams.length sc, .slice ar n.sources.length cr, .slice aw n.workers.length cw] 26)) := Below.refl _ _
  have HB0 := hide hb0
  have HB00 := hide (below_box hb0)
  clear h1 h2 h3 hok hb0 HS0 HW0
  generalize n.sources.length = rl at *
  generalize n.streams.length = sl at *
  generalize n.workers.length = wl at *
  go_enter Tryz.func13, Tryz.ntmps13
  go_wp2_with fail
  refine (unhide HV _ HB00.out).mono ?_
  rintro e w0 ⟨rfl, hbv⟩
  have hbb : Below (w.heap.size + 1) (w.alloc (.cells #[.slice sa sl sc, .slice ar rl cr, .slice aw wl cw] 26)) w0 := HB0.out.trans (hbv.mono (by simp))
  have t0 : w0.heap[w.heap.size]? = some (.cells #[.slice sa sl sc, .slice ar rl cr, .slice aw wl cw] 26 (0, 0)) := by
    rw [hbb.block _ (by omega)]; exact heap_alloc_new _ _
  have y0 : w0.cell? ⟨w.heap.size, 0, none⟩ = some (.slice sa sl sc) := row_cell t0 rfl
  have y1 : w0.cell? ⟨w.heap.size, 1, none⟩ = some (.slice ar rl cr) := row_cell t0 rfl
  have y2 : w0.cell? ⟨w.heap.size, 2, none⟩ = some (.slice aw wl cw) := row_cell t0 rfl
  clear t0 hbv
  go_wp2
  go_region_held3 (fun w' => w'.cell? ⟨w.heap.size, 0, none⟩ = some (.slice sa sl sc) ∧ w'.cell? ⟨w.heap.size, 1, none⟩ = some (.slice ar rl cr) ∧ w'.cell? ⟨w.heap.size, 2, none⟩ = some (.slice aw wl cw)) (go_keep)
    (first
      | (go_at_call 24; refine (unhide HS _ ?_).mono ?_; (repeat (first | exact hbb | apply Below.drew | apply below_drewN)); rintro e w1 ⟨gs, rfl, ⟨s1, s2, s3⟩, hl2, hb1⟩; have HL2 := hide hl2; clear hl2)
      | (go_at_call 25; refine (unhide HW _ ?_).mono ?_; (repeat (first | exact hb1 | apply Below.drew | apply below_drewN)); rintro e w2 ⟨gw, wb, VC, rfl, ⟨r1, r2, r3⟩, hrw, hbw, hb2⟩; have HRW := hide hrw; have HBW := hide hbw; clear hrw hbw))
  have HX := hide (HE.out w1 w2 gs gw wb VC (by have := hb1.size; simp at this; omega) HL2.out HBW.out HRW.out)
  have HB2 := hide (below_box hb2)
  clear HE HL2 HBW HRW hb2 hb1 hbb s1 s2 s3 r1 r2 r3 y0 y1 y2
  go_wp2
  go_ret2
  obtain ⟨L, q1, q2, q3⟩ := HX.out
  exact ⟨L, by rw [q1]; rfl, q2, q3, HB2.out.alloc HB2.out.size _⟩

end Go.Proofs.YthfdgdfnflilfaaGreatDoor
/- millracekeep: pick, holds. -/
namespace Go.Proofs.YthfdgdfnflilfaaGreatDoor
open Go.RowKit Go.Conc

/-- Which of n things a raw number speaks of. -/
def pickN (c : Int) (n : Nat) : Nat := ((if c < 0 then -(c + 1) else c) % (n : Int)).toNat
def InR (c : Int) : Prop := -9223372036854775808 ≤ c ∧ c ≤ 9223372036854775807

theorem pickN_lt (c : Int) (n : Nat) (hn : 0 < n) : pickN c n < n := by
  unfold pickN
  have h1 := Int.emod_nonneg (if c < 0 then -(c + 1) else c) (show (n : Int) ≠ 0 by omega)
  have h2 := Int.emod_lt_of_pos (if c < 0 then -(c + 1) else c) (show (0 : Int) < n by omega)
  omega

/-- What of a race's rooms Bounded keeps: the net's, and what they grew by. -/
def GrewBy (L : Lay) (N : Net) (R : Rc) (M : List Int) : Prop :=
  M.length = N.streams.length ∧ ∀ s (_ : s < N.streams.length), if (L.CH s).isSome = true then ((R.s s).room : Int) = N.streams.getD s 0 + M.getD s 0 ∧ 1 ≤ (R.s s).room ∧ (R.s s).room ≤ 40 ∧ 0 ≤ M.getD s 0 else M.getD s 0 = 0

theorem valid_room {N : Net} (h : validB N = true) (s : Nat) (hs : s < N.streams.length) : 1 ≤ N.streams[s] ∧ N.streams[s] ≤ 6 := by
  simp only [validB, validStreamsB, Bool.and_eq_true] at h
  have := List.all_eq_true.1 h.1.1.1.2 N.streams[s] (List.getElem_mem hs)
  simpa using this

end Go.Proofs.YthfdgdfnflilfaaGreatDoor
/- A race as a caller sees it: its calls, and what they leave alone. -/
namespace Go.Proofs.YthfdgdfnflilfaaGreatDoor
open Go.RowKit Go.Conc

theorem RaceAt.frame {L : Lay} {w w' : World} {N : Net} {R : Rc} (h : RaceAt L w N R) (hk : ∀ b, Foot L N b → w'.heap[b]? = w.heap[b]?) : RaceAt L w' N R := by
  obtain ⟨g, cap, hv, cs, hg, hcs⟩ := h.rowW
  refine ⟨by rw [hk _ (Or.inl rfl)]; exact h.blk, ?_, ⟨g, cap, hv, cs, by rw [hk g (Or.inr (Or.inr (Or.inl (by rw [hv]; rfl))))]; exact hg, hcs⟩,
    fun k hk' => (h.wk k hk').stays fun y hy => hk y (Or.inr (Or.inr (Or.inr (Or.inr ⟨k, hk', hy⟩)))), h.ch, h.injS, h.injW, h.lenW, h.lenS, h.ok⟩
  obtain ⟨g2, cap2, hv2, cs2, hg2, hcs2⟩ := h.env.along.form
  exact ⟨⟨⟨g2, cap2, hv2, cs2, by rw [hk g2 (Or.inr (Or.inl (by rw [hv2]; rfl)))]; exact hg2, hcs2⟩, h.env.along.small⟩, fun s hs => (h.env.at' s hs).stays fun y hy => hk y (Or.inr (Or.inr (Or.inr (Or.inl ⟨s, hs, hy⟩))))⟩

theorem RaceAt.foot_lt {L : Lay} {w : World} {N : Net} {R : Rc} (h : RaceAt L w N R) {b : Nat} (hb : Foot L N b) : b < w.heap.size := by
  rcases hb with rfl | hb | hb | ⟨s, hs, hb⟩ | ⟨j, hj, hb⟩
  · exact lt_of_blk h.blk
  · obtain ⟨g2, cap2, hv2, cs2, hg2, hcs2⟩ := h.env.along.form
    rw [hv2] at hb
    have : g2 = b := by simpa [Value.ownBlock] using hb
    subst this
    exact lt_of_blk hg2
  · obtain ⟨g, cap, hv, cs, hg, hcs⟩ := h.rowW
    rw [hv] at hb
    have : g = b := by simpa [Value.ownBlock] using hb
    subst this
    exact lt_of_blk hg
  · have hst := h.env.at' s hs
    rcases hb with rfl | hb | hb
    · exact lt_of_blk hst.blk
    · obtain ⟨cur, hc⟩ := own_block hst.own hb; exact lt_of_blk hc
    · obtain ⟨⟨s', r, h1⟩, _⟩ := hst.chan b hb; exact lt_of_blk h1
  · have hw := h.wk j hj
    rcases hb with rfl | hb
    · exact lt_of_blk hw.blk
    · obtain ⟨cur, hc⟩ := own_block hw.own hb; exact lt_of_blk hc

/-- A race at a pointer; what lies in A is none of it. -/
structure Has (A : Nat → Prop) (p : Nat) (N : Net) (R : Rc) (w : World) : Prop where
  ex : ∃ L, L.p = p ∧ RaceAt L w N R ∧ ∀ b, Foot L N b → ¬ A b
  lt : ∀ b, A b → b < w.heap.size

/-- What lies in A has stayed. -/
def Keeps (A : Nat → Prop) (w w' : World) : Prop := Fr (fun b => ¬ A b) w w'

theorem Keeps.below {A : Nat → Prop} {n : Nat} {w w' : World} (h : Keeps A w w') (hn : n ≤ w.heap.size) (hA : ∀ b, b < n → A b) : Below n w w' :=
  ⟨h.os, h.tape, h.output, h.size, fun k hk => h.block k (by omega) (fun e => e (hA k hk))⟩
theorem Keeps.of_below {A : Nat → Prop} {w w' : World} (h : Below w.heap.size w w') : Keeps A w w' := Fr.of_below h
theorem Keeps.trans {A : Nat → Prop} {a b c : World} (h : Keeps A a b) (k : Keeps A b c) : Keeps A a c := Fr.trans h k (fun _ _ e => e)

theorem Has.mono {A B : Nat → Prop} {p : Nat} {N : Net} {R : Rc} {w : World} (h : Has A p N R w) (hs : ∀ b, B b → A b) : Has B p N R w := by
  obtain ⟨L, h1, h2, h3⟩ := h.ex
  exact ⟨⟨L, h1, h2, fun b hb hB => h3 b hb (hs b hB)⟩, fun b hb => h.lt b (hs b hb)⟩

theorem Has.below {A : Nat → Prop} {p : Nat} {N : Net} {R : Rc} {w w' : World} (h : Has A p N R w) (hb : Below w.heap.size w w') : Has A p N R w' := by
  obtain ⟨L, h1, h2, h3⟩ := h.ex
  exact ⟨⟨L, h1, h2.below hb, h3⟩, fun b hA => Nat.lt_of_lt_of_le (h.lt b hA) hb.size⟩

/-- A block that came later, or none of the race's, may be added to A. -/
theorem Has.add {A : Nat → Prop} {p : Nat} {N : Net} {R : Rc} {w w' : World} (h : Has A p N R w) (hb : Below w.heap.size w w') : Has (fun b => A b ∨ (w.heap.size ≤ b ∧ b < w'.heap.size)) p N R w' := by
  obtain ⟨L, h1, h2, h3⟩ := h.ex
  refine ⟨⟨L, h1, h2.below hb, fun b hf hA => ?_⟩, fun b hA => ?_⟩
  · rcases hA with hA | hA
    · exact h3 b hf hA
    · have := h2.foot_lt hf; omega
  · rcases hA with hA | hA
    · have := h.lt b hA; have := hb.size; omega
    · exact hA.2

theorem Has.went {A : Nat → Prop} {L : Lay} {N : Net} {S : Rc} {w w' : World} (hA : ∀ b, Foot L N b → ¬ A b) (hlt : ∀ b, A b → b < w.heap.size) (h : Went L w N S w') : Has A L.p N S w' ∧ Keeps A w w' := by
  obtain ⟨L', r, g, f⟩ := h.at'
  refine ⟨⟨⟨L', g.1.1, r, fun b hb hAb => ?_⟩, fun b hAb => Nat.lt_of_lt_of_le (hlt b hAb) f.size⟩, f.mono fun k _ hk => hA k hk⟩
  rcases g.2 b hb with h1 | h1
  · exact hA b h1 hAb
  · have := hlt b hAb; omega

/-- The stream has a channel. -/
def heldB (N : Net) (s : Nat) : Bool := used N s && !srcd N s
theorem RaceAt.ch_iff {L : Lay} {w : World} {N : Net} {R : Rc} (h : RaceAt L w N R) {s : Nat} (hs : s < N.streams.length) : (L.CH s).isSome = heldB N s := by
  cases hq : srcd N s
  · have := h.ch s hs hq
    cases h1 : (L.CH s).isSome <;> cases h2 : used N s <;> simp [heldB, hq, h1, h2] at this ⊢
  · cases h1 : L.CH s with
    | none => simp [heldB, hq]
    | some c => have := (h.env.at' s hs).nosrc c h1; rw [hq] at this; cases this

/-! ### The calls -/
def stepR (N : Net) (R : Rc) (k : Nat) : Rc := if stateOf N R k = 1 then doStep N R k else R

theorem has_step {A : Nat → Prop} {p : Nat} {N : Net} {R : Rc} {w : World} (h : Has A p N R w) (k : Nat) (hk : k < N.workers.length) (hsm : SmallR N R) :
    Calls Tryz.prog 19 #[.pointer (some ⟨p, 0, none⟩), .int .i64 k] w fun e w' => e = .returned (.tuple #[.int .i64 (stateOf N R k), .int .i64 0]) ∧ Has A p N (stepR N R k) w' ∧ Keeps A w w' := by
  obtain ⟨L, rfl, h2, h3⟩ := h.ex
  refine (rstep_calls h2 k hk hsm).mono fun e w' ⟨h4, h5⟩ => ⟨h4, ?_⟩
  rcases h5 with ⟨h5, h6⟩ | ⟨h5, h6⟩
  · rw [stepR, if_neg h5]; exact ⟨h.below h6, Keeps.of_below h6⟩
  · rw [stepR, if_pos h5]; exact Has.went h3 h.lt ⟨h6⟩

theorem has_step_out {A : Nat → Prop} {p : Nat} {N : Net} {R : Rc} {w : World} (h : Has A p N R w) (k : Int) (hk : inB k N.workers.length = false) :
    Calls Tryz.prog 19 #[.pointer (some ⟨p, 0, none⟩), .int .i64 k] w fun e w' => e = .returned (.tuple #[.int .i64 0, .int .i64 2]) ∧ w' = w := by
  obtain ⟨L, rfl, h2, h3⟩ := h.ex
  exact rstep_out h2 k hk

theorem has_look {A : Nat → Prop} {p : Nat} {N : Net} {R : Rc} {w : World} (h : Has A p N R w) (k : Nat) (hk : k < N.workers.length) :
    Calls Tryz.prog 62 #[.pointer (some ⟨p, 0, none⟩), .int .i64 k] w fun e w' => e = .returned (.tuple #[lookVal (R.w k) (stateOf N R k), .int .i64 0]) ∧ Below w.heap.size w w' := by
  obtain ⟨L, rfl, h2, h3⟩ := h.ex
  exact rlook_calls h2 k hk

theorem has_grow {A : Nat → Prop} {p : Nat} {N : Net} {R : Rc} {w : World} (h : Has A p N R w) (hro : RoomR N R) :
    Calls Tryz.prog 35 #[.pointer (some ⟨p, 0, none⟩)] w fun e w' => ∃ a b o, Grows N R a b o ∧ e = .returned (.tuple #[.int .i64 a, .int .i64 b]) ∧ Has A p N (o.elim R (growS R)) w' ∧ Keeps A w w' := by
  obtain ⟨L, rfl, h2, h3⟩ := h.ex
  refine (rgrow_calls h2 hro).mono fun e w' ⟨a, b, o, h4, h5, h6⟩ => ⟨a, b, o, h4, h5, ?_⟩
  cases o with
  | none => exact ⟨h.below h6, Keeps.of_below h6⟩
  | some t => exact Has.went h3 h.lt ⟨h6⟩

theorem has_flow {A : Nat → Prop} {p : Nat} {N : Net} {R : Rc} {w : World} (h : Has A p N R w) (hro : RoomR N R) (hw : ∀ s, s < N.streams.length → (R.s s).words.length + 100000 < 4398046511104) (m : Nat) (hm : m ≤ 100000) :
    Calls Tryz.prog 38 #[.pointer (some ⟨p, 0, none⟩), .int .i64 m] w fun e w' => ∃ (d : Nat) (b : Int) (S : Rc), FlowEnd N R m d b S ∧ e = .returned (.tuple #[.int .i64 (d : Nat), .int .i64 b]) ∧ Has A p N S w' ∧ Keeps A w w' := by
  obtain ⟨L, rfl, h2, h3⟩ := h.ex
  exact (rflow_calls h2 hro hw m hm).mono fun e w' ⟨d, b, S, h4, h5, h6⟩ => ⟨d, b, S, h4, h5, Has.went h3 h.lt h6⟩

theorem has_history {A : Nat → Prop} {p : Nat} {N : Net} {R : Rc} {w : World} (h : Has A p N R w) (s : Nat) (hs : s < N.streams.length) :
    Calls Tryz.prog 11 #[.pointer (some ⟨p, 0, none⟩), .int .i64 s] w fun e w' => ∃ a' c', e = .returned (.tuple #[.slice a' (histOf (srcd N s) (R.s s)).length c', .int .i64 0]) ∧
      w'.ownsRow w.heap.size 3 1 (.slice a' (histOf (srcd N s) (R.s s)).length c') (histOf (srcd N s) (R.s s)).length (intRow (histOf (srcd N s) (R.s s))) ∧ Below w.heap.size w w' := by
  obtain ⟨L, rfl, h2, h3⟩ := h.ex
  exact rhistory_calls h2 s hs

theorem has_new {n : Net} {v : Value} {w : World} (h : NetAt w v n) (hok : validB n = true) :
    Calls Tryz.prog 13 #[v] w fun e w' => ∃ p, e = .returned (.tuple #[.pointer (some ⟨p, 0, none⟩), .int .i64 0]) ∧ Has (fun b => b < w.heap.size) p n (initR n n.streams) w' ∧ Below w.heap.size w w' :=
  (new_calls h hok).mono fun e w' ⟨L, h1, h2, h3, h4⟩ => ⟨L.p, h1, ⟨⟨L, rfl, h2, fun b hb hlt => by have := h3 b hb; omega⟩, fun b hb => Nat.lt_of_lt_of_le hb h4.size⟩, h4⟩

theorem has_len {A : Nat → Prop} {p : Nat} {N : Net} {R : Rc} {w : World} (h : Has A p N R w) : R.W.length = N.workers.length ∧ R.S.length = N.streams.length ∧ validB N = true := by
  obtain ⟨L, rfl, h2, h3⟩ := h.ex
  exact ⟨h2.lenW, h2.lenS, h2.ok⟩

/-- The numbers of a row that is owned. -/
theorem own_get {w : World} {n : Nat} {a : Option Addr} {cap : Nat} {l : List Int} (h : w.ownsRow n 3 1 (.slice a l.length cap) l.length (intRow l)) : ∀ i, i < l.length → ∃ g, a = some ⟨g, 0, none⟩ ∧ n ≤ g ∧ w.cell? ⟨g, i, none⟩ = some (.int .i64 (l.getD i 0)) := by
  obtain ⟨h1, h2⟩ := h
  rcases h2 with ⟨h3, h4⟩ | ⟨g, cap, cur, hv, hg, hh, hn, hm, hs, ht⟩
  · intro i hi; omega
  · intro i hi
    cases hv
    refine ⟨g, rfl, hg, ?_⟩
    have e : (intRow l)[i]? = some (.int .i64 (l.getD i 0)) := by rw [intRow_get _ _ hi, getD_eq _ _ _ hi]
    rw [← ht] at e
    simp only [Nat.mul_one] at e
    rw [List.getElem?_take_of_lt hi] at e
    simp [World.cell?, hh]
    simpa using e

end Go.Proofs.YthfdgdfnflilfaaGreatDoor
/- The law's opens: what it needs of its calls. -/
namespace Go.Proofs.YthfdgdfnflilfaaGreatDoor
open Go.RowKit Go.Conc

/-- The colours behind lent, New and the document's New: the net's box, the loan, the program's race, the document's. -/
def col4 (col : Nat → Nat) (n0 n1 n2 n3 cx cy : Nat) : Nat → Nat := fun b => if b < n0 then col b else if b = n0 then 21 else if b < n1 then 20 else if b < n2 then cx else if b < n3 then cy else 8

theorem col4_old {col : Nat → Nat} {n0 n1 n2 n3 cx cy b : Nat} (h : b < n0) : col4 col n0 n1 n2 n3 cx cy b = col b := by simp [col4, h]
theorem col4_box {col : Nat → Nat} {n0 n1 n2 n3 cx cy : Nat} : col4 col n0 n1 n2 n3 cx cy n0 = 21 := by simp [col4]
theorem col4_loan {col : Nat → Nat} {n0 n1 n2 n3 cx cy b : Nat} (h : n0 < b) (h1 : b < n1) : col4 col n0 n1 n2 n3 cx cy b = 20 := by
  have e1 : ¬ b < n0 := by omega
  have e2 : b ≠ n0 := by omega
  simp [col4, e1, e2, h1]
theorem col4_x {col : Nat → Nat} {n0 n1 n2 n3 cx cy b : Nat} (h0 : n0 < n1) (h : n1 ≤ b) (h1 : b < n2) : col4 col n0 n1 n2 n3 cx cy b = cx := by
  have e1 : ¬ b < n0 := by omega
  have e2 : b ≠ n0 := by omega
  have e3 : ¬ b < n1 := by omega
  simp [col4, e1, e2, e3, h1]
theorem col4_y {col : Nat → Nat} {n0 n1 n2 n3 cx cy b : Nat} (h0 : n0 < n1) (h01 : n1 ≤ n2) (h : n2 ≤ b) (h1 : b < n3) : col4 col n0 n1 n2 n3 cx cy b = cy := by
  have e1 : ¬ b < n0 := by omega
  have e2 : b ≠ n0 := by omega
  have e3 : ¬ b < n1 := by omega
  have e4 : ¬ b < n2 := by omega
  simp [col4, e1, e2, e3, e4, h1]
theorem col4_new {col : Nat → Nat} {n0 n1 n2 n3 cx cy b : Nat} (h0 : n0 < n1) (h01 : n1 ≤ n2) (h02 : n2 ≤ n3) (h : n3 ≤ b) : col4 col n0 n1 n2 n3 cx cy b = 8 := by
  have e1 : ¬ b < n0 := by omega
  have e2 : b ≠ n0 := by omega
  have e3 : ¬ b < n1 := by omega
  have e4 : ¬ b < n2 := by omega
  have e5 : ¬ b < n3 := by omega
  simp [col4, e1, e2, e3, e4, e5]

/-- What a call of the law left, seen from outside. -/
structure Opened (base : Nat) (col col' : Nat → Nat) (w w' : World) : Prop where
  fr : Fr (fun b => base ≤ b ∧ col b ≤ 20) w w'
  old : ∀ b, b < w.heap.size → 20 < col b → col' b = col b
  new : ∀ b, w.heap.size ≤ b → col' b < 90

/-- The net's memory: whatever the law writes into is none of it. -/
def NetStays (base : Nat) (col : Nat → Nat) (w : World) (v : Value) (n : Net) : Prop := ∀ wx, Fr (fun b => base ≤ b ∧ col b < 90) w wx → NetAt wx v n

/-- What returned finds, behind lent, New and the document's New. -/
theorem opens_back {base : Nat} {col : Nat → Nat} {w w1 w2 w3 : World} {p : Nat} {v0 : Value} {c : Nat} {n : Net} {vs vr vw : Value} {L : LoanL} (cx cy : Nat) (hcx9 : cx < 90) (hcy9 : cy < 90) (hb : Bk base col w p v0 c) (hn : NetStays base col w (.agg #[vs, vr, vw]) n) (hs : ShortNet n) (hc : c + n.sources.length + n.workers.length + 3 ≤ 1099511627776)
    (hL : LoanAt (w.alloc (.cells #[vs, vr, vw] 26)).heap.size L w1 n) (hb1 : Below (w.alloc (.cells #[vs, vr, vw] 26)).heap.size (w.alloc (.cells #[vs, vr, vw] 26)) w1) (hb2 : Below w1.heap.size w1 w2) (hb3 : Below w2.heap.size w2 w3) :
    Calls Tryz.prog 15 #[.pointer (some ⟨p, 0, none⟩), .pointer (some ⟨L.q, 0, none⟩), .agg #[vs, vr, vw]] w3 fun e w' => e = .returned (.bool true) ∧ ∃ col', Bk base col' w' p v0 (c + n.sources.length + n.workers.length + 3) ∧ Opened base col col' w w' ∧
      Fr (fun b => base ≤ b ∧ col4 col w.heap.size w1.heap.size w2.heap.size w3.heap.size cx cy b ≤ 20) w3 w' ∧ (∀ b, w.heap.size ≤ b → b < w3.heap.size → 20 < col4 col w.heap.size w1.heap.size w2.heap.size w3.heap.size cx cy b → col' b = col4 col w.heap.size w1.heap.size w2.heap.size w3.heap.size cx cy b) ∧ (∀ b, w3.heap.size ≤ b → col' b < 30) ∧ w'.heap[w.heap.size]? = some (.cells #[vs, vr, vw] 26 (0, 0)) := by
  obtain ⟨cs, hp, -⟩ := hb.blk
  have hpl := lt_of_blk hp
  have hbase : base ≤ w.heap.size := Nat.le_trans hb.ge (Nat.le_of_lt hpl)
  have hsz0 : (w.alloc (.cells #[vs, vr, vw] 26)).heap.size = w.heap.size + 1 := by simp
  have hsz1 : w.heap.size < w1.heap.size := by have := hb1.size; rw [hsz0] at this; omega
  have hsz2 := hb2.size
  have hsz3 := hb3.size
  have hbl : Below w.heap.size w w3 := (((Below.refl _ _).alloc (Nat.le_refl _) _).trans (hb1.mono (by rw [hsz0]; omega))).trans ((hb2.mono (by omega)).trans (hb3.mono (by omega)))
  have hbx : w3.heap[w.heap.size]? = some (.cells #[vs, vr, vw] 26 (0, 0)) := by
    rw [hb3.block _ (by omega), hb2.block _ (by omega), hb1.block _ (by rw [hsz0]; omega)]; exact heapNew rfl
  have hL3 : LoanAt (w.alloc (.cells #[vs, vr, vw] 26)).heap.size L w3 n := (hL.below hb2).below hb3
  have hB3 : Bk base (col4 col w.heap.size w1.heap.size w2.heap.size w3.heap.size cx cy) w3 p v0 c := hb.frame (fun b h _ => hbl.block b h) (fun b h _ => col4_old h) (fun b h => by rw [col4_old (by omega)]; exact hb.low b h) hbl.size (Nat.le_refl _)
  have hle : ∀ b, b < w.heap.size → col4 col w.heap.size w1.heap.size w2.heap.size w3.heap.size cx cy b ≤ 20 → col b ≤ 20 := fun b h h' => by rw [col4_old h] at h'; exact h'
  have hc9 : ∀ b, w.heap.size ≤ b → col4 col w.heap.size w1.heap.size w2.heap.size w3.heap.size cx cy b < 90 := fun b h => by
    unfold col4
    repeat' split
    all_goals omega
  refine (returned_calls hB3 hL3 (by omega) (fun b hf => ?_) (fun wx hx => ?_) hs hc).mono fun e w' ⟨q1, col', q2, q3⟩ => ⟨q1, fun b => if w.heap.size ≤ b ∧ 90 ≤ col' b then 20 else col' b, ?_, ⟨?_, fun b h h' => ?_, fun b h => ?_⟩, q3.fr, fun b h h' h'' => ?_, fun b h => ?_, ?_⟩
  · obtain ⟨h1, h2⟩ := hL.foot_lt hf
    exact col4_loan (by omega) h2
  · refine hn wx ((Fr.of_below hbl).trans hx fun b h h' => ⟨h'.1, ?_⟩)
    have := hle b h h'.2
    omega
  · refine q2.frame (fun b _ _ => rfl) (fun b h h8 => by rw [if_neg (by omega)]) (fun b h => ?_) (Nat.le_refl _) (Nat.le_refl _)
    rw [if_neg (by omega)]; exact q2.low b h
  · exact (Fr.of_below hbl).trans q3.fr fun b h h' => ⟨h'.1, hle b h h'.2⟩
  · rw [if_neg (by omega), q3.old b (by have := hbl.size; omega) (by rw [col4_old h]; exact h'), col4_old h]
  · split <;> omega
  · have e := q3.old b h' h''
    have h9 := hc9 b h
    dsimp only
    rw [if_neg (by rw [e]; omega)]; exact e
  · have := q3.new b h
    show (if w.heap.size ≤ b ∧ 90 ≤ col' b then 20 else col' b) < 30
    split <;> omega
  · rw [q3.fr.block _ (by omega) (fun e => by have := e.2; rw [col4_box] at this; omega)]
    exact hbx

end Go.Proofs.YthfdgdfnflilfaaGreatDoor
/- The law's opens: New, and nothing kept. -/
namespace Go.Proofs.YthfdgdfnflilfaaGreatDoor
open Go.RowKit Go.Conc

theorem Lentd.form {w : World} {g : Nat} {u : Value} {l : List Int} (h : Lentd w g u l) : ∃ a c, u = .slice a l.length c := by
  rcases h.val with hu | ⟨rfl, hu⟩
  · exact ⟨_, _, hu⟩
  · exact ⟨none, 0, hu⟩

/-- lent, and what it leaves for New. -/
theorem lent_open {n : Net} {v : Value} {w : World} (hn : NetAt w v n) (hs : ShortNet n) :
    Calls Tryz.prog 12 #[v] w fun e w' => ∃ (L : LoanL) (ra : Option Addr) (rc : Nat), e = .returned (.pointer (some ⟨L.q, 0, none⟩)) ∧ LoanAt w.heap.size L w' n ∧ Below w.heap.size w w' ∧
      w'.cell? ⟨L.q, 0, none⟩ = some (.slice ra n.streams.length rc) ∧ w'.cell? ⟨L.q, 1, none⟩ = some (.slice (some ⟨L.gr, 0, none⟩) n.sources.length (n.sources.length + 1)) ∧ w'.cell? ⟨L.q, 2, none⟩ = some (.slice (some ⟨L.gw, 0, none⟩) n.workers.length (n.workers.length + 1)) ∧
      NetAt w' (.agg #[.slice ra n.streams.length rc, .slice (some ⟨L.gr, 0, none⟩) n.sources.length (n.sources.length + 1), .slice (some ⟨L.gw, 0, none⟩) n.workers.length (n.workers.length + 1)]) n := by
  refine (lent_calls hn hs).mono fun e w' ⟨L, q1, q2, q3⟩ => ?_
  obtain ⟨ra, rc, hr⟩ := q2.str.form
  have hnet := q2.net hs
  have hblk := q2.blk
  rw [hr] at hnet hblk
  exact ⟨L, ra, rc, q1, q2, q3, (blk_cell (l := [_, _, _, _, _, _, _, _]) hblk 0 _ rfl).1, (blk_cell (l := [_, _, _, _, _, _, _, _]) hblk 1 _ rfl).1, (blk_cell (l := [_, _, _, _, _, _, _, _]) hblk 2 _ rfl).1, hnet⟩

set_option maxRecDepth 100000 in
set_option maxHeartbeats 4000000 in
theorem opens_plain {base : Nat} {col : Nat → Nat} {w : World} {p : Nat} {v0 : Value} {c : Nat} {n : Net} {v : Value} (hb : Bk base col w p v0 c) (hn : NetStays base col w v n) (hs : ShortNet n) (hc : c + n.sources.length + n.workers.length + 3 ≤ 1099511627776) (add : Bool) (ha : add = true → validB n = false) :
    Calls Tryz.prog 8 #[.pointer (some ⟨p, 0, none⟩), v, .bool add] w fun e w' => e = .returned (.bool true) ∧ ∃ col', Bk base col' w' p v0 (c + n.sources.length + n.workers.length + 3) ∧ Opened base col col' w w' := by
  have hnw := hn w (Fr.refl _ _)
  obtain ⟨vs, vr, vw, rfl, h1, h2, h3⟩ := hnw
  obtain ⟨sa, sc, rfl⟩ := h1.form
  obtain ⟨ar, cr, rfl⟩ := h2.form
  obtain ⟨aw, cw, rfl⟩ := h3.form
  have hNt : ∀ wx, Below w.heap.size w wx → NetAt wx (.agg #[.slice sa n.streams.length sc, .slice ar n.sources.length cr, .slice aw n.workers.length cw]) n := fun wx hx => NetAt.below ⟨_, _, _, rfl, h1, h2, h3⟩ hx
  have hb0 : Below w.heap.size w (w.alloc (.cells #[.slice sa n.streams.length sc, .slice ar n.sources.length cr, .slice aw n.workers.length cw] 26)) := (Below.refl _ _).alloc (Nat.le_refl _) _
  have HLe := hide (lent_open (hNt _ hb0) hs)
  have hsz0 : (w.alloc (.cells #[.slice sa n.streams.length sc, .slice ar n.sources.length cr, .slice aw n.workers.length cw] 26)).heap.size = w.heap.size + 1 := by simp
  have HNw : Hid (∀ wx u, NetAt wx u n → Calls Tryz.prog 13 #[u] wx fun e w' => ∃ (x : Option Addr) (en : Int), e = .returned (.tuple #[.pointer x, .int .i64 en]) ∧ x.isSome = validB n ∧ (en = if validB n = true then 0 else 1) ∧ Below wx.heap.size wx w') := fun wx u hu => by
    cases hok : validB n
    · exact (new_out hu hok).mono fun e w' ⟨q1, q2⟩ => ⟨none, 1, q1, rfl, rfl, q2⟩
    · exact (has_new hu hok).mono fun e w' ⟨x, q1, _, q2⟩ => ⟨some ⟨x, 0, none⟩, 0, q1, rfl, rfl, q2⟩
  have HRw : Hid (∀ wx, Below w.heap.size w wx → Calls Tryz.prog 14 #[.agg #[.slice sa n.streams.length sc, .slice ar n.sources.length cr, .slice aw n.workers.length cw]] wx fun e w' => ∃ y : Option Addr, e = .returned (.pointer y) ∧ y.isSome = validB n ∧ Below wx.heap.size wx w') := fun wx hx => by
    cases hok : validB n
    · exact (refNew_out (hNt wx hx) hok).mono fun e w' ⟨q1, q2⟩ => ⟨none, q1, rfl, q2⟩
    · exact (refNew_calls (hNt wx hx) (Below.refl _ _) hs hok).mono fun e w' ⟨x, q1, _, q2⟩ => ⟨some ⟨x, 0, none⟩, q1, rfl, q2⟩
  have HBk : Hid (∀ L w1 w2 w3, LoanAt (w.alloc (.cells #[.slice sa n.streams.length sc, .slice ar n.sources.length cr, .slice aw n.workers.length cw] 26)).heap.size L w1 n → Below (w.alloc (.cells #[.slice sa n.streams.length sc, .slice ar n.sources.length cr, .slice aw n.workers.length cw] 26)).heap.size (w.alloc (.cells #[.slice sa n.streams.length sc, .slice ar n.sources.length cr, .slice aw n.workers.length cw] 26)) w1 → Below w1.heap.size w1 w2 → Below w2.heap.size w2 w3 →
      Calls Tryz.prog 15 #[.pointer (some ⟨p, 0, none⟩), .pointer (some ⟨L.q, 0, none⟩), .agg #[.slice sa n.streams.length sc, .slice ar n.sources.length cr, .slice aw n.workers.length cw]] w3 fun e w' => e = .returned (.bool true) ∧ ∃ col', Bk base col' w' p v0 (c + n.sources.length + n.workers.length + 3) ∧ Opened base col col' w w') := fun L w1 w2 w3 hL q1 q2 q3 =>
    (opens_back 22 22 (by decide) (by decide) hb hn hs hc hL q1 q2 q3).mono fun e w' ⟨r1, col', r2, r3, _⟩ => ⟨r1, col', r2, r3⟩
  clear h1 h2 h3 hNt hb hn
  have HB0 := hide hb0
  clear hb0
  generalize hok : validB n = ok at *
  clear hok
  go_enter Tryz.func8, Tryz.ntmps8
  go_wp2_with fail
  refine (unhide HLe).mono ?_
  rintro e w1 ⟨L, ra, rc, rfl, hL, hb1, c0, c1, c2, hnet⟩
  have hsz1 : w.heap.size < w1.heap.size := by have := hb1.size; rw [hsz0] at this; omega
  have t1 : w1.heap[w.heap.size]? = some (.cells #[.slice sa n.streams.length sc, .slice ar n.sources.length cr, .slice aw n.workers.length cw] 26 (0, 0)) := by
    rw [hb1.block _ (by rw [hsz0]; omega)]; exact heapNew rfl
  have HNw1 := hide (HNw.out w1 _ hnet)
  have HBk1 := hide (fun w2 w3 => HBk.out L w1 w2 w3 hL hb1)
  have HB1 : Hid (Below w.heap.size w w1) := HB0.out.trans (hb1.mono (by rw [hsz0]; omega))
  have T1 := hide t1
  clear hL hb1 hnet t1 HLe HNw HBk HB0
  go_wp2_with fail
  refine (unhide HNw1).mono ?_
  rintro e w2 ⟨x, en, rfl, hx, hen, hb2⟩
  have HEn := hide hen
  have HX := hide hx
  have hsz2 : w.heap.size < w2.heap.size := by have := hb2.size; omega
  have t2 := (hb2.block _ hsz1).trans T1.out
  obtain ⟨z0, -⟩ := blk_cell (l := [_, _, _]) t2 0 _ rfl
  obtain ⟨z1, -⟩ := blk_cell (l := [_, _, _]) t2 1 _ rfl
  obtain ⟨z2, -⟩ := blk_cell (l := [_, _, _]) t2 2 _ rfl
  have HRw1 := hide (HRw.out w2 (HB1.out.trans (hb2.mono (by omega))))
  have HBk2 := hide (fun w3 => HBk1.out w2 w3 hb2)
  have T2 := hide t2
  clear hb2 t2 HNw1 HBk1 HRw T1 c0 c1 c2 hen hx
  go_wp2_with fail
  refine (unhide HRw1).mono ?_
  rintro e w3 ⟨y, rfl, hy, hb3⟩
  have HY := hide hy
  have t3 := (hb3.block _ hsz2).trans T2.out
  obtain ⟨z0, -⟩ := blk_cell (l := [_, _, _]) t3 0 _ rfl
  obtain ⟨z1, -⟩ := blk_cell (l := [_, _, _]) t3 1 _ rfl
  obtain ⟨z2, -⟩ := blk_cell (l := [_, _, _]) t3 2 _ rfl
  have HBk3 := hide (HBk2.out w3 hb3)
  clear hb3 t3 HRw1 HBk2 T2 hy
  go_wp2_with fail
  refine (unhide HBk3).mono ?_
  rintro e w4 ⟨rfl, hfin⟩
  have HFin := hide hfin
  clear hfin HBk3 z0 z1 z2
  have hx := HX.out
  have hy := HY.out
  have hen := HEn.out
  clear HX HY HEn
  cases ok
  · simp only [Bool.false_eq_true, if_false] at hen
    have hx' : x = none := by cases x; rfl; cases hx
    have hy' : y = none := by cases y; rfl; cases hy
    subst hx' hy' hen
    clear ha hx hy
    cases add
    · go_wp2
      go_ret
      exact ⟨rfl, HFin.out⟩
    · go_wp2
      go_ret
      exact ⟨rfl, HFin.out⟩
  · have ha' : add = false := by cases add; rfl; exact absurd (ha rfl) (by decide)
    subst ha'
    obtain ⟨x, rfl⟩ := Option.isSome_iff_exists.1 hx
    obtain ⟨y, rfl⟩ := Option.isSome_iff_exists.1 hy
    simp only [if_true] at hen
    subst hen
    clear ha hx hy
    go_wp2
    go_ret
    exact ⟨rfl, HFin.out⟩

end Go.Proofs.YthfdgdfnflilfaaGreatDoor

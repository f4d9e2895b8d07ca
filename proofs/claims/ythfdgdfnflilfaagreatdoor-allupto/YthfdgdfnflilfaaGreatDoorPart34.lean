/- Part 34: RefS7, First1, LoadG. -/
import Derived.Test.YthfdgdfnflilfaaGreatDoorPart17
import Derived.Test.YthfdgdfnflilfaaGreatDoorPart22
import Derived.Test.YthfdgdfnflilfaaGreatDoorPart26
import Derived.Test.YthfdgdfnflilfaaGreatDoorPart27
namespace Go.Proofs.YthfdgdfnflilfaaGreatDoor
open Go.RowKit Go.Conc
set_option maxRecDepth 100000 in
set_option maxHeartbeats 4000000 in
theorem refStep_set0 {L:RLay} {w:World} {N:Net} {R:Rc} (h:RefAt L w N R) (k:Nat) (hk:k<N.workers.length) (hst:stateOf N R k=1) (hco:RCodes L w N) (ib ic:Int) (hi:(codeOf N k)[(R.w k).place]? = some ⟨3,0,ib,ic⟩) :
  Calls Tryz.prog 61 #[.pointer (some ⟨L.p,0,none⟩),.int .i64 k] w fun e w'=>e=.returned (.int .i64 1)∧RStep L w N (doStep N R k) w':=by
 have HDo:Hid (doStep N R k=⟨R.W.set k ⟨(R.w k).place+1,upd (R.w k).r 0 ic,wrap64 ((R.w k).steps+1)⟩,R.S⟩):=by
  show doStep N R k=_
  unfold doStep insAt
  rw [hi]
  simp [nextW,nextS]
 have HPut:Hid (∀ w5,Below w.heap.size w w5→RStep L w N (doStep N R k) (putW w5 L.gW k (L.VC k) ⟨(R.w k).place+1,upd (R.w k).r 0 ic,wrap64 ((R.w k).steps+1)⟩).drew):=fun w5 hb=>by
  rw [HDo.out]
  exact ((RStep.of_below h hb).put hco hk ⟨(R.w k).place+1,upd (R.w k).r 0 ic,wrap64 ((R.w k).steps+1)⟩ (by show (R.w k).place+1≤_;have:=(List.getElem?_eq_some_iff.1 hi).1;omega)).drew
 clear HDo hco
 have HS:=hide (refState_calls h k hk)
 rw [hst] at HS
 have HH:Hid (∀ wx,Below w.heap.size w wx→RefAt L wx N R):=fun wx hx=>h.below hx
 clear h
 go_enter Tryz.func61,Tryz.ntmps61
 go_wp2_with fail
 refine (unhide HS).mono ?_
 rintro e w1 ⟨rfl,hb⟩
 have HR:=hide (HH.out w1 hb)
 have HB:=hide hb
 clear hb HS HH hst
 obtain ⟨p0, -⟩:=blk_cell (l:=[_,_]) HR.out.blk 0 _ rfl
 obtain ⟨p1, -⟩:=blk_cell (l:=[_,_]) HR.out.blk 1 _ rfl
 have x0:w1.cell? ⟨L.gW,k*7,none⟩=some (L.VC k):=HR.out.wc hk 0 _ (by decide) rfl
 have x1:=HR.out.wc hk 1 _ (by decide) rfl
 have x2:=HR.out.wc hk 2 _ (by decide) rfl
 have x3:=HR.out.wc hk 3 _ (by decide) rfl
 have x4:=HR.out.wc hk 4 _ (by decide) rfl
 have x5:=HR.out.wc hk 5 _ (by decide) rfl
 have x6:=HR.out.wc hk 6 _ (by decide) rfl
 obtain ⟨ca,cc,hvc,hc63,hccap,hcells⟩:=(HR.out.code k hk).openD
 have HV:=hide hvc
 rw [hvc] at x0
 have hpl:(R.w k).place<(codeOf N k).length:=(List.getElem?_eq_some_iff.1 hi).1
 have hgi:(codeOf N k).getD (R.w k).place ⟨0,0,0,0⟩=⟨3,0,ib,ic⟩:=by rw [getD_eq _ _ _ hpl];exact (List.getElem?_eq_some_iff.1 hi).2
 obtain ⟨cb,co,rfl,hcb,hcell⟩:=hcells _ hpl
 obtain ⟨d0,d1,d2,d3⟩:=hcell w1 (Below.refl _ _)
 rw [hgi] at d0 d1 d2 d3
 dsimp only at d0 d1 d2 d3
 have hk0:(0:Int)≤(k:Int):=by omega
 have hk1:(k:Int)<(N.workers.length:Int):=by omega
 have hp0:(0:Int)≤((R.w k).place:Int):=by omega
 have hp1:((R.w k).place:Int)<((codeOf N k).length:Int):=by omega
 have z0:=lt_of_cell p0
 have z1:=lt_of_cell x0
 clear hcells hcell hgi hvc hi
 go_upto_region 33 with fail
 have hbx:((w1.alloc (.cells #[.slice (some ⟨cb,co,none⟩) (codeOf N k).length cc,.int .i64 (((R.w k).place:Int)+1),.int .i64 (ic),.int .i64 ((R.w k).r 1),.int .i64 ((R.w k).r 2),.int .i64 ((R.w k).r 3),.int .i64 (wrap64 ((R.w k).steps+1))] 92)).alloc (.cells #[.int .i64 3,.int .i64 0,.int .i64 ib,.int .i64 ic] 44)).heap[w1.heap.size]? = some (.cells #[.slice (some ⟨cb,co,none⟩) (codeOf N k).length cc,.int .i64 (((R.w k).place:Int)+1),.int .i64 (ic),.int .i64 ((R.w k).r 1),.int .i64 ((R.w k).r 2),.int .i64 ((R.w k).r 3),.int .i64 (wrap64 ((R.w k).steps+1))] 92 (0,0)):=heapOld (by simp) (heapNew rfl)
 have hbl:Below w1.heap.size w1 ((w1.alloc (.cells #[.slice (some ⟨cb,co,none⟩) (codeOf N k).length cc,.int .i64 (((R.w k).place:Int)+1),.int .i64 (ic),.int .i64 ((R.w k).r 1),.int .i64 ((R.w k).r 2),.int .i64 ((R.w k).r 3),.int .i64 (wrap64 ((R.w k).steps+1))] 92)).alloc (.cells #[.int .i64 3,.int .i64 0,.int .i64 ib,.int .i64 ic] 44)):=((Below.refl _ _).alloc (Nat.le_refl _) _).alloc (by simp) _
 have hR5:=HR.out.below hbl
 generalize (w1.alloc (.cells #[.slice (some ⟨cb,co,none⟩) (codeOf N k).length cc,.int .i64 (((R.w k).place:Int)+1),.int .i64 (ic),.int .i64 ((R.w k).r 1),.int .i64 ((R.w k).r 2),.int .i64 ((R.w k).r 3),.int .i64 (wrap64 ((R.w k).steps+1))] 92)).alloc (.cells #[.int .i64 3,.int .i64 0,.int .i64 ib,.int .i64 ic] 44)=w5 at *
 have HSx:Hid (w.heap.size≤w1.heap.size):=HB.out.size
 generalize w1.heap.size=xb at *
 clear p0 p1 x0 x1 x2 x3 x4 x5 x6 d0 d1 d2 d3 z0 z1
 obtain ⟨p1, -⟩:=blk_cell (l:=[_,_]) hR5.blk 1 _ rfl
 obtain ⟨y0, -⟩:=blk_cell (l:=[_,_,_,_,_,_,_]) hbx 0 _ rfl
 obtain ⟨y1, -⟩:=blk_cell (l:=[_,_,_,_,_,_,_]) hbx 1 _ rfl
 obtain ⟨y2, -⟩:=blk_cell (l:=[_,_,_,_,_,_,_]) hbx 2 _ rfl
 obtain ⟨y3, -⟩:=blk_cell (l:=[_,_,_,_,_,_,_]) hbx 3 _ rfl
 obtain ⟨y4, -⟩:=blk_cell (l:=[_,_,_,_,_,_,_]) hbx 4 _ rfl
 obtain ⟨y5, -⟩:=blk_cell (l:=[_,_,_,_,_,_,_]) hbx 5 _ rfl
 obtain ⟨y6, -⟩:=blk_cell (l:=[_,_,_,_,_,_,_]) hbx 6 _ rfl
 have x0:w5.cell? ⟨L.gW,k*7,none⟩=some (L.VC k):=hR5.wc hk 0 _ (by decide) rfl
 have x1:=hR5.wc hk 1 _ (by decide) rfl
 have x2:=hR5.wc hk 2 _ (by decide) rfl
 have x3:=hR5.wc hk 3 _ (by decide) rfl
 have x4:=hR5.wc hk 4 _ (by decide) rfl
 have x5:=hR5.wc hk 5 _ (by decide) rfl
 have x6:=hR5.wc hk 6 _ (by decide) rfl
 obtain ⟨cs,hbW, -⟩:=hR5.rowW
 have f0:w5.frozen? ⟨L.gW,k*7,none⟩=false:=row_frozen hbW _
 have f1:=row_frozen hbW (k*7+1)
 have f2:=row_frozen hbW (k*7+2)
 have f3:=row_frozen hbW (k*7+3)
 have f4:=row_frozen hbW (k*7+4)
 have f5:=row_frozen hbW (k*7+5)
 have f6:=row_frozen hbW (k*7+6)
 have H5:=hide hR5
 have HX5:=hide hbx
 have HL5:=hide hbl
 clear hbW hR5 hbx hbl
 refine wp_region_still_tail 7 Tryz.mixed (by kernel_rfl) ?_
 simp only [List.take_succ_cons,List.take_zero,List.drop_succ_cons,List.drop_zero]
 iterate 7 still_step
 refine wpStill_nil ?_
 show wpList _ _ _ _ _ w5.drew
 go_wp2
 go_ret
 refine ⟨rfl,?_⟩
 have:=HPut.out w5 (HB.out.trans (HL5.out.mono HSx.out))
 rw [HV.out] at this
 exact this
set_option maxRecDepth 100000 in
set_option maxHeartbeats 4000000 in
theorem refStep_set1 {L:RLay} {w:World} {N:Net} {R:Rc} (h:RefAt L w N R) (k:Nat) (hk:k<N.workers.length) (hst:stateOf N R k=1) (hco:RCodes L w N) (ib ic:Int) (hi:(codeOf N k)[(R.w k).place]? = some ⟨3,1,ib,ic⟩) :
  Calls Tryz.prog 61 #[.pointer (some ⟨L.p,0,none⟩),.int .i64 k] w fun e w'=>e=.returned (.int .i64 1)∧RStep L w N (doStep N R k) w':=by
 have HDo:Hid (doStep N R k=⟨R.W.set k ⟨(R.w k).place+1,upd (R.w k).r 1 ic,wrap64 ((R.w k).steps+1)⟩,R.S⟩):=by
  show doStep N R k=_
  unfold doStep insAt
  rw [hi]
  simp [nextW,nextS]
 have HPut:Hid (∀ w5,Below w.heap.size w w5→RStep L w N (doStep N R k) (putW w5 L.gW k (L.VC k) ⟨(R.w k).place+1,upd (R.w k).r 1 ic,wrap64 ((R.w k).steps+1)⟩).drew):=fun w5 hb=>by
  rw [HDo.out]
  exact ((RStep.of_below h hb).put hco hk ⟨(R.w k).place+1,upd (R.w k).r 1 ic,wrap64 ((R.w k).steps+1)⟩ (by show (R.w k).place+1≤_;have:=(List.getElem?_eq_some_iff.1 hi).1;omega)).drew
 clear HDo hco
 have HS:=hide (refState_calls h k hk)
 rw [hst] at HS
 have HH:Hid (∀ wx,Below w.heap.size w wx→RefAt L wx N R):=fun wx hx=>h.below hx
 clear h
 go_enter Tryz.func61,Tryz.ntmps61
 go_wp2_with fail
 refine (unhide HS).mono ?_
 rintro e w1 ⟨rfl,hb⟩
 have HR:=hide (HH.out w1 hb)
 have HB:=hide hb
 clear hb HS HH hst
 obtain ⟨p0, -⟩:=blk_cell (l:=[_,_]) HR.out.blk 0 _ rfl
 obtain ⟨p1, -⟩:=blk_cell (l:=[_,_]) HR.out.blk 1 _ rfl
 have x0:w1.cell? ⟨L.gW,k*7,none⟩=some (L.VC k):=HR.out.wc hk 0 _ (by decide) rfl
 have x1:=HR.out.wc hk 1 _ (by decide) rfl
 have x2:=HR.out.wc hk 2 _ (by decide) rfl
 have x3:=HR.out.wc hk 3 _ (by decide) rfl
 have x4:=HR.out.wc hk 4 _ (by decide) rfl
 have x5:=HR.out.wc hk 5 _ (by decide) rfl
 have x6:=HR.out.wc hk 6 _ (by decide) rfl
 obtain ⟨ca,cc,hvc,hc63,hccap,hcells⟩:=(HR.out.code k hk).openD
 have HV:=hide hvc
 rw [hvc] at x0
 have hpl:(R.w k).place<(codeOf N k).length:=(List.getElem?_eq_some_iff.1 hi).1
 have hgi:(codeOf N k).getD (R.w k).place ⟨0,0,0,0⟩=⟨3,1,ib,ic⟩:=by rw [getD_eq _ _ _ hpl];exact (List.getElem?_eq_some_iff.1 hi).2
 obtain ⟨cb,co,rfl,hcb,hcell⟩:=hcells _ hpl
 obtain ⟨d0,d1,d2,d3⟩:=hcell w1 (Below.refl _ _)
 rw [hgi] at d0 d1 d2 d3
 dsimp only at d0 d1 d2 d3
 have hk0:(0:Int)≤(k:Int):=by omega
 have hk1:(k:Int)<(N.workers.length:Int):=by omega
 have hp0:(0:Int)≤((R.w k).place:Int):=by omega
 have hp1:((R.w k).place:Int)<((codeOf N k).length:Int):=by omega
 have z0:=lt_of_cell p0
 have z1:=lt_of_cell x0
 clear hcells hcell hgi hvc hi
 go_upto_region 33 with fail
 have hbx:((w1.alloc (.cells #[.slice (some ⟨cb,co,none⟩) (codeOf N k).length cc,.int .i64 (((R.w k).place:Int)+1),.int .i64 ((R.w k).r 0),.int .i64 (ic),.int .i64 ((R.w k).r 2),.int .i64 ((R.w k).r 3),.int .i64 (wrap64 ((R.w k).steps+1))] 92)).alloc (.cells #[.int .i64 3,.int .i64 1,.int .i64 ib,.int .i64 ic] 44)).heap[w1.heap.size]? = some (.cells #[.slice (some ⟨cb,co,none⟩) (codeOf N k).length cc,.int .i64 (((R.w k).place:Int)+1),.int .i64 ((R.w k).r 0),.int .i64 (ic),.int .i64 ((R.w k).r 2),.int .i64 ((R.w k).r 3),.int .i64 (wrap64 ((R.w k).steps+1))] 92 (0,0)):=heapOld (by simp) (heapNew rfl)
 have hbl:Below w1.heap.size w1 ((w1.alloc (.cells #[.slice (some ⟨cb,co,none⟩) (codeOf N k).length cc,.int .i64 (((R.w k).place:Int)+1),.int .i64 ((R.w k).r 0),.int .i64 (ic),.int .i64 ((R.w k).r 2),.int .i64 ((R.w k).r 3),.int .i64 (wrap64 ((R.w k).steps+1))] 92)).alloc (.cells #[.int .i64 3,.int .i64 1,.int .i64 ib,.int .i64 ic] 44)):=((Below.refl _ _).alloc (Nat.le_refl _) _).alloc (by simp) _
 have hR5:=HR.out.below hbl
 generalize (w1.alloc (.cells #[.slice (some ⟨cb,co,none⟩) (codeOf N k).length cc,.int .i64 (((R.w k).place:Int)+1),.int .i64 ((R.w k).r 0),.int .i64 (ic),.int .i64 ((R.w k).r 2),.int .i64 ((R.w k).r 3),.int .i64 (wrap64 ((R.w k).steps+1))] 92)).alloc (.cells #[.int .i64 3,.int .i64 1,.int .i64 ib,.int .i64 ic] 44)=w5 at *
 have HSx:Hid (w.heap.size≤w1.heap.size):=HB.out.size
 generalize w1.heap.size=xb at *
 clear p0 p1 x0 x1 x2 x3 x4 x5 x6 d0 d1 d2 d3 z0 z1
 obtain ⟨p1, -⟩:=blk_cell (l:=[_,_]) hR5.blk 1 _ rfl
 obtain ⟨y0, -⟩:=blk_cell (l:=[_,_,_,_,_,_,_]) hbx 0 _ rfl
 obtain ⟨y1, -⟩:=blk_cell (l:=[_,_,_,_,_,_,_]) hbx 1 _ rfl
 obtain ⟨y2, -⟩:=blk_cell (l:=[_,_,_,_,_,_,_]) hbx 2 _ rfl
 obtain ⟨y3, -⟩:=blk_cell (l:=[_,_,_,_,_,_,_]) hbx 3 _ rfl
 obtain ⟨y4, -⟩:=blk_cell (l:=[_,_,_,_,_,_,_]) hbx 4 _ rfl
 obtain ⟨y5, -⟩:=blk_cell (l:=[_,_,_,_,_,_,_]) hbx 5 _ rfl
 obtain ⟨y6, -⟩:=blk_cell (l:=[_,_,_,_,_,_,_]) hbx 6 _ rfl
 have x0:w5.cell? ⟨L.gW,k*7,none⟩=some (L.VC k):=hR5.wc hk 0 _ (by decide) rfl
 have x1:=hR5.wc hk 1 _ (by decide) rfl
 have x2:=hR5.wc hk 2 _ (by decide) rfl
 have x3:=hR5.wc hk 3 _ (by decide) rfl
 have x4:=hR5.wc hk 4 _ (by decide) rfl
 have x5:=hR5.wc hk 5 _ (by decide) rfl
 have x6:=hR5.wc hk 6 _ (by decide) rfl
 obtain ⟨cs,hbW, -⟩:=hR5.rowW
 have f0:w5.frozen? ⟨L.gW,k*7,none⟩=false:=row_frozen hbW _
 have f1:=row_frozen hbW (k*7+1)
 have f2:=row_frozen hbW (k*7+2)
 have f3:=row_frozen hbW (k*7+3)
 have f4:=row_frozen hbW (k*7+4)
 have f5:=row_frozen hbW (k*7+5)
 have f6:=row_frozen hbW (k*7+6)
 have H5:=hide hR5
 have HX5:=hide hbx
 have HL5:=hide hbl
 clear hbW hR5 hbx hbl
 refine wp_region_still_tail 7 Tryz.mixed (by kernel_rfl) ?_
 simp only [List.take_succ_cons,List.take_zero,List.drop_succ_cons,List.drop_zero]
 iterate 7 still_step
 refine wpStill_nil ?_
 show wpList _ _ _ _ _ w5.drew
 go_wp2
 go_ret
 refine ⟨rfl,?_⟩
 have:=HPut.out w5 (HB.out.trans (HL5.out.mono HSx.out))
 rw [HV.out] at this
 exact this
set_option maxRecDepth 100000 in
set_option maxHeartbeats 4000000 in
theorem refStep_set2 {L:RLay} {w:World} {N:Net} {R:Rc} (h:RefAt L w N R) (k:Nat) (hk:k<N.workers.length) (hst:stateOf N R k=1) (hco:RCodes L w N) (ib ic:Int) (hi:(codeOf N k)[(R.w k).place]? = some ⟨3,2,ib,ic⟩) :
  Calls Tryz.prog 61 #[.pointer (some ⟨L.p,0,none⟩),.int .i64 k] w fun e w'=>e=.returned (.int .i64 1)∧RStep L w N (doStep N R k) w':=by
 have HDo:Hid (doStep N R k=⟨R.W.set k ⟨(R.w k).place+1,upd (R.w k).r 2 ic,wrap64 ((R.w k).steps+1)⟩,R.S⟩):=by
  show doStep N R k=_
  unfold doStep insAt
  rw [hi]
  simp [nextW,nextS]
 have HPut:Hid (∀ w5,Below w.heap.size w w5→RStep L w N (doStep N R k) (putW w5 L.gW k (L.VC k) ⟨(R.w k).place+1,upd (R.w k).r 2 ic,wrap64 ((R.w k).steps+1)⟩).drew):=fun w5 hb=>by
  rw [HDo.out]
  exact ((RStep.of_below h hb).put hco hk ⟨(R.w k).place+1,upd (R.w k).r 2 ic,wrap64 ((R.w k).steps+1)⟩ (by show (R.w k).place+1≤_;have:=(List.getElem?_eq_some_iff.1 hi).1;omega)).drew
 clear HDo hco
 have HS:=hide (refState_calls h k hk)
 rw [hst] at HS
 have HH:Hid (∀ wx,Below w.heap.size w wx→RefAt L wx N R):=fun wx hx=>h.below hx
 clear h
 go_enter Tryz.func61,Tryz.ntmps61
 go_wp2_with fail
 refine (unhide HS).mono ?_
 rintro e w1 ⟨rfl,hb⟩
 have HR:=hide (HH.out w1 hb)
 have HB:=hide hb
 clear hb HS HH hst
 obtain ⟨p0, -⟩:=blk_cell (l:=[_,_]) HR.out.blk 0 _ rfl
 obtain ⟨p1, -⟩:=blk_cell (l:=[_,_]) HR.out.blk 1 _ rfl
 have x0:w1.cell? ⟨L.gW,k*7,none⟩=some (L.VC k):=HR.out.wc hk 0 _ (by decide) rfl
 have x1:=HR.out.wc hk 1 _ (by decide) rfl
 have x2:=HR.out.wc hk 2 _ (by decide) rfl
 have x3:=HR.out.wc hk 3 _ (by decide) rfl
 have x4:=HR.out.wc hk 4 _ (by decide) rfl
 have x5:=HR.out.wc hk 5 _ (by decide) rfl
 have x6:=HR.out.wc hk 6 _ (by decide) rfl
 obtain ⟨ca,cc,hvc,hc63,hccap,hcells⟩:=(HR.out.code k hk).openD
 have HV:=hide hvc
 rw [hvc] at x0
 have hpl:(R.w k).place<(codeOf N k).length:=(List.getElem?_eq_some_iff.1 hi).1
 have hgi:(codeOf N k).getD (R.w k).place ⟨0,0,0,0⟩=⟨3,2,ib,ic⟩:=by rw [getD_eq _ _ _ hpl];exact (List.getElem?_eq_some_iff.1 hi).2
 obtain ⟨cb,co,rfl,hcb,hcell⟩:=hcells _ hpl
 obtain ⟨d0,d1,d2,d3⟩:=hcell w1 (Below.refl _ _)
 rw [hgi] at d0 d1 d2 d3
 dsimp only at d0 d1 d2 d3
 have hk0:(0:Int)≤(k:Int):=by omega
 have hk1:(k:Int)<(N.workers.length:Int):=by omega
 have hp0:(0:Int)≤((R.w k).place:Int):=by omega
 have hp1:((R.w k).place:Int)<((codeOf N k).length:Int):=by omega
 have z0:=lt_of_cell p0
 have z1:=lt_of_cell x0
 clear hcells hcell hgi hvc hi
 go_upto_region 33 with fail
 have hbx:((w1.alloc (.cells #[.slice (some ⟨cb,co,none⟩) (codeOf N k).length cc,.int .i64 (((R.w k).place:Int)+1),.int .i64 ((R.w k).r 0),.int .i64 ((R.w k).r 1),.int .i64 (ic),.int .i64 ((R.w k).r 3),.int .i64 (wrap64 ((R.w k).steps+1))] 92)).alloc (.cells #[.int .i64 3,.int .i64 2,.int .i64 ib,.int .i64 ic] 44)).heap[w1.heap.size]? = some (.cells #[.slice (some ⟨cb,co,none⟩) (codeOf N k).length cc,.int .i64 (((R.w k).place:Int)+1),.int .i64 ((R.w k).r 0),.int .i64 ((R.w k).r 1),.int .i64 (ic),.int .i64 ((R.w k).r 3),.int .i64 (wrap64 ((R.w k).steps+1))] 92 (0,0)):=heapOld (by simp) (heapNew rfl)
 have hbl:Below w1.heap.size w1 ((w1.alloc (.cells #[.slice (some ⟨cb,co,none⟩) (codeOf N k).length cc,.int .i64 (((R.w k).place:Int)+1),.int .i64 ((R.w k).r 0),.int .i64 ((R.w k).r 1),.int .i64 (ic),.int .i64 ((R.w k).r 3),.int .i64 (wrap64 ((R.w k).steps+1))] 92)).alloc (.cells #[.int .i64 3,.int .i64 2,.int .i64 ib,.int .i64 ic] 44)):=((Below.refl _ _).alloc (Nat.le_refl _) _).alloc (by simp) _
 have hR5:=HR.out.below hbl
 generalize (w1.alloc (.cells #[.slice (some ⟨cb,co,none⟩) (codeOf N k).length cc,.int .i64 (((R.w k).place:Int)+1),.int .i64 ((R.w k).r 0),.int .i64 ((R.w k).r 1),.int .i64 (ic),.int .i64 ((R.w k).r 3),.int .i64 (wrap64 ((R.w k).steps+1))] 92)).alloc (.cells #[.int .i64 3,.int .i64 2,.int .i64 ib,.int .i64 ic] 44)=w5 at *
 have HSx:Hid (w.heap.size≤w1.heap.size):=HB.out.size
 generalize w1.heap.size=xb at *
 clear p0 p1 x0 x1 x2 x3 x4 x5 x6 d0 d1 d2 d3 z0 z1
 obtain ⟨p1, -⟩:=blk_cell (l:=[_,_]) hR5.blk 1 _ rfl
 obtain ⟨y0, -⟩:=blk_cell (l:=[_,_,_,_,_,_,_]) hbx 0 _ rfl
 obtain ⟨y1, -⟩:=blk_cell (l:=[_,_,_,_,_,_,_]) hbx 1 _ rfl
 obtain ⟨y2, -⟩:=blk_cell (l:=[_,_,_,_,_,_,_]) hbx 2 _ rfl
 obtain ⟨y3, -⟩:=blk_cell (l:=[_,_,_,_,_,_,_]) hbx 3 _ rfl
 obtain ⟨y4, -⟩:=blk_cell (l:=[_,_,_,_,_,_,_]) hbx 4 _ rfl
 obtain ⟨y5, -⟩:=blk_cell (l:=[_,_,_,_,_,_,_]) hbx 5 _ rfl
 obtain ⟨y6, -⟩:=blk_cell (l:=[_,_,_,_,_,_,_]) hbx 6 _ rfl
 have x0:w5.cell? ⟨L.gW,k*7,none⟩=some (L.VC k):=hR5.wc hk 0 _ (by decide) rfl
 have x1:=hR5.wc hk 1 _ (by decide) rfl
 have x2:=hR5.wc hk 2 _ (by decide) rfl
 have x3:=hR5.wc hk 3 _ (by decide) rfl
 have x4:=hR5.wc hk 4 _ (by decide) rfl
 have x5:=hR5.wc hk 5 _ (by decide) rfl
 have x6:=hR5.wc hk 6 _ (by decide) rfl
 obtain ⟨cs,hbW, -⟩:=hR5.rowW
 have f0:w5.frozen? ⟨L.gW,k*7,none⟩=false:=row_frozen hbW _
 have f1:=row_frozen hbW (k*7+1)
 have f2:=row_frozen hbW (k*7+2)
 have f3:=row_frozen hbW (k*7+3)
 have f4:=row_frozen hbW (k*7+4)
 have f5:=row_frozen hbW (k*7+5)
 have f6:=row_frozen hbW (k*7+6)
 have H5:=hide hR5
 have HX5:=hide hbx
 have HL5:=hide hbl
 clear hbW hR5 hbx hbl
 refine wp_region_still_tail 7 Tryz.mixed (by kernel_rfl) ?_
 simp only [List.take_succ_cons,List.take_zero,List.drop_succ_cons,List.drop_zero]
 iterate 7 still_step
 refine wpStill_nil ?_
 show wpList _ _ _ _ _ w5.drew
 go_wp2
 go_ret
 refine ⟨rfl,?_⟩
 have:=HPut.out w5 (HB.out.trans (HL5.out.mono HSx.out))
 rw [HV.out] at this
 exact this
set_option maxRecDepth 100000 in
set_option maxHeartbeats 4000000 in
theorem refStep_set3 {L:RLay} {w:World} {N:Net} {R:Rc} (h:RefAt L w N R) (k:Nat) (hk:k<N.workers.length) (hst:stateOf N R k=1) (hco:RCodes L w N) (ib ic:Int) (hi:(codeOf N k)[(R.w k).place]? = some ⟨3,3,ib,ic⟩) :
  Calls Tryz.prog 61 #[.pointer (some ⟨L.p,0,none⟩),.int .i64 k] w fun e w'=>e=.returned (.int .i64 1)∧RStep L w N (doStep N R k) w':=by
 have HDo:Hid (doStep N R k=⟨R.W.set k ⟨(R.w k).place+1,upd (R.w k).r 3 ic,wrap64 ((R.w k).steps+1)⟩,R.S⟩):=by
  show doStep N R k=_
  unfold doStep insAt
  rw [hi]
  simp [nextW,nextS]
 have HPut:Hid (∀ w5,Below w.heap.size w w5→RStep L w N (doStep N R k) (putW w5 L.gW k (L.VC k) ⟨(R.w k).place+1,upd (R.w k).r 3 ic,wrap64 ((R.w k).steps+1)⟩).drew):=fun w5 hb=>by
  rw [HDo.out]
  exact ((RStep.of_below h hb).put hco hk ⟨(R.w k).place+1,upd (R.w k).r 3 ic,wrap64 ((R.w k).steps+1)⟩ (by show (R.w k).place+1≤_;have:=(List.getElem?_eq_some_iff.1 hi).1;omega)).drew
 clear HDo hco
 have HS:=hide (refState_calls h k hk)
 rw [hst] at HS
 have HH:Hid (∀ wx,Below w.heap.size w wx→RefAt L wx N R):=fun wx hx=>h.below hx
 clear h
 go_enter Tryz.func61,Tryz.ntmps61
 go_wp2_with fail
 refine (unhide HS).mono ?_
 rintro e w1 ⟨rfl,hb⟩
 have HR:=hide (HH.out w1 hb)
 have HB:=hide hb
 clear hb HS HH hst
 obtain ⟨p0, -⟩:=blk_cell (l:=[_,_]) HR.out.blk 0 _ rfl
 obtain ⟨p1, -⟩:=blk_cell (l:=[_,_]) HR.out.blk 1 _ rfl
 have x0:w1.cell? ⟨L.gW,k*7,none⟩=some (L.VC k):=HR.out.wc hk 0 _ (by decide) rfl
 have x1:=HR.out.wc hk 1 _ (by decide) rfl
 have x2:=HR.out.wc hk 2 _ (by decide) rfl
 have x3:=HR.out.wc hk 3 _ (by decide) rfl
 have x4:=HR.out.wc hk 4 _ (by decide) rfl
 have x5:=HR.out.wc hk 5 _ (by decide) rfl
 have x6:=HR.out.wc hk 6 _ (by decide) rfl
 obtain ⟨ca,cc,hvc,hc63,hccap,hcells⟩:=(HR.out.code k hk).openD
 have HV:=hide hvc
 rw [hvc] at x0
 have hpl:(R.w k).place<(codeOf N k).length:=(List.getElem?_eq_some_iff.1 hi).1
 have hgi:(codeOf N k).getD (R.w k).place ⟨0,0,0,0⟩=⟨3,3,ib,ic⟩:=by rw [getD_eq _ _ _ hpl];exact (List.getElem?_eq_some_iff.1 hi).2
 obtain ⟨cb,co,rfl,hcb,hcell⟩:=hcells _ hpl
 obtain ⟨d0,d1,d2,d3⟩:=hcell w1 (Below.refl _ _)
 rw [hgi] at d0 d1 d2 d3
 dsimp only at d0 d1 d2 d3
 have hk0:(0:Int)≤(k:Int):=by omega
 have hk1:(k:Int)<(N.workers.length:Int):=by omega
 have hp0:(0:Int)≤((R.w k).place:Int):=by omega
 have hp1:((R.w k).place:Int)<((codeOf N k).length:Int):=by omega
 have z0:=lt_of_cell p0
 have z1:=lt_of_cell x0
 clear hcells hcell hgi hvc hi
 go_upto_region 33 with fail
 have hbx:((w1.alloc (.cells #[.slice (some ⟨cb,co,none⟩) (codeOf N k).length cc,.int .i64 (((R.w k).place:Int)+1),.int .i64 ((R.w k).r 0),.int .i64 ((R.w k).r 1),.int .i64 ((R.w k).r 2),.int .i64 (ic),.int .i64 (wrap64 ((R.w k).steps+1))] 92)).alloc (.cells #[.int .i64 3,.int .i64 3,.int .i64 ib,.int .i64 ic] 44)).heap[w1.heap.size]? = some (.cells #[.slice (some ⟨cb,co,none⟩) (codeOf N k).length cc,.int .i64 (((R.w k).place:Int)+1),.int .i64 ((R.w k).r 0),.int .i64 ((R.w k).r 1),.int .i64 ((R.w k).r 2),.int .i64 (ic),.int .i64 (wrap64 ((R.w k).steps+1))] 92 (0,0)):=heapOld (by simp) (heapNew rfl)
 have hbl:Below w1.heap.size w1 ((w1.alloc (.cells #[.slice (some ⟨cb,co,none⟩) (codeOf N k).length cc,.int .i64 (((R.w k).place:Int)+1),.int .i64 ((R.w k).r 0),.int .i64 ((R.w k).r 1),.int .i64 ((R.w k).r 2),.int .i64 (ic),.int .i64 (wrap64 ((R.w k).steps+1))] 92)).alloc (.cells #[.int .i64 3,.int .i64 3,.int .i64 ib,.int .i64 ic] 44)):=((Below.refl _ _).alloc (Nat.le_refl _) _).alloc (by simp) _
 have hR5:=HR.out.below hbl
 generalize (w1.alloc (.cells #[.slice (some ⟨cb,co,none⟩) (codeOf N k).length cc,.int .i64 (((R.w k).place:Int)+1),.int .i64 ((R.w k).r 0),.int .i64 ((R.w k).r 1),.int .i64 ((R.w k).r 2),.int .i64 (ic),.int .i64 (wrap64 ((R.w k).steps+1))] 92)).alloc (.cells #[.int .i64 3,.int .i64 3,.int .i64 ib,.int .i64 ic] 44)=w5 at *
 have HSx:Hid (w.heap.size≤w1.heap.size):=HB.out.size
 generalize w1.heap.size=xb at *
 clear p0 p1 x0 x1 x2 x3 x4 x5 x6 d0 d1 d2 d3 z0 z1
 obtain ⟨p1, -⟩:=blk_cell (l:=[_,_]) hR5.blk 1 _ rfl
 obtain ⟨y0, -⟩:=blk_cell (l:=[_,_,_,_,_,_,_]) hbx 0 _ rfl
 obtain ⟨y1, -⟩:=blk_cell (l:=[_,_,_,_,_,_,_]) hbx 1 _ rfl
 obtain ⟨y2, -⟩:=blk_cell (l:=[_,_,_,_,_,_,_]) hbx 2 _ rfl
 obtain ⟨y3, -⟩:=blk_cell (l:=[_,_,_,_,_,_,_]) hbx 3 _ rfl
 obtain ⟨y4, -⟩:=blk_cell (l:=[_,_,_,_,_,_,_]) hbx 4 _ rfl
 obtain ⟨y5, -⟩:=blk_cell (l:=[_,_,_,_,_,_,_]) hbx 5 _ rfl
 obtain ⟨y6, -⟩:=blk_cell (l:=[_,_,_,_,_,_,_]) hbx 6 _ rfl
 have x0:w5.cell? ⟨L.gW,k*7,none⟩=some (L.VC k):=hR5.wc hk 0 _ (by decide) rfl
 have x1:=hR5.wc hk 1 _ (by decide) rfl
 have x2:=hR5.wc hk 2 _ (by decide) rfl
 have x3:=hR5.wc hk 3 _ (by decide) rfl
 have x4:=hR5.wc hk 4 _ (by decide) rfl
 have x5:=hR5.wc hk 5 _ (by decide) rfl
 have x6:=hR5.wc hk 6 _ (by decide) rfl
 obtain ⟨cs,hbW, -⟩:=hR5.rowW
 have f0:w5.frozen? ⟨L.gW,k*7,none⟩=false:=row_frozen hbW _
 have f1:=row_frozen hbW (k*7+1)
 have f2:=row_frozen hbW (k*7+2)
 have f3:=row_frozen hbW (k*7+3)
 have f4:=row_frozen hbW (k*7+4)
 have f5:=row_frozen hbW (k*7+5)
 have f6:=row_frozen hbW (k*7+6)
 have H5:=hide hR5
 have HX5:=hide hbx
 have HL5:=hide hbl
 clear hbW hR5 hbx hbl
 refine wp_region_still_tail 7 Tryz.mixed (by kernel_rfl) ?_
 simp only [List.take_succ_cons,List.take_zero,List.drop_succ_cons,List.drop_zero]
 iterate 7 still_step
 refine wpStill_nil ?_
 show wpList _ _ _ _ _ w5.drew
 go_wp2
 go_ret
 refine ⟨rfl,?_⟩
 have:=HPut.out w5 (HB.out.trans (HL5.out.mono HSx.out))
 rw [HV.out] at this
 exact this
def firstCode:List Ins:=[⟨1,0,0,3⟩,⟨4,0,0,0⟩,⟨2,0,1,0⟩]
def firstNet:Net:=⟨[2,1],[⟨0,[5,6]⟩],[firstCode]⟩
theorem bk_new {base:Nat} {col:Nat→Nat} {w:World} {p:Nat} (hp:w.heap[p]? = some (.cells #[.slice none 0 0,.slice none 0 0,.slice none 0 0,.slice none 0 0,.slice none 0 0,.slice none 0 0,.slice none 0 0,.slice none 0 0] 35 (0,0))) (hc:col p=0) (hge:base≤p) (hlow:∀ b,b<base→90≤col b):Bk base col w p (.slice none 0 0) 0:=by
 have hall:∀ r,r≤7→w.cell? ⟨p,r,none⟩=some (.slice none 0 0):=fun r h=>by
  refine (blk_cell (l:=List.replicate 8 (.slice none 0 0)) hp r _ ?_).1
  rw [List.getElem?_replicate,if_pos (by omega)]
 refine ⟨⟨List.replicate 8 (.slice none 0 0),hp,by simp⟩,hc,hge,hall 0 (by omega),fun r h1 h7=>⟨.slice none 0 0,[],hall r h7,⟨rfl,Or.inl ⟨rfl,rfl⟩⟩,fun g hg=>?_,by simp,by simp,fun i hi=>?_,fun u hu=>?_⟩,hlow⟩
 ·cases hg
 ·cases hi
 ·cases hu
theorem first_net {w:World} {n1 n2 n3 n4 n5:Nat} (h1:w.heap[n1]? = some (.cells #[.int .i64 2,.int .i64 1] 3 (0,0))) (h2:w.heap[n2]? = some (.cells #[.int .i64 5,.int .i64 6] 3 (0,0))) (h3:w.heap[n3]? = some (.cells #[.int .i64 0,.slice (some ⟨n2,0,none⟩) 2 2] 42 (0,0)))
  (h4:w.heap[n4]? = some (.cells (codeRow firstCode).toArray 44 (0,0))) (h5:w.heap[n5]? = some (.cells #[.slice (some ⟨n4,0,none⟩) 3 3] 45 (0,0))) :
  NetAt w (.agg #[.slice (some ⟨n1,0,none⟩) 2 2,.slice (some ⟨n3,0,none⟩) 1 1,.slice (some ⟨n5,0,none⟩) 1 1]) firstNet:=by
 refine ⟨_,_,_,rfl,⟨_,_,rfl,show (2:Nat)≤_ by decide,show (2:Nat)≤2 by decide,Or.inr ⟨n1,0,rfl,fun i hi j hj=>?_⟩⟩,⟨fun _=>.slice (some ⟨n2,0,none⟩) 2 2,⟨_,_,rfl,show (1:Nat)≤_ by decide,show (1:Nat)≤1 by decide,Or.inr ⟨n3,0,rfl,fun i hi j hj=>?_⟩⟩,fun i hi=>?_⟩,
  ⟨fun _=>.slice (some ⟨n4,0,none⟩) 3 3,⟨_,_,rfl,show (1:Nat)≤_ by decide,show (1:Nat)≤1 by decide,Or.inr ⟨n5,0,rfl,fun i hi j hj=>?_⟩⟩,fun i hi=>?_⟩⟩
 ·have hi':i<2:=hi
  have hc:(i=0∨i=1)∧j=0:=by omega
  obtain ⟨rfl | rfl,rfl⟩:=hc<;>exact row_cell (l:=[_,_]) h1 rfl
 ·have hi':i<1:=hi
  have hc:i=0∧(j=0∨j=1):=by omega
  obtain ⟨rfl,rfl | rfl⟩:=hc<;>exact row_cell (l:=[_,_]) h3 rfl
 ·have hi':i<1:=hi
  have hc:i=0:=by omega
  subst hc
  refine ⟨_,_,rfl,show (2:Nat)≤_ by decide,show (2:Nat)≤2 by decide,Or.inr ⟨n2,0,rfl,fun i hi j hj=>?_⟩⟩
  have hi':i<2:=hi
  have hc:(i=0∨i=1)∧j=0:=by omega
  obtain ⟨rfl | rfl,rfl⟩:=hc<;>exact row_cell (l:=[_,_]) h2 rfl
 ·have hi':i<1:=hi
  have hc:i=0∧j=0:=by omega
  obtain ⟨rfl,rfl⟩:=hc
  exact row_cell (l:=[_]) h5 rfl
 ·have hi':i<1:=hi
  have hc:i=0:=by omega
  subst hc
  refine ⟨_,_,rfl,show (3:Nat)≤_ by decide,show (3:Nat)≤3 by decide,Or.inr ⟨n4,0,rfl,fun i hi j hj=>?_⟩⟩
  have:=codeRow_get firstCode i hi j hj
  show w.cell? _=some ((firstCode.getD i _).cell j)
  rw [getD_eq firstCode i _ hi,Nat.zero_add]
  exact row_cell h4 this
theorem first_valid:validB firstNet=true:=by decide +kernel
theorem first_short:ShortNet firstNet:=by
 simp [ShortNet,firstNet,firstCode,Fits]
theorem has_run {A:Nat→Prop} {p:Nat} {N:Net} {R:Rc} {w:World} (h:Has A p N R w) {l:List Int} {v:Value} (hv:IntsAt w v l) (hsep:∀ b,v.ownBlock=some b→A b) (hro:RoomR N R) (hw:∀ s,s<N.streams.length→(R.s s).words.length+l.length<4398046511104) :
  Calls Tryz.prog 10 #[.pointer (some ⟨p,0,none⟩),v] w fun e w'=>
   e=.returned (.tuple #[.int .i64 (runM N l 0 R).1,.int .i64 (runM N l 0 R).2.1])∧Has A p N (runM N l 0 R).2.2 w'∧Keeps A w w':=by
 obtain ⟨L,rfl,h2,h3⟩:=h.ex
 exact (rrun_calls h2 hv (fun b hb hf=>h3 b hf (hsep b hb)) hro hw).mono fun e w' ⟨h4,h5⟩=>⟨h4,Has.went h3 h.lt h5⟩
def firstMem (w:World):World:=(((((w.alloc (.cells #[.slice none 0 0,.slice none 0 0,.slice none 0 0,.slice none 0 0,.slice none 0 0,.slice none 0 0,.slice none 0 0,.slice none 0 0] 35)).alloc (.cells #[.int .i64 2,.int .i64 1] 3)).alloc (.cells #[.int .i64 5,.int .i64 6] 3)).alloc
 (.cells #[.int .i64 0,.slice (some ⟨w.heap.size+1+1,0,none⟩) 2 2] 42)).alloc (.cells #[.int .i64 1,.int .i64 0,.int .i64 0,.int .i64 3,.int .i64 4,.int .i64 0,.int .i64 0,.int .i64 0,.int .i64 2,.int .i64 0,.int .i64 1,.int .i64 0] 44)).alloc (.cells #[.slice (some ⟨w.heap.size+1+1+1+1,0,none⟩) 3 3] 45)
theorem firstMem_size (w:World):(firstMem w).heap.size=w.heap.size+6:=by simp [firstMem]
theorem firstMem_below (w:World):Below w.heap.size w (firstMem w):=by
 unfold firstMem
 exact ((((((Below.refl _ w).alloc (Nat.le_refl _) _).alloc (by simp) _).alloc (by simp;omega) _).alloc (by simp;omega) _).alloc (by simp;omega) _).alloc (by simp;omega) _
structure FirstAt (w w':World) (g cap sd x:Nat) (A:Nat→Prop):Prop where
 c0:w'.cell? ⟨w.heap.size,0,none⟩=some (.slice (some ⟨g,0,none⟩) 1 cap)
 c1:w'.cell? ⟨g,0,none⟩=some (.pointer (some ⟨sd,0,none⟩))
 c2:w'.cell? ⟨sd,0,none⟩=some (.pointer (some ⟨x,0,none⟩))
 has:Has A x firstNet (initR firstNet firstNet.streams) w'
 low:∀ b,b<w.heap.size→A b
 below:Below w.heap.size w w'
theorem first_opens (w:World) :
  Calls Tryz.prog 8 #[.pointer (some ⟨w.heap.size,0,none⟩),.agg #[.slice (some ⟨w.heap.size+1,0,none⟩) 2 2,.slice (some ⟨w.heap.size+1+1+1,0,none⟩) 1 1,.slice (some ⟨w.heap.size+1+1+1+1+1,0,none⟩) 1 1],.bool true] (firstMem w) fun e w'=>e=.returned (.bool true)∧∃ g cap sd x A,FirstAt w w' g cap sd x A:=by
 let col:Nat→Nat:=fun b=>if b<w.heap.size then 99 else if b=w.heap.size then 0 else if b<w.heap.size+6 then 90 else 8
 have k1:∀ b,b<w.heap.size→col b=99:=fun b h=>by simp [col,h]
 have k2:col w.heap.size=0:=by simp [col]
 have k3:∀ b,w.heap.size<b→b<w.heap.size+6→col b=90:=fun b h h'=>by
  have e1:¬ b<w.heap.size:=by omega
  have e2:b≠w.heap.size:=by omega
  simp [col,e1,e2,h']
 have b0:(firstMem w).heap[w.heap.size]? = some (.cells #[.slice none 0 0,.slice none 0 0,.slice none 0 0,.slice none 0 0,.slice none 0 0,.slice none 0 0,.slice none 0 0,.slice none 0 0] 35 (0,0)):=
  heapOld (by simp;omega) (heapOld (by simp;omega) (heapOld (by simp;omega) (heapOld (by simp;omega) (heapOld (by simp) (heapNew rfl)))))
 have b1:(firstMem w).heap[w.heap.size+1]? = some (.cells #[.int .i64 2,.int .i64 1] 3 (0,0)):=
  heapOld (by simp) (heapOld (by simp) (heapOld (by simp) (heapOld (by simp) (heapNew (by simp)))))
 have b2:(firstMem w).heap[w.heap.size+1+1]? = some (.cells #[.int .i64 5,.int .i64 6] 3 (0,0)):=
  heapOld (by simp) (heapOld (by simp) (heapOld (by simp) (heapNew (by simp))))
 have b3:(firstMem w).heap[w.heap.size+1+1+1]? = some (.cells #[.int .i64 0,.slice (some ⟨w.heap.size+1+1,0,none⟩) 2 2] 42 (0,0)):=
  heapOld (by simp) (heapOld (by simp) (heapNew (by simp)))
 have b4:(firstMem w).heap[w.heap.size+1+1+1+1]? = some (.cells (codeRow firstCode).toArray 44 (0,0)):=
  heapOld (by simp) (heapNew (by simp))
 have b5:(firstMem w).heap[w.heap.size+1+1+1+1+1]? = some (.cells #[.slice (some ⟨w.heap.size+1+1+1+1,0,none⟩) 3 3] 45 (0,0)):=heapNew (by simp)
 have hbk:Bk w.heap.size col (firstMem w) w.heap.size (.slice none 0 0) 0:=bk_new b0 k2 (Nat.le_refl _) (fun b h=>by rw [k1 b h];omega)
 have hns:NetStays w.heap.size col (firstMem w) (.agg #[.slice (some ⟨w.heap.size+1,0,none⟩) 2 2,.slice (some ⟨w.heap.size+1+1+1,0,none⟩) 1 1,.slice (some ⟨w.heap.size+1+1+1+1+1,0,none⟩) 1 1]) firstNet:=fun wx hx=>by
  have hk:∀ b,w.heap.size<b→b<w.heap.size+6→wx.heap[b]? = (firstMem w).heap[b]? := fun b h h'=>hx.block b (by rw [firstMem_size];omega) (fun e=>by have:=e.2;rw [k3 b h h'] at this;omega)
  exact first_net ((hk _ (by omega) (by omega)).trans b1) ((hk _ (by omega) (by omega)).trans b2) ((hk _ (by omega) (by omega)).trans b3) ((hk _ (by omega) (by omega)).trans b4) ((hk _ (by omega) (by omega)).trans b5)
 refine (opens_add (vals:=[]) none 30 31 (by decide) (by decide) (by decide) (by decide) hbk ⟨rfl,Or.inl ⟨rfl,rfl⟩⟩ (fun g hg=>by cases hg) (by simp) hns first_short (by decide) first_valid (fun wz ez=>by cases ez)).mono fun e w' ⟨he,ha⟩=>⟨he,?_⟩
 obtain ⟨col',v0',sd,x,y,vs,vr,vw, -,q1,q2,q3,q4,q5,q6,q7, -,q8,q9,q10⟩:=ha.ex
 obtain ⟨a,cap,rfl,hcap,hg⟩:=own_row_get q2
 obtain ⟨g,rfl,hcell⟩:=hg 0 (by simp)
 refine ⟨g,cap,sd,x,_,q1.c0,hcell,(blk_cell (l:=[_,_,_,_,_]) q6 0 _ rfl).1,q7,fun b h=>?_,(firstMem_below w).trans ⟨q8.os,q8.tape,q8.output,q8.size,fun b h=>q8.block b (by rw [firstMem_size];omega) (fun e=>by have:=e.1;omega)⟩⟩
 have hs:=q8.size
 rw [firstMem_size] at hs
 refine ⟨by omega,?_⟩
 rw [q9 b (by rw [firstMem_size];omega) (by rw [k1 b h];omega),k1 b h];omega
theorem first_goes:(runM firstNet [0,0,0,0] 0 (initR firstNet firstNet.streams)).1=3∧(runM firstNet [0,0,0,0] 0 (initR firstNet firstNet.streams)).2.1=0∧histOf (srcd firstNet 1) ((runM firstNet [0,0,0,0] 0 (initR firstNet firstNet.streams)).2.2.s 1)=[10]:=by decide +kernel
set_option maxRecDepth 100000 in
set_option maxHeartbeats 4000000 in
theorem first_calls (w:World) :
  Calls Tryz.prog 7 #[] w fun e w'=>e=.returned (.bool true)∧Below w.heap.size w w':=by
 have HOp:=hide (first_opens w)
 obtain ⟨g1,g2,g3⟩:=first_goes
 have HRun:Hid (∀ wx x A,Has A x firstNet (initR firstNet firstNet.streams) wx→Calls Tryz.prog 10 #[.pointer (some ⟨x,0,none⟩),.slice (some ⟨wx.heap.size,0,none⟩) 4 4] (wx.alloc (.cells #[.int .i64 0,.int .i64 0,.int .i64 0,.int .i64 0] 3)) fun e w'=>e=.returned (.tuple #[.int .i64 3,.int .i64 0])∧Has A x firstNet (runM firstNet [0,0,0,0] 0 (initR firstNet firstNet.streams)).2.2 w'∧Keeps A wx w'):=fun wx x A hx=>by
  have hbl:Below wx.heap.size wx (wx.alloc (.cells #[.int .i64 0,.int .i64 0,.int .i64 0,.int .i64 0] 3)):=(Below.refl _ _).alloc (Nat.le_refl _) _
  have hnew:(wx.alloc (.cells #[.int .i64 0,.int .i64 0,.int .i64 0,.int .i64 0] 3)).heap[wx.heap.size]? = some (.cells #[.int .i64 0,.int .i64 0,.int .i64 0,.int .i64 0] 3 (0,0)):=heapNew rfl
  have hi:IntsAt (wx.alloc (.cells #[.int .i64 0,.int .i64 0,.int .i64 0,.int .i64 0] 3)) (.slice (some ⟨wx.heap.size,0,none⟩) 4 4) [0,0,0,0]:=by
   refine ⟨_,_,rfl,show (4:Nat)≤_ by decide,show (4:Nat)≤4 by decide,Or.inr ⟨wx.heap.size,0,rfl,fun i hi j hj=>?_⟩⟩
   have hi':i<4:=hi
   have hc:(i=0∨i=1∨i=2∨i=3)∧j=0:=by omega
   obtain ⟨rfl | rfl | rfl | rfl,rfl⟩:=hc<;>exact row_cell (l:=[_,_,_,_]) hnew rfl
  refine (has_run (hx.add hbl) hi (fun b hb=>?_) (init_roomR first_valid) (fun s hs=>?_)).mono fun e w' ⟨h1,h2,h3⟩=>⟨?_,h2.mono fun b h=>Or.inl h,?_⟩
  ·have:wx.heap.size=b:=by simpa [Value.ownBlock] using hb
   exact Or.inr (by simp;omega)
  ·have hs':s<2:=hs
   have hc:s=0∨s=1:=by omega
   rcases hc with rfl | rfl<;>decide +kernel
  ·rw [h1,g1,g2];rfl
  ·exact (Keeps.of_below hbl).trans (Fr.mono h3 fun b _ h h'=>h (Or.inl h'))
 have HHi:Hid (∀ wx x A,Has A x firstNet (runM firstNet [0,0,0,0] 0 (initR firstNet firstNet.streams)).2.2 wx→Calls Tryz.prog 11 #[.pointer (some ⟨x,0,none⟩),.int .i64 1] wx fun e w'=>∃ g c,e=.returned (.tuple #[.slice (some ⟨g,0,none⟩) 1 c,.int .i64 0])∧w'.cell? ⟨g,0,none⟩=some (.int .i64 10)∧1≤c∧Below wx.heap.size wx w'):=fun wx x A hx=>by
  refine (has_history hx 1 (by decide)).mono fun e w' ⟨a',c',h1,h2,h3⟩=>?_
  rw [g3] at h1 h2
  obtain ⟨a,cap,e2,hcap,hg⟩:=own_row_get h2
  cases e2
  obtain ⟨g,rfl,hcell⟩:=hg 0 (by simp [intRow])
  exact ⟨g,c',h1,hcell,hcap,h3⟩
 generalize (runM firstNet [0,0,0,0] 0 (initR firstNet firstNet.streams)).2.2=R' at *
 clear g1 g2 g3
 go_enter Tryz.func7,Tryz.ntmps7
 go_wp2_with fail
 refine (unhide HOp).mono ?_
 rintro e w1 ⟨rfl,g,cap,sd,x,A,hF⟩
 have c0:=hF.c0
 have c1:=hF.c1
 have c2:=hF.c2
 have HF:=hide hF
 clear hF HOp
 go_wp2_with fail
 refine (HRun.out w1 x A HF.out.has).mono ?_
 rintro e w2 ⟨rfl,hx,hk⟩
 have HX:=hide hx
 have HK:=hide hk
 clear hx hk HRun c0 c1 c2
 go_wp2_with fail
 refine (HHi.out w2 x A HX.out).mono ?_
 rintro e w3 ⟨gh,ch,rfl,hc,hc1,hb⟩
 have HB:=hide hb
 clear hb HHi
 go_wp2
 go_ret
 exact ⟨rfl,(HF.out.below.trans (HK.out.below HF.out.below.size HF.out.low)).trans (HB.out.mono (Nat.le_trans HF.out.below.size HK.out.size))⟩
variable {rs:List Int}
theorem fr_below2 {B b rb:Nat} {w w':World} (hbB:B≤b) (hrB:B≤rb) (hB:B≤w.heap.size) (h:Fr (fun z=>z=b∨z=rb) w w'):Below B w w':=
 ⟨h.os,h.tape,h.output,h.size,fun k hk=>h.block k (by omega) (fun e=>by omega)⟩
set_option maxRecDepth 100000 in
set_option maxHeartbeats 4000000 in
theorem wload_gives {B:Nat} {w:World} {b rb:Nat} {vc:Value} {code:List Ins} {x:Wk} {l:List Int} {a:TypeId×Addr} (hw:WkAt w b vc code x) (hr:RdAt rs B w rb l) (hx:∀ x∈l,Fits64 x) (hbB:B≤b) (hB:B≤w.heap.size) (hB0:0<B) (he:ErrAt w a) (hno:l.length<6∨∃ p l1,l=p::l1∧(p<0∨(code.length:Int)<p)) :
  Calls Tryz.prog 100 #[.pointer (some ⟨b,0,none⟩),.pointer (some ⟨rb,0,none⟩)] w fun e w'=>e=gave a∧Below B w w':=by
 have hcs:=hw.small
 have hne:b≠rb:=(hw.rd hr (Fr.refl _ _)).2
 have hrB:=hr.ge
 obtain ⟨c0, -⟩:=hw.cells
 obtain ⟨ac,cc,hvc, -, -⟩:=code_form hw.own
 by_cases hin:∃ p l1,l=p::l1∧0≤p∧p≤(code.length:Int)
 ·obtain ⟨p,l1,rfl,hp0,hp1⟩:=hin
  have h5:l1.length<5:=by
   rcases hno with h | ⟨p',l',e,h⟩
   ·simp at h;omega
   ·cases e;omega
  obtain ⟨y,hy⟩:∃ y:Wk,y=⟨p.toNat,fun i=>l1.getD i 0,0⟩:=⟨_,rfl⟩
  have hyp:(y.place:Int)=p:=by rw [hy];dsimp only;omega
  have hyr:∀ j,y.r j=l1.getD j 0:=fun j=>by rw [hy]
  have hyl:y.place≤code.length:=by omega
  have hx1:∀ x∈l1,Fits64 x:=fun x h=>hx x (by simp [h])
  rw [← hyp] at hr
  have HP:Hid (Calls Tryz.prog 104 #[.pointer (some ⟨rb,0,none⟩),.int .i64 0,.int .i64 code.length] w fun e w'=>e=.returned (.int .i64 y.place)∧(w'.heap[b]? = w.heap[b]? ∧ (∃ u,w'.cell? ⟨b,1,none⟩=some u)∧w'.frozen? ⟨b,1,none⟩=false) ∧
    WkAt (w'.setCell ⟨b,1,none⟩ (.int .i64 y.place)) b vc code (partW x y 0)∧RdAt rs B (w'.setCell ⟨b,1,none⟩ (.int .i64 y.place)) rb (l1.drop 0)∧Fr (fun z=>z=b∨z=rb) w (w'.setCell ⟨b,1,none⟩ (.int .i64 y.place))∧B≤w'.heap.size):=by
   refine (within_calls hr ⟨by omega,by omega⟩ 0 code.length (by omega) (by omega)).mono fun e w' ⟨q1,q2,q3⟩=>⟨q1,?_,?_,?_,?_,?_⟩
   ·have hk:=(hw.rd hr q3).1
    exact ⟨q3.block b (lt_of_blk hw.blk) hne,⟨_,hk.cells.2.1⟩,row_frozen hk.blk 1⟩
   ·exact (hw.rd hr q3).1.setPlace hyl
   ·exact q2.set hbB (Nat.le_trans hB q3.size) hne _
   ·exact Fr.setCell (S:=fun z=>z=b∨z=rb) (q3.mono fun _ _ e=>Or.inr e) (p:=⟨b,1,none⟩) (Or.inr (Or.inl rfl)) _
   ·exact Nat.le_trans hB q3.size
  have HN:Hid (∀ wx j,j<4→j<l1.length→WkAt wx b vc code (partW x y j)→RdAt rs B wx rb (l1.drop j)→Fr (fun z=>z=b∨z=rb) w wx→B≤wx.heap.size→Calls Tryz.prog 105 #[.pointer (some ⟨rb,0,none⟩)] wx fun e w'=>e=.returned (.int .i64 (y.r j))∧((∃ u,w'.cell? ⟨b,2+j,none⟩=some u)∧w'.frozen? ⟨b,2+j,none⟩=false) ∧
    WkAt (w'.setCell ⟨b,2+j,none⟩ (.int .i64 (y.r j))) b vc code (partW x y (j+1))∧RdAt rs B (w'.setCell ⟨b,2+j,none⟩ (.int .i64 (y.r j))) rb (l1.drop (j+1))∧Fr (fun z=>z=b∨z=rb) w (w'.setCell ⟨b,2+j,none⟩ (.int .i64 (y.r j)))∧B≤w'.heap.size):=fun wx j hj hjl h1 h2 h3 h4=>by
   rw [List.drop_eq_getElem_cons hjl] at h2
   have e:y.r j=l1[j]:=by rw [hyr,getD_eq _ _ _ hjl]
   refine (number_calls h2 (hx1 _ (List.getElem_mem hjl))).mono fun e' w' ⟨q1,q2,q3⟩=>?_
   have hk:=(h1.rd h2 q3).1
   refine ⟨by rw [e];exact q1,⟨?_,row_frozen hk.blk _⟩,hk.setReg hj,q2.set hbB (Nat.le_trans h4 q3.size) hne _,(h3.trans q3 fun _ _ e=>Or.inr e).setCell (p:=⟨b,2+j,none⟩) (Or.inr (Or.inl rfl)) _,Nat.le_trans h4 q3.size⟩
   have hc:j=0∨j=1∨j=2∨j=3:=by omega
   rcases hc with rfl | rfl | rfl | rfl
   ·exact ⟨_,row_cell hk.blk rfl⟩
   ·exact ⟨_,row_cell hk.blk rfl⟩
   ·exact ⟨_,row_cell hk.blk rfl⟩
   ·exact ⟨_,row_cell hk.blk rfl⟩
  have HG:Hid (∀ wx,RdAt rs B wx rb (l1.drop l1.length)→Fr (fun z=>z=b∨z=rb) w wx→Calls Tryz.prog 105 #[.pointer (some ⟨rb,0,none⟩)] wx fun e w'=>e=gave a∧Below B w w'):=fun wx h2 h3=>by
   rw [List.drop_length] at h2
   have hb:=fr_below2 hbB hrB hB h3
   exact (number_gives h2 (he.below hb hB0)).mono fun e w' ⟨q1,q2⟩=>⟨q1,q2 ▸ hb⟩
  clear hw hr hx he hno hyp hyr hx1 hy hp0 hp1
  subst hvc
  go_enter Tryz.func100,Tryz.ntmps100
  go_wp2_with fail
  refine (unhide HP).mono ?_
  rintro e w1 ⟨rfl,⟨hb1,⟨u1,hu1⟩,hf1⟩,h1,h2,h3,h4⟩
  have H1:=hide h1
  have H2:=hide h2
  have H3:=hide h3
  have hs1:B≤(w1.setCell ⟨b,1,none⟩ (.int .i64 y.place)).heap.size:=by simpa [World.setCell] using h4
  clear h1 h2 h3 HP hb1 h4
  go_wp2
  go_loopw [15] (fun i wr=>∃ j:Nat,j≤4∧j≤l1.length∧i=.int .i64 j∧WkAt wr b (.slice ac code.length cc) code (partW x y j)∧RdAt rs B wr rb (l1.drop j)∧Fr (fun z=>z=b∨z=rb) w wr∧B≤wr.heap.size) (fun i _=>4-(intOf i).toNat)
  case atStart=>exact ⟨0,by omega,by omega,rfl,H1.out,H2.out,H3.out,hs1⟩
  case round=>
   clear H1 H2 H3 hs1 hu1 hf1
   obtain ⟨j,hj,hjl,rfl,h1,h2,h3,h4⟩:=hrel
   by_cases hlt:j<4
   ·have hj0:(0:Int)≤(j:Int):=by omega
    have hj1:(j:Int)<4:=by omega
    by_cases hl:j<l1.length
    ·have HN1:Hid (∀ q,Calls Tryz.prog 105 #[.pointer (some ⟨rb,0,none⟩)] (wr.drewN q) fun e w'=>e=.returned (.int .i64 (y.r j))∧((∃ u,w'.cell? ⟨b,2+j,none⟩=some u)∧w'.frozen? ⟨b,2+j,none⟩=false) ∧
      WkAt (w'.setCell ⟨b,2+j,none⟩ (.int .i64 (y.r j))) b (.slice ac code.length cc) code (partW x y (j+1))∧RdAt rs B (w'.setCell ⟨b,2+j,none⟩ (.int .i64 (y.r j))) rb (l1.drop (j+1))∧Fr (fun z=>z=b∨z=rb) w (w'.setCell ⟨b,2+j,none⟩ (.int .i64 (y.r j)))∧B≤w'.heap.size):=fun q=>HN.out (wr.drewN q) j hlt hl (h1.stays fun _ _=>rfl) (h2.keep (below_drewN (Below.refl _ _) q) rfl) (h3.drewN q) h4
     clear HN HG h1 h2 h3
     generalize y.r j=yr at *
     go_wp2
     go_region_held3 (fun _=>True) (trivial)
      ((go_at_call 105;refine (unhide HN1 _).mono ?_;rintro e w2 ⟨rfl,⟨⟨u,hu⟩,hfz⟩,h1,h2,h3,h4⟩;have H1:=hide h1;have H2:=hide h2;have H3:=hide h3;clear h1 h2 h3))
     go_wp2
     go_roundw
     case rel=>exact ⟨j+1,by omega,by omega,by go_num,H1.out,H2.out,H3.out,by simpa [World.setCell] using h4⟩
     case measure=>simp [intOf];omega
    ·have hjl':j=l1.length:=by omega
     subst hjl'
     have HG1:Hid (∀ q,Calls Tryz.prog 105 #[.pointer (some ⟨rb,0,none⟩)] (wr.drewN q) fun e w'=>e=gave a∧Below B w w'):=fun q=>HG.out (wr.drewN q) (h2.keep (below_drewN (Below.refl _ _) q) rfl) (h3.drewN q)
     clear HN HG h1 h2 h3
     go_wp2
     refine wp_region_held_drew (S:=fun _=>True) (by kernel_rfl) trivial (fun hHeld=>?_)
     refine wpAnyH_take (i:=0) (v:=?v0) rfl (by kernel_rfl) (by kernel_rfl) (by kernel_rfl) (fun _ _ _ h=>h) (Or.inl ⟨by rfl,?hy0⟩) (by assumption) ?r0
     case hy0=>intro w' hSw;go_simp;try with_reducible rfl
     refine wpAnyH_take (i:=1) (v:=?v1) rfl (by kernel_rfl) (by kernel_rfl) (by kernel_rfl) (fun _ _ _ h=>h) (Or.inl ⟨by rfl,?hy1⟩) (by assumption) ?r1
     case hy1=>intro w' hSw;go_simp;try with_reducible rfl
     refine wpAnyH_take (i:=2) (v:=?v2) rfl (by kernel_rfl) (by kernel_rfl) (by kernel_rfl) (fun _ _ _ h=>h) (Or.inl ⟨by rfl,?hy2⟩) (by assumption) ?r2
     case hy2=>intro w' hSw;go_simp;try with_reducible rfl
     refine wpAnyH_take (i:=4) (v:=?v4) rfl (by kernel_rfl) (by kernel_rfl) (by kernel_rfl) (fun _ _ _ h=>h) (Or.inl ⟨by rfl,?hy4⟩) (by assumption) ?r4
     case hy4=>intro w' hSw;go_simp;try with_reducible rfl
     refine wpAnyH_take (i:=5) (v:=?v5) rfl (by kernel_rfl) (by kernel_rfl) (by kernel_rfl) (fun _ _ _ h=>h) (Or.inl ⟨by rfl,?hy5⟩) (by assumption) ?r5
     case hy5=>intro w' hSw;go_simp;try with_reducible rfl
     refine wpAnyH_ready (rs:=[3]) (by kernel_rfl) (by simp) (AllReadyH.cons rfl (fun K' hK=>?_) AllReadyH.nil)
     go_simp
     refine (unhide HG1 1).mono ?_
     rintro e w2 ⟨rfl,hb⟩
     exact ⟨rfl,rfl,hb⟩
   ·have hj4:j=4:=by omega
    have hjl':j=l1.length:=by omega
    rw [hjl'] at h2
    have HG1:=hide (HG.out wr h2 h3)
    clear HN HG h1 h2 h3 hjl'
    subst hj4
    go_wp2_with fail
    refine (unhide HG1).mono ?_
    rintro e w2 ⟨rfl,hb⟩
    exact ⟨rfl,rfl,hb⟩
 ·have HG:=hide (within_gives hr hx hB hB0 he 0 (code.length:Int) fun p l1 e=>by
   by_cases h0:p<0
   ·exact Or.inl h0
   ·by_cases h1:(code.length:Int)<p
    ·exact Or.inr h1
    ·exact absurd ⟨p,l1,e,by omega,by omega⟩ hin)
  clear hw hr hx he hno hin
  subst hvc
  go_enter Tryz.func100,Tryz.ntmps100
  go_wp2_with fail
  refine (unhide HG).mono ?_
  rintro e w1 ⟨rfl,hb⟩
  exact ⟨rfl,rfl,hb⟩
end Go.Proofs.YthfdgdfnflilfaaGreatDoor

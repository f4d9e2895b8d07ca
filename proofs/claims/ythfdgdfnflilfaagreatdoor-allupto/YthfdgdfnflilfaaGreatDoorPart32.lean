/- Part 32: RefS8. -/
import Derived.Test.YthfdgdfnflilfaaGreatDoorPart27
namespace Go.Proofs.YthfdgdfnflilfaaGreatDoor
open Go.RowKit Go.Conc
set_option maxRecDepth 100000 in
set_option maxHeartbeats 4000000 in
theorem refStep_no0 {L:RLay} {w:World} {N:Net} {R:Rc} (h:RefAt L w N R) (k:Nat) (hk:k<N.workers.length) (hst:stateOf N R k=1) (hco:RCodes L w N) (ib ic:Int) (hx:(R.w k).r 0=0) (hi:(codeOf N k)[(R.w k).place]? = some ⟨8,0,ib,ic⟩) :
  Calls Tryz.prog 61 #[.pointer (some ⟨L.p,0,none⟩),.int .i64 k] w fun e w'=>e=.returned (.int .i64 1)∧RStep L w N (doStep N R k) w':=by
 have HDo:Hid (doStep N R k=⟨R.W.set k ⟨(R.w k).place+1,(R.w k).r,wrap64 ((R.w k).steps+1)⟩,R.S⟩):=by
  show doStep N R k=_
  unfold doStep insAt
  rw [hi]
  simp [nextW,nextS,hx]
 have HPut:Hid (∀ w5,Below w.heap.size w w5→RStep L w N (doStep N R k) (putW w5 L.gW k (L.VC k) ⟨(R.w k).place+1,(R.w k).r,wrap64 ((R.w k).steps+1)⟩).drew):=fun w5 hb=>by
  rw [HDo.out]
  exact ((RStep.of_below h hb).put hco hk ⟨(R.w k).place+1,(R.w k).r,wrap64 ((R.w k).steps+1)⟩ (by show (R.w k).place+1≤_;have:=(List.getElem?_eq_some_iff.1 hi).1;omega)).drew
 clear HDo hco
 have q:((R.w k).r 0 != 0)=false:=by simp [hx]
 clear hx
 have HS:=hide (refState_calls h k hk)
 rw [hst] at HS
 have HH:Hid (∀ wx,Below w.heap.size w wx→RefAt L wx N R):=fun wx hx=>h.below hx
 clear h
 go_enter Tryz.func61,Tryz.ntmps61
 go_wp2_with fail
 refine (unhide HS).mono ?_
 rintro e w1 ⟨rfl,hb⟩
 have HR:=hide (HH.out w1 hb)
 have HB:=hide hb
 clear hb HS HH hst
 obtain ⟨p0, -⟩:=blk_cell (l:=[_,_]) HR.out.blk 0 _ rfl
 obtain ⟨p1, -⟩:=blk_cell (l:=[_,_]) HR.out.blk 1 _ rfl
 have x0:w1.cell? ⟨L.gW,k*7,none⟩=some (L.VC k):=HR.out.wc hk 0 _ (by decide) rfl
 have x1:=HR.out.wc hk 1 _ (by decide) rfl
 have x2:=HR.out.wc hk 2 _ (by decide) rfl
 have x3:=HR.out.wc hk 3 _ (by decide) rfl
 have x4:=HR.out.wc hk 4 _ (by decide) rfl
 have x5:=HR.out.wc hk 5 _ (by decide) rfl
 have x6:=HR.out.wc hk 6 _ (by decide) rfl
 obtain ⟨ca,cc,hvc,hc63,hccap,hcells⟩:=(HR.out.code k hk).openD
 have HV:=hide hvc
 rw [hvc] at x0
 have hpl:(R.w k).place<(codeOf N k).length:=(List.getElem?_eq_some_iff.1 hi).1
 have hgi:(codeOf N k).getD (R.w k).place ⟨0,0,0,0⟩=⟨8,0,ib,ic⟩:=by rw [getD_eq _ _ _ hpl];exact (List.getElem?_eq_some_iff.1 hi).2
 obtain ⟨cb,co,rfl,hcb,hcell⟩:=hcells _ hpl
 obtain ⟨d0,d1,d2,d3⟩:=hcell w1 (Below.refl _ _)
 rw [hgi] at d0 d1 d2 d3
 dsimp only at d0 d1 d2 d3
 have hk0:(0:Int)≤(k:Int):=by omega
 have hk1:(k:Int)<(N.workers.length:Int):=by omega
 have hp0:(0:Int)≤((R.w k).place:Int):=by omega
 have hp1:((R.w k).place:Int)<((codeOf N k).length:Int):=by omega
 have z0:=lt_of_cell p0
 have z1:=lt_of_cell x0
 clear hcells hcell hgi hvc hi
 go_upto_region 33 with fail
 have hbx:((w1.alloc (.cells #[.slice (some ⟨cb,co,none⟩) (codeOf N k).length cc,.int .i64 (((R.w k).place:Int)+1),.int .i64 ((R.w k).r 0),.int .i64 ((R.w k).r 1),.int .i64 ((R.w k).r 2),.int .i64 ((R.w k).r 3),.int .i64 (wrap64 ((R.w k).steps+1))] 92)).alloc (.cells #[.int .i64 8,.int .i64 0,.int .i64 ib,.int .i64 ic] 44)).heap[w1.heap.size]? = some (.cells #[.slice (some ⟨cb,co,none⟩) (codeOf N k).length cc,.int .i64 (((R.w k).place:Int)+1),.int .i64 ((R.w k).r 0),.int .i64 ((R.w k).r 1),.int .i64 ((R.w k).r 2),.int .i64 ((R.w k).r 3),.int .i64 (wrap64 ((R.w k).steps+1))] 92 (0,0)):=heapOld (by simp) (heapNew rfl)
 have hbl:Below w1.heap.size w1 ((w1.alloc (.cells #[.slice (some ⟨cb,co,none⟩) (codeOf N k).length cc,.int .i64 (((R.w k).place:Int)+1),.int .i64 ((R.w k).r 0),.int .i64 ((R.w k).r 1),.int .i64 ((R.w k).r 2),.int .i64 ((R.w k).r 3),.int .i64 (wrap64 ((R.w k).steps+1))] 92)).alloc (.cells #[.int .i64 8,.int .i64 0,.int .i64 ib,.int .i64 ic] 44)):=((Below.refl _ _).alloc (Nat.le_refl _) _).alloc (by simp) _
 have hR5:=HR.out.below hbl
 generalize (w1.alloc (.cells #[.slice (some ⟨cb,co,none⟩) (codeOf N k).length cc,.int .i64 (((R.w k).place:Int)+1),.int .i64 ((R.w k).r 0),.int .i64 ((R.w k).r 1),.int .i64 ((R.w k).r 2),.int .i64 ((R.w k).r 3),.int .i64 (wrap64 ((R.w k).steps+1))] 92)).alloc (.cells #[.int .i64 8,.int .i64 0,.int .i64 ib,.int .i64 ic] 44)=w5 at *
 have HSx:Hid (w.heap.size≤w1.heap.size):=HB.out.size
 generalize w1.heap.size=xb at *
 clear p0 p1 x0 x1 x2 x3 x4 x5 x6 d0 d1 d2 d3 z0 z1
 obtain ⟨p1, -⟩:=blk_cell (l:=[_,_]) hR5.blk 1 _ rfl
 obtain ⟨y0, -⟩:=blk_cell (l:=[_,_,_,_,_,_,_]) hbx 0 _ rfl
 obtain ⟨y1, -⟩:=blk_cell (l:=[_,_,_,_,_,_,_]) hbx 1 _ rfl
 obtain ⟨y2, -⟩:=blk_cell (l:=[_,_,_,_,_,_,_]) hbx 2 _ rfl
 obtain ⟨y3, -⟩:=blk_cell (l:=[_,_,_,_,_,_,_]) hbx 3 _ rfl
 obtain ⟨y4, -⟩:=blk_cell (l:=[_,_,_,_,_,_,_]) hbx 4 _ rfl
 obtain ⟨y5, -⟩:=blk_cell (l:=[_,_,_,_,_,_,_]) hbx 5 _ rfl
 obtain ⟨y6, -⟩:=blk_cell (l:=[_,_,_,_,_,_,_]) hbx 6 _ rfl
 have x0:w5.cell? ⟨L.gW,k*7,none⟩=some (L.VC k):=hR5.wc hk 0 _ (by decide) rfl
 have x1:=hR5.wc hk 1 _ (by decide) rfl
 have x2:=hR5.wc hk 2 _ (by decide) rfl
 have x3:=hR5.wc hk 3 _ (by decide) rfl
 have x4:=hR5.wc hk 4 _ (by decide) rfl
 have x5:=hR5.wc hk 5 _ (by decide) rfl
 have x6:=hR5.wc hk 6 _ (by decide) rfl
 obtain ⟨cs,hbW, -⟩:=hR5.rowW
 have f0:w5.frozen? ⟨L.gW,k*7,none⟩=false:=row_frozen hbW _
 have f1:=row_frozen hbW (k*7+1)
 have f2:=row_frozen hbW (k*7+2)
 have f3:=row_frozen hbW (k*7+3)
 have f4:=row_frozen hbW (k*7+4)
 have f5:=row_frozen hbW (k*7+5)
 have f6:=row_frozen hbW (k*7+6)
 have H5:=hide hR5
 have HX5:=hide hbx
 have HL5:=hide hbl
 clear hbW hR5 hbx hbl
 refine wp_region_still_tail 7 Tryz.mixed (by kernel_rfl) ?_
 simp only [List.take_succ_cons,List.take_zero,List.drop_succ_cons,List.drop_zero]
 iterate 7 still_step
 refine wpStill_nil ?_
 show wpList _ _ _ _ _ w5.drew
 go_wp2
 go_ret
 refine ⟨rfl,?_⟩
 have:=HPut.out w5 (HB.out.trans (HL5.out.mono HSx.out))
 rw [HV.out] at this
 exact this
set_option maxRecDepth 100000 in
set_option maxHeartbeats 4000000 in
theorem refStep_yes0 {L:RLay} {w:World} {N:Net} {R:Rc} (h:RefAt L w N R) (k:Nat) (hk:k<N.workers.length) (hst:stateOf N R k=1) (hco:RCodes L w N) (ib ic:Int) (hx:(R.w k).r 0≠0) (hi:(codeOf N k)[(R.w k).place]? = some ⟨8,0,ib,ic⟩) :
  Calls Tryz.prog 61 #[.pointer (some ⟨L.p,0,none⟩),.int .i64 k] w fun e w'=>e=.returned (.int .i64 1)∧RStep L w N (doStep N R k) w':=by
 have hval:=valid_ins h.ok hk (List.mem_of_getElem? hi)
 obtain ⟨hc0,hc1⟩:=valid_place hval (Or.inr (Or.inl rfl))
 dsimp only at hc0 hc1
 obtain ⟨ic,rfl⟩:=Int.eq_ofNat_of_zero_le hc0
 have HDo:Hid (doStep N R k=⟨R.W.set k ⟨ic,(R.w k).r,wrap64 ((R.w k).steps+1)⟩,R.S⟩):=by
  show doStep N R k=_
  unfold doStep insAt
  rw [hi]
  simp [nextW,nextS,hx]
 have HPut:Hid (∀ w5,Below w.heap.size w w5→RStep L w N (doStep N R k) (putW w5 L.gW k (L.VC k) ⟨ic,(R.w k).r,wrap64 ((R.w k).steps+1)⟩).drew):=fun w5 hb=>by
  rw [HDo.out]
  exact ((RStep.of_below h hb).put hco hk ⟨ic,(R.w k).r,wrap64 ((R.w k).steps+1)⟩ (by show ic≤_;omega)).drew
 clear HDo hco hval hc0 hc1
 have q:((R.w k).r 0 != 0)=true:=by simp [hx]
 clear hx
 have HS:=hide (refState_calls h k hk)
 rw [hst] at HS
 have HH:Hid (∀ wx,Below w.heap.size w wx→RefAt L wx N R):=fun wx hx=>h.below hx
 clear h
 go_enter Tryz.func61,Tryz.ntmps61
 go_wp2_with fail
 refine (unhide HS).mono ?_
 rintro e w1 ⟨rfl,hb⟩
 have HR:=hide (HH.out w1 hb)
 have HB:=hide hb
 clear hb HS HH hst
 obtain ⟨p0, -⟩:=blk_cell (l:=[_,_]) HR.out.blk 0 _ rfl
 obtain ⟨p1, -⟩:=blk_cell (l:=[_,_]) HR.out.blk 1 _ rfl
 have x0:w1.cell? ⟨L.gW,k*7,none⟩=some (L.VC k):=HR.out.wc hk 0 _ (by decide) rfl
 have x1:=HR.out.wc hk 1 _ (by decide) rfl
 have x2:=HR.out.wc hk 2 _ (by decide) rfl
 have x3:=HR.out.wc hk 3 _ (by decide) rfl
 have x4:=HR.out.wc hk 4 _ (by decide) rfl
 have x5:=HR.out.wc hk 5 _ (by decide) rfl
 have x6:=HR.out.wc hk 6 _ (by decide) rfl
 obtain ⟨ca,cc,hvc,hc63,hccap,hcells⟩:=(HR.out.code k hk).openD
 have HV:=hide hvc
 rw [hvc] at x0
 have hpl:(R.w k).place<(codeOf N k).length:=(List.getElem?_eq_some_iff.1 hi).1
 have hgi:(codeOf N k).getD (R.w k).place ⟨0,0,0,0⟩=⟨8,0,ib,ic⟩:=by rw [getD_eq _ _ _ hpl];exact (List.getElem?_eq_some_iff.1 hi).2
 obtain ⟨cb,co,rfl,hcb,hcell⟩:=hcells _ hpl
 obtain ⟨d0,d1,d2,d3⟩:=hcell w1 (Below.refl _ _)
 rw [hgi] at d0 d1 d2 d3
 dsimp only at d0 d1 d2 d3
 have hk0:(0:Int)≤(k:Int):=by omega
 have hk1:(k:Int)<(N.workers.length:Int):=by omega
 have hp0:(0:Int)≤((R.w k).place:Int):=by omega
 have hp1:((R.w k).place:Int)<((codeOf N k).length:Int):=by omega
 have z0:=lt_of_cell p0
 have z1:=lt_of_cell x0
 clear hcells hcell hgi hvc hi
 go_upto_region 33 with fail
 have hbx:((w1.alloc (.cells #[.slice (some ⟨cb,co,none⟩) (codeOf N k).length cc,.int .i64 ((ic:Int)),.int .i64 ((R.w k).r 0),.int .i64 ((R.w k).r 1),.int .i64 ((R.w k).r 2),.int .i64 ((R.w k).r 3),.int .i64 (wrap64 ((R.w k).steps+1))] 92)).alloc (.cells #[.int .i64 8,.int .i64 0,.int .i64 ib,.int .i64 (ic:Int)] 44)).heap[w1.heap.size]? = some (.cells #[.slice (some ⟨cb,co,none⟩) (codeOf N k).length cc,.int .i64 ((ic:Int)),.int .i64 ((R.w k).r 0),.int .i64 ((R.w k).r 1),.int .i64 ((R.w k).r 2),.int .i64 ((R.w k).r 3),.int .i64 (wrap64 ((R.w k).steps+1))] 92 (0,0)):=heapOld (by simp) (heapNew rfl)
 have hbl:Below w1.heap.size w1 ((w1.alloc (.cells #[.slice (some ⟨cb,co,none⟩) (codeOf N k).length cc,.int .i64 ((ic:Int)),.int .i64 ((R.w k).r 0),.int .i64 ((R.w k).r 1),.int .i64 ((R.w k).r 2),.int .i64 ((R.w k).r 3),.int .i64 (wrap64 ((R.w k).steps+1))] 92)).alloc (.cells #[.int .i64 8,.int .i64 0,.int .i64 ib,.int .i64 (ic:Int)] 44)):=((Below.refl _ _).alloc (Nat.le_refl _) _).alloc (by simp) _
 have hR5:=HR.out.below hbl
 generalize (w1.alloc (.cells #[.slice (some ⟨cb,co,none⟩) (codeOf N k).length cc,.int .i64 ((ic:Int)),.int .i64 ((R.w k).r 0),.int .i64 ((R.w k).r 1),.int .i64 ((R.w k).r 2),.int .i64 ((R.w k).r 3),.int .i64 (wrap64 ((R.w k).steps+1))] 92)).alloc (.cells #[.int .i64 8,.int .i64 0,.int .i64 ib,.int .i64 (ic:Int)] 44)=w5 at *
 have HSx:Hid (w.heap.size≤w1.heap.size):=HB.out.size
 generalize w1.heap.size=xb at *
 clear p0 p1 x0 x1 x2 x3 x4 x5 x6 d0 d1 d2 d3 z0 z1
 obtain ⟨p1, -⟩:=blk_cell (l:=[_,_]) hR5.blk 1 _ rfl
 obtain ⟨y0, -⟩:=blk_cell (l:=[_,_,_,_,_,_,_]) hbx 0 _ rfl
 obtain ⟨y1, -⟩:=blk_cell (l:=[_,_,_,_,_,_,_]) hbx 1 _ rfl
 obtain ⟨y2, -⟩:=blk_cell (l:=[_,_,_,_,_,_,_]) hbx 2 _ rfl
 obtain ⟨y3, -⟩:=blk_cell (l:=[_,_,_,_,_,_,_]) hbx 3 _ rfl
 obtain ⟨y4, -⟩:=blk_cell (l:=[_,_,_,_,_,_,_]) hbx 4 _ rfl
 obtain ⟨y5, -⟩:=blk_cell (l:=[_,_,_,_,_,_,_]) hbx 5 _ rfl
 obtain ⟨y6, -⟩:=blk_cell (l:=[_,_,_,_,_,_,_]) hbx 6 _ rfl
 have x0:w5.cell? ⟨L.gW,k*7,none⟩=some (L.VC k):=hR5.wc hk 0 _ (by decide) rfl
 have x1:=hR5.wc hk 1 _ (by decide) rfl
 have x2:=hR5.wc hk 2 _ (by decide) rfl
 have x3:=hR5.wc hk 3 _ (by decide) rfl
 have x4:=hR5.wc hk 4 _ (by decide) rfl
 have x5:=hR5.wc hk 5 _ (by decide) rfl
 have x6:=hR5.wc hk 6 _ (by decide) rfl
 obtain ⟨cs,hbW, -⟩:=hR5.rowW
 have f0:w5.frozen? ⟨L.gW,k*7,none⟩=false:=row_frozen hbW _
 have f1:=row_frozen hbW (k*7+1)
 have f2:=row_frozen hbW (k*7+2)
 have f3:=row_frozen hbW (k*7+3)
 have f4:=row_frozen hbW (k*7+4)
 have f5:=row_frozen hbW (k*7+5)
 have f6:=row_frozen hbW (k*7+6)
 have H5:=hide hR5
 have HX5:=hide hbx
 have HL5:=hide hbl
 clear hbW hR5 hbx hbl
 refine wp_region_still_tail 7 Tryz.mixed (by kernel_rfl) ?_
 simp only [List.take_succ_cons,List.take_zero,List.drop_succ_cons,List.drop_zero]
 iterate 7 still_step
 refine wpStill_nil ?_
 show wpList _ _ _ _ _ w5.drew
 go_wp2
 go_ret
 refine ⟨rfl,?_⟩
 have:=HPut.out w5 (HB.out.trans (HL5.out.mono HSx.out))
 rw [HV.out] at this
 exact this
set_option maxRecDepth 100000 in
set_option maxHeartbeats 4000000 in
theorem refStep_no1 {L:RLay} {w:World} {N:Net} {R:Rc} (h:RefAt L w N R) (k:Nat) (hk:k<N.workers.length) (hst:stateOf N R k=1) (hco:RCodes L w N) (ib ic:Int) (hx:(R.w k).r 1=0) (hi:(codeOf N k)[(R.w k).place]? = some ⟨8,1,ib,ic⟩) :
  Calls Tryz.prog 61 #[.pointer (some ⟨L.p,0,none⟩),.int .i64 k] w fun e w'=>e=.returned (.int .i64 1)∧RStep L w N (doStep N R k) w':=by
 have HDo:Hid (doStep N R k=⟨R.W.set k ⟨(R.w k).place+1,(R.w k).r,wrap64 ((R.w k).steps+1)⟩,R.S⟩):=by
  show doStep N R k=_
  unfold doStep insAt
  rw [hi]
  simp [nextW,nextS,hx]
 have HPut:Hid (∀ w5,Below w.heap.size w w5→RStep L w N (doStep N R k) (putW w5 L.gW k (L.VC k) ⟨(R.w k).place+1,(R.w k).r,wrap64 ((R.w k).steps+1)⟩).drew):=fun w5 hb=>by
  rw [HDo.out]
  exact ((RStep.of_below h hb).put hco hk ⟨(R.w k).place+1,(R.w k).r,wrap64 ((R.w k).steps+1)⟩ (by show (R.w k).place+1≤_;have:=(List.getElem?_eq_some_iff.1 hi).1;omega)).drew
 clear HDo hco
 have q:((R.w k).r 1 != 0)=false:=by simp [hx]
 clear hx
 have HS:=hide (refState_calls h k hk)
 rw [hst] at HS
 have HH:Hid (∀ wx,Below w.heap.size w wx→RefAt L wx N R):=fun wx hx=>h.below hx
 clear h
 go_enter Tryz.func61,Tryz.ntmps61
 go_wp2_with fail
 refine (unhide HS).mono ?_
 rintro e w1 ⟨rfl,hb⟩
 have HR:=hide (HH.out w1 hb)
 have HB:=hide hb
 clear hb HS HH hst
 obtain ⟨p0, -⟩:=blk_cell (l:=[_,_]) HR.out.blk 0 _ rfl
 obtain ⟨p1, -⟩:=blk_cell (l:=[_,_]) HR.out.blk 1 _ rfl
 have x0:w1.cell? ⟨L.gW,k*7,none⟩=some (L.VC k):=HR.out.wc hk 0 _ (by decide) rfl
 have x1:=HR.out.wc hk 1 _ (by decide) rfl
 have x2:=HR.out.wc hk 2 _ (by decide) rfl
 have x3:=HR.out.wc hk 3 _ (by decide) rfl
 have x4:=HR.out.wc hk 4 _ (by decide) rfl
 have x5:=HR.out.wc hk 5 _ (by decide) rfl
 have x6:=HR.out.wc hk 6 _ (by decide) rfl
 obtain ⟨ca,cc,hvc,hc63,hccap,hcells⟩:=(HR.out.code k hk).openD
 have HV:=hide hvc
 rw [hvc] at x0
 have hpl:(R.w k).place<(codeOf N k).length:=(List.getElem?_eq_some_iff.1 hi).1
 have hgi:(codeOf N k).getD (R.w k).place ⟨0,0,0,0⟩=⟨8,1,ib,ic⟩:=by rw [getD_eq _ _ _ hpl];exact (List.getElem?_eq_some_iff.1 hi).2
 obtain ⟨cb,co,rfl,hcb,hcell⟩:=hcells _ hpl
 obtain ⟨d0,d1,d2,d3⟩:=hcell w1 (Below.refl _ _)
 rw [hgi] at d0 d1 d2 d3
 dsimp only at d0 d1 d2 d3
 have hk0:(0:Int)≤(k:Int):=by omega
 have hk1:(k:Int)<(N.workers.length:Int):=by omega
 have hp0:(0:Int)≤((R.w k).place:Int):=by omega
 have hp1:((R.w k).place:Int)<((codeOf N k).length:Int):=by omega
 have z0:=lt_of_cell p0
 have z1:=lt_of_cell x0
 clear hcells hcell hgi hvc hi
 go_upto_region 33 with fail
 have hbx:((w1.alloc (.cells #[.slice (some ⟨cb,co,none⟩) (codeOf N k).length cc,.int .i64 (((R.w k).place:Int)+1),.int .i64 ((R.w k).r 0),.int .i64 ((R.w k).r 1),.int .i64 ((R.w k).r 2),.int .i64 ((R.w k).r 3),.int .i64 (wrap64 ((R.w k).steps+1))] 92)).alloc (.cells #[.int .i64 8,.int .i64 1,.int .i64 ib,.int .i64 ic] 44)).heap[w1.heap.size]? = some (.cells #[.slice (some ⟨cb,co,none⟩) (codeOf N k).length cc,.int .i64 (((R.w k).place:Int)+1),.int .i64 ((R.w k).r 0),.int .i64 ((R.w k).r 1),.int .i64 ((R.w k).r 2),.int .i64 ((R.w k).r 3),.int .i64 (wrap64 ((R.w k).steps+1))] 92 (0,0)):=heapOld (by simp) (heapNew rfl)
 have hbl:Below w1.heap.size w1 ((w1.alloc (.cells #[.slice (some ⟨cb,co,none⟩) (codeOf N k).length cc,.int .i64 (((R.w k).place:Int)+1),.int .i64 ((R.w k).r 0),.int .i64 ((R.w k).r 1),.int .i64 ((R.w k).r 2),.int .i64 ((R.w k).r 3),.int .i64 (wrap64 ((R.w k).steps+1))] 92)).alloc (.cells #[.int .i64 8,.int .i64 1,.int .i64 ib,.int .i64 ic] 44)):=((Below.refl _ _).alloc (Nat.le_refl _) _).alloc (by simp) _
 have hR5:=HR.out.below hbl
 generalize (w1.alloc (.cells #[.slice (some ⟨cb,co,none⟩) (codeOf N k).length cc,.int .i64 (((R.w k).place:Int)+1),.int .i64 ((R.w k).r 0),.int .i64 ((R.w k).r 1),.int .i64 ((R.w k).r 2),.int .i64 ((R.w k).r 3),.int .i64 (wrap64 ((R.w k).steps+1))] 92)).alloc (.cells #[.int .i64 8,.int .i64 1,.int .i64 ib,.int .i64 ic] 44)=w5 at *
 have HSx:Hid (w.heap.size≤w1.heap.size):=HB.out.size
 generalize w1.heap.size=xb at *
 clear p0 p1 x0 x1 x2 x3 x4 x5 x6 d0 d1 d2 d3 z0 z1
 obtain ⟨p1, -⟩:=blk_cell (l:=[_,_]) hR5.blk 1 _ rfl
 obtain ⟨y0, -⟩:=blk_cell (l:=[_,_,_,_,_,_,_]) hbx 0 _ rfl
 obtain ⟨y1, -⟩:=blk_cell (l:=[_,_,_,_,_,_,_]) hbx 1 _ rfl
 obtain ⟨y2, -⟩:=blk_cell (l:=[_,_,_,_,_,_,_]) hbx 2 _ rfl
 obtain ⟨y3, -⟩:=blk_cell (l:=[_,_,_,_,_,_,_]) hbx 3 _ rfl
 obtain ⟨y4, -⟩:=blk_cell (l:=[_,_,_,_,_,_,_]) hbx 4 _ rfl
 obtain ⟨y5, -⟩:=blk_cell (l:=[_,_,_,_,_,_,_]) hbx 5 _ rfl
 obtain ⟨y6, -⟩:=blk_cell (l:=[_,_,_,_,_,_,_]) hbx 6 _ rfl
 have x0:w5.cell? ⟨L.gW,k*7,none⟩=some (L.VC k):=hR5.wc hk 0 _ (by decide) rfl
 have x1:=hR5.wc hk 1 _ (by decide) rfl
 have x2:=hR5.wc hk 2 _ (by decide) rfl
 have x3:=hR5.wc hk 3 _ (by decide) rfl
 have x4:=hR5.wc hk 4 _ (by decide) rfl
 have x5:=hR5.wc hk 5 _ (by decide) rfl
 have x6:=hR5.wc hk 6 _ (by decide) rfl
 obtain ⟨cs,hbW, -⟩:=hR5.rowW
 have f0:w5.frozen? ⟨L.gW,k*7,none⟩=false:=row_frozen hbW _
 have f1:=row_frozen hbW (k*7+1)
 have f2:=row_frozen hbW (k*7+2)
 have f3:=row_frozen hbW (k*7+3)
 have f4:=row_frozen hbW (k*7+4)
 have f5:=row_frozen hbW (k*7+5)
 have f6:=row_frozen hbW (k*7+6)
 have H5:=hide hR5
 have HX5:=hide hbx
 have HL5:=hide hbl
 clear hbW hR5 hbx hbl
 refine wp_region_still_tail 7 Tryz.mixed (by kernel_rfl) ?_
 simp only [List.take_succ_cons,List.take_zero,List.drop_succ_cons,List.drop_zero]
 iterate 7 still_step
 refine wpStill_nil ?_
 show wpList _ _ _ _ _ w5.drew
 go_wp2
 go_ret
 refine ⟨rfl,?_⟩
 have:=HPut.out w5 (HB.out.trans (HL5.out.mono HSx.out))
 rw [HV.out] at this
 exact this
set_option maxRecDepth 100000 in
set_option maxHeartbeats 4000000 in
theorem refStep_yes1 {L:RLay} {w:World} {N:Net} {R:Rc} (h:RefAt L w N R) (k:Nat) (hk:k<N.workers.length) (hst:stateOf N R k=1) (hco:RCodes L w N) (ib ic:Int) (hx:(R.w k).r 1≠0) (hi:(codeOf N k)[(R.w k).place]? = some ⟨8,1,ib,ic⟩) :
  Calls Tryz.prog 61 #[.pointer (some ⟨L.p,0,none⟩),.int .i64 k] w fun e w'=>e=.returned (.int .i64 1)∧RStep L w N (doStep N R k) w':=by
 have hval:=valid_ins h.ok hk (List.mem_of_getElem? hi)
 obtain ⟨hc0,hc1⟩:=valid_place hval (Or.inr (Or.inl rfl))
 dsimp only at hc0 hc1
 obtain ⟨ic,rfl⟩:=Int.eq_ofNat_of_zero_le hc0
 have HDo:Hid (doStep N R k=⟨R.W.set k ⟨ic,(R.w k).r,wrap64 ((R.w k).steps+1)⟩,R.S⟩):=by
  show doStep N R k=_
  unfold doStep insAt
  rw [hi]
  simp [nextW,nextS,hx]
 have HPut:Hid (∀ w5,Below w.heap.size w w5→RStep L w N (doStep N R k) (putW w5 L.gW k (L.VC k) ⟨ic,(R.w k).r,wrap64 ((R.w k).steps+1)⟩).drew):=fun w5 hb=>by
  rw [HDo.out]
  exact ((RStep.of_below h hb).put hco hk ⟨ic,(R.w k).r,wrap64 ((R.w k).steps+1)⟩ (by show ic≤_;omega)).drew
 clear HDo hco hval hc0 hc1
 have q:((R.w k).r 1 != 0)=true:=by simp [hx]
 clear hx
 have HS:=hide (refState_calls h k hk)
 rw [hst] at HS
 have HH:Hid (∀ wx,Below w.heap.size w wx→RefAt L wx N R):=fun wx hx=>h.below hx
 clear h
 go_enter Tryz.func61,Tryz.ntmps61
 go_wp2_with fail
 refine (unhide HS).mono ?_
 rintro e w1 ⟨rfl,hb⟩
 have HR:=hide (HH.out w1 hb)
 have HB:=hide hb
 clear hb HS HH hst
 obtain ⟨p0, -⟩:=blk_cell (l:=[_,_]) HR.out.blk 0 _ rfl
 obtain ⟨p1, -⟩:=blk_cell (l:=[_,_]) HR.out.blk 1 _ rfl
 have x0:w1.cell? ⟨L.gW,k*7,none⟩=some (L.VC k):=HR.out.wc hk 0 _ (by decide) rfl
 have x1:=HR.out.wc hk 1 _ (by decide) rfl
 have x2:=HR.out.wc hk 2 _ (by decide) rfl
 have x3:=HR.out.wc hk 3 _ (by decide) rfl
 have x4:=HR.out.wc hk 4 _ (by decide) rfl
 have x5:=HR.out.wc hk 5 _ (by decide) rfl
 have x6:=HR.out.wc hk 6 _ (by decide) rfl
 obtain ⟨ca,cc,hvc,hc63,hccap,hcells⟩:=(HR.out.code k hk).openD
 have HV:=hide hvc
 rw [hvc] at x0
 have hpl:(R.w k).place<(codeOf N k).length:=(List.getElem?_eq_some_iff.1 hi).1
 have hgi:(codeOf N k).getD (R.w k).place ⟨0,0,0,0⟩=⟨8,1,ib,ic⟩:=by rw [getD_eq _ _ _ hpl];exact (List.getElem?_eq_some_iff.1 hi).2
 obtain ⟨cb,co,rfl,hcb,hcell⟩:=hcells _ hpl
 obtain ⟨d0,d1,d2,d3⟩:=hcell w1 (Below.refl _ _)
 rw [hgi] at d0 d1 d2 d3
 dsimp only at d0 d1 d2 d3
 have hk0:(0:Int)≤(k:Int):=by omega
 have hk1:(k:Int)<(N.workers.length:Int):=by omega
 have hp0:(0:Int)≤((R.w k).place:Int):=by omega
 have hp1:((R.w k).place:Int)<((codeOf N k).length:Int):=by omega
 have z0:=lt_of_cell p0
 have z1:=lt_of_cell x0
 clear hcells hcell hgi hvc hi
 go_upto_region 33 with fail
 have hbx:((w1.alloc (.cells #[.slice (some ⟨cb,co,none⟩) (codeOf N k).length cc,.int .i64 ((ic:Int)),.int .i64 ((R.w k).r 0),.int .i64 ((R.w k).r 1),.int .i64 ((R.w k).r 2),.int .i64 ((R.w k).r 3),.int .i64 (wrap64 ((R.w k).steps+1))] 92)).alloc (.cells #[.int .i64 8,.int .i64 1,.int .i64 ib,.int .i64 (ic:Int)] 44)).heap[w1.heap.size]? = some (.cells #[.slice (some ⟨cb,co,none⟩) (codeOf N k).length cc,.int .i64 ((ic:Int)),.int .i64 ((R.w k).r 0),.int .i64 ((R.w k).r 1),.int .i64 ((R.w k).r 2),.int .i64 ((R.w k).r 3),.int .i64 (wrap64 ((R.w k).steps+1))] 92 (0,0)):=heapOld (by simp) (heapNew rfl)
 have hbl:Below w1.heap.size w1 ((w1.alloc (.cells #[.slice (some ⟨cb,co,none⟩) (codeOf N k).length cc,.int .i64 ((ic:Int)),.int .i64 ((R.w k).r 0),.int .i64 ((R.w k).r 1),.int .i64 ((R.w k).r 2),.int .i64 ((R.w k).r 3),.int .i64 (wrap64 ((R.w k).steps+1))] 92)).alloc (.cells #[.int .i64 8,.int .i64 1,.int .i64 ib,.int .i64 (ic:Int)] 44)):=((Below.refl _ _).alloc (Nat.le_refl _) _).alloc (by simp) _
 have hR5:=HR.out.below hbl
 generalize (w1.alloc (.cells #[.slice (some ⟨cb,co,none⟩) (codeOf N k).length cc,.int .i64 ((ic:Int)),.int .i64 ((R.w k).r 0),.int .i64 ((R.w k).r 1),.int .i64 ((R.w k).r 2),.int .i64 ((R.w k).r 3),.int .i64 (wrap64 ((R.w k).steps+1))] 92)).alloc (.cells #[.int .i64 8,.int .i64 1,.int .i64 ib,.int .i64 (ic:Int)] 44)=w5 at *
 have HSx:Hid (w.heap.size≤w1.heap.size):=HB.out.size
 generalize w1.heap.size=xb at *
 clear p0 p1 x0 x1 x2 x3 x4 x5 x6 d0 d1 d2 d3 z0 z1
 obtain ⟨p1, -⟩:=blk_cell (l:=[_,_]) hR5.blk 1 _ rfl
 obtain ⟨y0, -⟩:=blk_cell (l:=[_,_,_,_,_,_,_]) hbx 0 _ rfl
 obtain ⟨y1, -⟩:=blk_cell (l:=[_,_,_,_,_,_,_]) hbx 1 _ rfl
 obtain ⟨y2, -⟩:=blk_cell (l:=[_,_,_,_,_,_,_]) hbx 2 _ rfl
 obtain ⟨y3, -⟩:=blk_cell (l:=[_,_,_,_,_,_,_]) hbx 3 _ rfl
 obtain ⟨y4, -⟩:=blk_cell (l:=[_,_,_,_,_,_,_]) hbx 4 _ rfl
 obtain ⟨y5, -⟩:=blk_cell (l:=[_,_,_,_,_,_,_]) hbx 5 _ rfl
 obtain ⟨y6, -⟩:=blk_cell (l:=[_,_,_,_,_,_,_]) hbx 6 _ rfl
 have x0:w5.cell? ⟨L.gW,k*7,none⟩=some (L.VC k):=hR5.wc hk 0 _ (by decide) rfl
 have x1:=hR5.wc hk 1 _ (by decide) rfl
 have x2:=hR5.wc hk 2 _ (by decide) rfl
 have x3:=hR5.wc hk 3 _ (by decide) rfl
 have x4:=hR5.wc hk 4 _ (by decide) rfl
 have x5:=hR5.wc hk 5 _ (by decide) rfl
 have x6:=hR5.wc hk 6 _ (by decide) rfl
 obtain ⟨cs,hbW, -⟩:=hR5.rowW
 have f0:w5.frozen? ⟨L.gW,k*7,none⟩=false:=row_frozen hbW _
 have f1:=row_frozen hbW (k*7+1)
 have f2:=row_frozen hbW (k*7+2)
 have f3:=row_frozen hbW (k*7+3)
 have f4:=row_frozen hbW (k*7+4)
 have f5:=row_frozen hbW (k*7+5)
 have f6:=row_frozen hbW (k*7+6)
 have H5:=hide hR5
 have HX5:=hide hbx
 have HL5:=hide hbl
 clear hbW hR5 hbx hbl
 refine wp_region_still_tail 7 Tryz.mixed (by kernel_rfl) ?_
 simp only [List.take_succ_cons,List.take_zero,List.drop_succ_cons,List.drop_zero]
 iterate 7 still_step
 refine wpStill_nil ?_
 show wpList _ _ _ _ _ w5.drew
 go_wp2
 go_ret
 refine ⟨rfl,?_⟩
 have:=HPut.out w5 (HB.out.trans (HL5.out.mono HSx.out))
 rw [HV.out] at this
 exact this
set_option maxRecDepth 100000 in
set_option maxHeartbeats 4000000 in
theorem refStep_no2 {L:RLay} {w:World} {N:Net} {R:Rc} (h:RefAt L w N R) (k:Nat) (hk:k<N.workers.length) (hst:stateOf N R k=1) (hco:RCodes L w N) (ib ic:Int) (hx:(R.w k).r 2=0) (hi:(codeOf N k)[(R.w k).place]? = some ⟨8,2,ib,ic⟩) :
  Calls Tryz.prog 61 #[.pointer (some ⟨L.p,0,none⟩),.int .i64 k] w fun e w'=>e=.returned (.int .i64 1)∧RStep L w N (doStep N R k) w':=by
 have HDo:Hid (doStep N R k=⟨R.W.set k ⟨(R.w k).place+1,(R.w k).r,wrap64 ((R.w k).steps+1)⟩,R.S⟩):=by
  show doStep N R k=_
  unfold doStep insAt
  rw [hi]
  simp [nextW,nextS,hx]
 have HPut:Hid (∀ w5,Below w.heap.size w w5→RStep L w N (doStep N R k) (putW w5 L.gW k (L.VC k) ⟨(R.w k).place+1,(R.w k).r,wrap64 ((R.w k).steps+1)⟩).drew):=fun w5 hb=>by
  rw [HDo.out]
  exact ((RStep.of_below h hb).put hco hk ⟨(R.w k).place+1,(R.w k).r,wrap64 ((R.w k).steps+1)⟩ (by show (R.w k).place+1≤_;have:=(List.getElem?_eq_some_iff.1 hi).1;omega)).drew
 clear HDo hco
 have q:((R.w k).r 2 != 0)=false:=by simp [hx]
 clear hx
 have HS:=hide (refState_calls h k hk)
 rw [hst] at HS
 have HH:Hid (∀ wx,Below w.heap.size w wx→RefAt L wx N R):=fun wx hx=>h.below hx
 clear h
 go_enter Tryz.func61,Tryz.ntmps61
 go_wp2_with fail
 refine (unhide HS).mono ?_
 rintro e w1 ⟨rfl,hb⟩
 have HR:=hide (HH.out w1 hb)
 have HB:=hide hb
 clear hb HS HH hst
 obtain ⟨p0, -⟩:=blk_cell (l:=[_,_]) HR.out.blk 0 _ rfl
 obtain ⟨p1, -⟩:=blk_cell (l:=[_,_]) HR.out.blk 1 _ rfl
 have x0:w1.cell? ⟨L.gW,k*7,none⟩=some (L.VC k):=HR.out.wc hk 0 _ (by decide) rfl
 have x1:=HR.out.wc hk 1 _ (by decide) rfl
 have x2:=HR.out.wc hk 2 _ (by decide) rfl
 have x3:=HR.out.wc hk 3 _ (by decide) rfl
 have x4:=HR.out.wc hk 4 _ (by decide) rfl
 have x5:=HR.out.wc hk 5 _ (by decide) rfl
 have x6:=HR.out.wc hk 6 _ (by decide) rfl
 obtain ⟨ca,cc,hvc,hc63,hccap,hcells⟩:=(HR.out.code k hk).openD
 have HV:=hide hvc
 rw [hvc] at x0
 have hpl:(R.w k).place<(codeOf N k).length:=(List.getElem?_eq_some_iff.1 hi).1
 have hgi:(codeOf N k).getD (R.w k).place ⟨0,0,0,0⟩=⟨8,2,ib,ic⟩:=by rw [getD_eq _ _ _ hpl];exact (List.getElem?_eq_some_iff.1 hi).2
 obtain ⟨cb,co,rfl,hcb,hcell⟩:=hcells _ hpl
 obtain ⟨d0,d1,d2,d3⟩:=hcell w1 (Below.refl _ _)
 rw [hgi] at d0 d1 d2 d3
 dsimp only at d0 d1 d2 d3
 have hk0:(0:Int)≤(k:Int):=by omega
 have hk1:(k:Int)<(N.workers.length:Int):=by omega
 have hp0:(0:Int)≤((R.w k).place:Int):=by omega
 have hp1:((R.w k).place:Int)<((codeOf N k).length:Int):=by omega
 have z0:=lt_of_cell p0
 have z1:=lt_of_cell x0
 clear hcells hcell hgi hvc hi
 go_upto_region 33 with fail
 have hbx:((w1.alloc (.cells #[.slice (some ⟨cb,co,none⟩) (codeOf N k).length cc,.int .i64 (((R.w k).place:Int)+1),.int .i64 ((R.w k).r 0),.int .i64 ((R.w k).r 1),.int .i64 ((R.w k).r 2),.int .i64 ((R.w k).r 3),.int .i64 (wrap64 ((R.w k).steps+1))] 92)).alloc (.cells #[.int .i64 8,.int .i64 2,.int .i64 ib,.int .i64 ic] 44)).heap[w1.heap.size]? = some (.cells #[.slice (some ⟨cb,co,none⟩) (codeOf N k).length cc,.int .i64 (((R.w k).place:Int)+1),.int .i64 ((R.w k).r 0),.int .i64 ((R.w k).r 1),.int .i64 ((R.w k).r 2),.int .i64 ((R.w k).r 3),.int .i64 (wrap64 ((R.w k).steps+1))] 92 (0,0)):=heapOld (by simp) (heapNew rfl)
 have hbl:Below w1.heap.size w1 ((w1.alloc (.cells #[.slice (some ⟨cb,co,none⟩) (codeOf N k).length cc,.int .i64 (((R.w k).place:Int)+1),.int .i64 ((R.w k).r 0),.int .i64 ((R.w k).r 1),.int .i64 ((R.w k).r 2),.int .i64 ((R.w k).r 3),.int .i64 (wrap64 ((R.w k).steps+1))] 92)).alloc (.cells #[.int .i64 8,.int .i64 2,.int .i64 ib,.int .i64 ic] 44)):=((Below.refl _ _).alloc (Nat.le_refl _) _).alloc (by simp) _
 have hR5:=HR.out.below hbl
 generalize (w1.alloc (.cells #[.slice (some ⟨cb,co,none⟩) (codeOf N k).length cc,.int .i64 (((R.w k).place:Int)+1),.int .i64 ((R.w k).r 0),.int .i64 ((R.w k).r 1),.int .i64 ((R.w k).r 2),.int .i64 ((R.w k).r 3),.int .i64 (wrap64 ((R.w k).steps+1))] 92)).alloc (.cells #[.int .i64 8,.int .i64 2,.int .i64 ib,.int .i64 ic] 44)=w5 at *
 have HSx:Hid (w.heap.size≤w1.heap.size):=HB.out.size
 generalize w1.heap.size=xb at *
 clear p0 p1 x0 x1 x2 x3 x4 x5 x6 d0 d1 d2 d3 z0 z1
 obtain ⟨p1, -⟩:=blk_cell (l:=[_,_]) hR5.blk 1 _ rfl
 obtain ⟨y0, -⟩:=blk_cell (l:=[_,_,_,_,_,_,_]) hbx 0 _ rfl
 obtain ⟨y1, -⟩:=blk_cell (l:=[_,_,_,_,_,_,_]) hbx 1 _ rfl
 obtain ⟨y2, -⟩:=blk_cell (l:=[_,_,_,_,_,_,_]) hbx 2 _ rfl
 obtain ⟨y3, -⟩:=blk_cell (l:=[_,_,_,_,_,_,_]) hbx 3 _ rfl
 obtain ⟨y4, -⟩:=blk_cell (l:=[_,_,_,_,_,_,_]) hbx 4 _ rfl
 obtain ⟨y5, -⟩:=blk_cell (l:=[_,_,_,_,_,_,_]) hbx 5 _ rfl
 obtain ⟨y6, -⟩:=blk_cell (l:=[_,_,_,_,_,_,_]) hbx 6 _ rfl
 have x0:w5.cell? ⟨L.gW,k*7,none⟩=some (L.VC k):=hR5.wc hk 0 _ (by decide) rfl
 have x1:=hR5.wc hk 1 _ (by decide) rfl
 have x2:=hR5.wc hk 2 _ (by decide) rfl
 have x3:=hR5.wc hk 3 _ (by decide) rfl
 have x4:=hR5.wc hk 4 _ (by decide) rfl
 have x5:=hR5.wc hk 5 _ (by decide) rfl
 have x6:=hR5.wc hk 6 _ (by decide) rfl
 obtain ⟨cs,hbW, -⟩:=hR5.rowW
 have f0:w5.frozen? ⟨L.gW,k*7,none⟩=false:=row_frozen hbW _
 have f1:=row_frozen hbW (k*7+1)
 have f2:=row_frozen hbW (k*7+2)
 have f3:=row_frozen hbW (k*7+3)
 have f4:=row_frozen hbW (k*7+4)
 have f5:=row_frozen hbW (k*7+5)
 have f6:=row_frozen hbW (k*7+6)
 have H5:=hide hR5
 have HX5:=hide hbx
 have HL5:=hide hbl
 clear hbW hR5 hbx hbl
 refine wp_region_still_tail 7 Tryz.mixed (by kernel_rfl) ?_
 simp only [List.take_succ_cons,List.take_zero,List.drop_succ_cons,List.drop_zero]
 iterate 7 still_step
 refine wpStill_nil ?_
 show wpList _ _ _ _ _ w5.drew
 go_wp2
 go_ret
 refine ⟨rfl,?_⟩
 have:=HPut.out w5 (HB.out.trans (HL5.out.mono HSx.out))
 rw [HV.out] at this
 exact this
set_option maxRecDepth 100000 in
set_option maxHeartbeats 4000000 in
theorem refStep_yes2 {L:RLay} {w:World} {N:Net} {R:Rc} (h:RefAt L w N R) (k:Nat) (hk:k<N.workers.length) (hst:stateOf N R k=1) (hco:RCodes L w N) (ib ic:Int) (hx:(R.w k).r 2≠0) (hi:(codeOf N k)[(R.w k).place]? = some ⟨8,2,ib,ic⟩) :
  Calls Tryz.prog 61 #[.pointer (some ⟨L.p,0,none⟩),.int .i64 k] w fun e w'=>e=.returned (.int .i64 1)∧RStep L w N (doStep N R k) w':=by
 have hval:=valid_ins h.ok hk (List.mem_of_getElem? hi)
 obtain ⟨hc0,hc1⟩:=valid_place hval (Or.inr (Or.inl rfl))
 dsimp only at hc0 hc1
 obtain ⟨ic,rfl⟩:=Int.eq_ofNat_of_zero_le hc0
 have HDo:Hid (doStep N R k=⟨R.W.set k ⟨ic,(R.w k).r,wrap64 ((R.w k).steps+1)⟩,R.S⟩):=by
  show doStep N R k=_
  unfold doStep insAt
  rw [hi]
  simp [nextW,nextS,hx]
 have HPut:Hid (∀ w5,Below w.heap.size w w5→RStep L w N (doStep N R k) (putW w5 L.gW k (L.VC k) ⟨ic,(R.w k).r,wrap64 ((R.w k).steps+1)⟩).drew):=fun w5 hb=>by
  rw [HDo.out]
  exact ((RStep.of_below h hb).put hco hk ⟨ic,(R.w k).r,wrap64 ((R.w k).steps+1)⟩ (by show ic≤_;omega)).drew
 clear HDo hco hval hc0 hc1
 have q:((R.w k).r 2 != 0)=true:=by simp [hx]
 clear hx
 have HS:=hide (refState_calls h k hk)
 rw [hst] at HS
 have HH:Hid (∀ wx,Below w.heap.size w wx→RefAt L wx N R):=fun wx hx=>h.below hx
 clear h
 go_enter Tryz.func61,Tryz.ntmps61
 go_wp2_with fail
 refine (unhide HS).mono ?_
 rintro e w1 ⟨rfl,hb⟩
 have HR:=hide (HH.out w1 hb)
 have HB:=hide hb
 clear hb HS HH hst
 obtain ⟨p0, -⟩:=blk_cell (l:=[_,_]) HR.out.blk 0 _ rfl
 obtain ⟨p1, -⟩:=blk_cell (l:=[_,_]) HR.out.blk 1 _ rfl
 have x0:w1.cell? ⟨L.gW,k*7,none⟩=some (L.VC k):=HR.out.wc hk 0 _ (by decide) rfl
 have x1:=HR.out.wc hk 1 _ (by decide) rfl
 have x2:=HR.out.wc hk 2 _ (by decide) rfl
 have x3:=HR.out.wc hk 3 _ (by decide) rfl
 have x4:=HR.out.wc hk 4 _ (by decide) rfl
 have x5:=HR.out.wc hk 5 _ (by decide) rfl
 have x6:=HR.out.wc hk 6 _ (by decide) rfl
 obtain ⟨ca,cc,hvc,hc63,hccap,hcells⟩:=(HR.out.code k hk).openD
 have HV:=hide hvc
 rw [hvc] at x0
 have hpl:(R.w k).place<(codeOf N k).length:=(List.getElem?_eq_some_iff.1 hi).1
 have hgi:(codeOf N k).getD (R.w k).place ⟨0,0,0,0⟩=⟨8,2,ib,ic⟩:=by rw [getD_eq _ _ _ hpl];exact (List.getElem?_eq_some_iff.1 hi).2
 obtain ⟨cb,co,rfl,hcb,hcell⟩:=hcells _ hpl
 obtain ⟨d0,d1,d2,d3⟩:=hcell w1 (Below.refl _ _)
 rw [hgi] at d0 d1 d2 d3
 dsimp only at d0 d1 d2 d3
 have hk0:(0:Int)≤(k:Int):=by omega
 have hk1:(k:Int)<(N.workers.length:Int):=by omega
 have hp0:(0:Int)≤((R.w k).place:Int):=by omega
 have hp1:((R.w k).place:Int)<((codeOf N k).length:Int):=by omega
 have z0:=lt_of_cell p0
 have z1:=lt_of_cell x0
 clear hcells hcell hgi hvc hi
 go_upto_region 33 with fail
 have hbx:((w1.alloc (.cells #[.slice (some ⟨cb,co,none⟩) (codeOf N k).length cc,.int .i64 ((ic:Int)),.int .i64 ((R.w k).r 0),.int .i64 ((R.w k).r 1),.int .i64 ((R.w k).r 2),.int .i64 ((R.w k).r 3),.int .i64 (wrap64 ((R.w k).steps+1))] 92)).alloc (.cells #[.int .i64 8,.int .i64 2,.int .i64 ib,.int .i64 (ic:Int)] 44)).heap[w1.heap.size]? = some (.cells #[.slice (some ⟨cb,co,none⟩) (codeOf N k).length cc,.int .i64 ((ic:Int)),.int .i64 ((R.w k).r 0),.int .i64 ((R.w k).r 1),.int .i64 ((R.w k).r 2),.int .i64 ((R.w k).r 3),.int .i64 (wrap64 ((R.w k).steps+1))] 92 (0,0)):=heapOld (by simp) (heapNew rfl)
 have hbl:Below w1.heap.size w1 ((w1.alloc (.cells #[.slice (some ⟨cb,co,none⟩) (codeOf N k).length cc,.int .i64 ((ic:Int)),.int .i64 ((R.w k).r 0),.int .i64 ((R.w k).r 1),.int .i64 ((R.w k).r 2),.int .i64 ((R.w k).r 3),.int .i64 (wrap64 ((R.w k).steps+1))] 92)).alloc (.cells #[.int .i64 8,.int .i64 2,.int .i64 ib,.int .i64 (ic:Int)] 44)):=((Below.refl _ _).alloc (Nat.le_refl _) _).alloc (by simp) _
 have hR5:=HR.out.below hbl
 generalize (w1.alloc (.cells #[.slice (some ⟨cb,co,none⟩) (codeOf N k).length cc,.int .i64 ((ic:Int)),.int .i64 ((R.w k).r 0),.int .i64 ((R.w k).r 1),.int .i64 ((R.w k).r 2),.int .i64 ((R.w k).r 3),.int .i64 (wrap64 ((R.w k).steps+1))] 92)).alloc (.cells #[.int .i64 8,.int .i64 2,.int .i64 ib,.int .i64 (ic:Int)] 44)=w5 at *
 have HSx:Hid (w.heap.size≤w1.heap.size):=HB.out.size
 generalize w1.heap.size=xb at *
 clear p0 p1 x0 x1 x2 x3 x4 x5 x6 d0 d1 d2 d3 z0 z1
 obtain ⟨p1, -⟩:=blk_cell (l:=[_,_]) hR5.blk 1 _ rfl
 obtain ⟨y0, -⟩:=blk_cell (l:=[_,_,_,_,_,_,_]) hbx 0 _ rfl
 obtain ⟨y1, -⟩:=blk_cell (l:=[_,_,_,_,_,_,_]) hbx 1 _ rfl
 obtain ⟨y2, -⟩:=blk_cell (l:=[_,_,_,_,_,_,_]) hbx 2 _ rfl
 obtain ⟨y3, -⟩:=blk_cell (l:=[_,_,_,_,_,_,_]) hbx 3 _ rfl
 obtain ⟨y4, -⟩:=blk_cell (l:=[_,_,_,_,_,_,_]) hbx 4 _ rfl
 obtain ⟨y5, -⟩:=blk_cell (l:=[_,_,_,_,_,_,_]) hbx 5 _ rfl
 obtain ⟨y6, -⟩:=blk_cell (l:=[_,_,_,_,_,_,_]) hbx 6 _ rfl
 have x0:w5.cell? ⟨L.gW,k*7,none⟩=some (L.VC k):=hR5.wc hk 0 _ (by decide) rfl
 have x1:=hR5.wc hk 1 _ (by decide) rfl
 have x2:=hR5.wc hk 2 _ (by decide) rfl
 have x3:=hR5.wc hk 3 _ (by decide) rfl
 have x4:=hR5.wc hk 4 _ (by decide) rfl
 have x5:=hR5.wc hk 5 _ (by decide) rfl
 have x6:=hR5.wc hk 6 _ (by decide) rfl
 obtain ⟨cs,hbW, -⟩:=hR5.rowW
 have f0:w5.frozen? ⟨L.gW,k*7,none⟩=false:=row_frozen hbW _
 have f1:=row_frozen hbW (k*7+1)
 have f2:=row_frozen hbW (k*7+2)
 have f3:=row_frozen hbW (k*7+3)
 have f4:=row_frozen hbW (k*7+4)
 have f5:=row_frozen hbW (k*7+5)
 have f6:=row_frozen hbW (k*7+6)
 have H5:=hide hR5
 have HX5:=hide hbx
 have HL5:=hide hbl
 clear hbW hR5 hbx hbl
 refine wp_region_still_tail 7 Tryz.mixed (by kernel_rfl) ?_
 simp only [List.take_succ_cons,List.take_zero,List.drop_succ_cons,List.drop_zero]
 iterate 7 still_step
 refine wpStill_nil ?_
 show wpList _ _ _ _ _ w5.drew
 go_wp2
 go_ret
 refine ⟨rfl,?_⟩
 have:=HPut.out w5 (HB.out.trans (HL5.out.mono HSx.out))
 rw [HV.out] at this
 exact this
set_option maxRecDepth 100000 in
set_option maxHeartbeats 4000000 in
theorem refStep_no3 {L:RLay} {w:World} {N:Net} {R:Rc} (h:RefAt L w N R) (k:Nat) (hk:k<N.workers.length) (hst:stateOf N R k=1) (hco:RCodes L w N) (ib ic:Int) (hx:(R.w k).r 3=0) (hi:(codeOf N k)[(R.w k).place]? = some ⟨8,3,ib,ic⟩) :
  Calls Tryz.prog 61 #[.pointer (some ⟨L.p,0,none⟩),.int .i64 k] w fun e w'=>e=.returned (.int .i64 1)∧RStep L w N (doStep N R k) w':=by
 have HDo:Hid (doStep N R k=⟨R.W.set k ⟨(R.w k).place+1,(R.w k).r,wrap64 ((R.w k).steps+1)⟩,R.S⟩):=by
  show doStep N R k=_
  unfold doStep insAt
  rw [hi]
  simp [nextW,nextS,hx]
 have HPut:Hid (∀ w5,Below w.heap.size w w5→RStep L w N (doStep N R k) (putW w5 L.gW k (L.VC k) ⟨(R.w k).place+1,(R.w k).r,wrap64 ((R.w k).steps+1)⟩).drew):=fun w5 hb=>by
  rw [HDo.out]
  exact ((RStep.of_below h hb).put hco hk ⟨(R.w k).place+1,(R.w k).r,wrap64 ((R.w k).steps+1)⟩ (by show (R.w k).place+1≤_;have:=(List.getElem?_eq_some_iff.1 hi).1;omega)).drew
 clear HDo hco
 have q:((R.w k).r 3 != 0)=false:=by simp [hx]
 clear hx
 have HS:=hide (refState_calls h k hk)
 rw [hst] at HS
 have HH:Hid (∀ wx,Below w.heap.size w wx→RefAt L wx N R):=fun wx hx=>h.below hx
 clear h
 go_enter Tryz.func61,Tryz.ntmps61
 go_wp2_with fail
 refine (unhide HS).mono ?_
 rintro e w1 ⟨rfl,hb⟩
 have HR:=hide (HH.out w1 hb)
 have HB:=hide hb
 clear hb HS HH hst
 obtain ⟨p0, -⟩:=blk_cell (l:=[_,_]) HR.out.blk 0 _ rfl
 obtain ⟨p1, -⟩:=blk_cell (l:=[_,_]) HR.out.blk 1 _ rfl
 have x0:w1.cell? ⟨L.gW,k*7,none⟩=some (L.VC k):=HR.out.wc hk 0 _ (by decide) rfl
 have x1:=HR.out.wc hk 1 _ (by decide) rfl
 have x2:=HR.out.wc hk 2 _ (by decide) rfl
 have x3:=HR.out.wc hk 3 _ (by decide) rfl
 have x4:=HR.out.wc hk 4 _ (by decide) rfl
 have x5:=HR.out.wc hk 5 _ (by decide) rfl
 have x6:=HR.out.wc hk 6 _ (by decide) rfl
 obtain ⟨ca,cc,hvc,hc63,hccap,hcells⟩:=(HR.out.code k hk).openD
 have HV:=hide hvc
 rw [hvc] at x0
 have hpl:(R.w k).place<(codeOf N k).length:=(List.getElem?_eq_some_iff.1 hi).1
 have hgi:(codeOf N k).getD (R.w k).place ⟨0,0,0,0⟩=⟨8,3,ib,ic⟩:=by rw [getD_eq _ _ _ hpl];exact (List.getElem?_eq_some_iff.1 hi).2
 obtain ⟨cb,co,rfl,hcb,hcell⟩:=hcells _ hpl
 obtain ⟨d0,d1,d2,d3⟩:=hcell w1 (Below.refl _ _)
 rw [hgi] at d0 d1 d2 d3
 dsimp only at d0 d1 d2 d3
 have hk0:(0:Int)≤(k:Int):=by omega
 have hk1:(k:Int)<(N.workers.length:Int):=by omega
 have hp0:(0:Int)≤((R.w k).place:Int):=by omega
 have hp1:((R.w k).place:Int)<((codeOf N k).length:Int):=by omega
 have z0:=lt_of_cell p0
 have z1:=lt_of_cell x0
 clear hcells hcell hgi hvc hi
 go_upto_region 33 with fail
 have hbx:((w1.alloc (.cells #[.slice (some ⟨cb,co,none⟩) (codeOf N k).length cc,.int .i64 (((R.w k).place:Int)+1),.int .i64 ((R.w k).r 0),.int .i64 ((R.w k).r 1),.int .i64 ((R.w k).r 2),.int .i64 ((R.w k).r 3),.int .i64 (wrap64 ((R.w k).steps+1))] 92)).alloc (.cells #[.int .i64 8,.int .i64 3,.int .i64 ib,.int .i64 ic] 44)).heap[w1.heap.size]? = some (.cells #[.slice (some ⟨cb,co,none⟩) (codeOf N k).length cc,.int .i64 (((R.w k).place:Int)+1),.int .i64 ((R.w k).r 0),.int .i64 ((R.w k).r 1),.int .i64 ((R.w k).r 2),.int .i64 ((R.w k).r 3),.int .i64 (wrap64 ((R.w k).steps+1))] 92 (0,0)):=heapOld (by simp) (heapNew rfl)
 have hbl:Below w1.heap.size w1 ((w1.alloc (.cells #[.slice (some ⟨cb,co,none⟩) (codeOf N k).length cc,.int .i64 (((R.w k).place:Int)+1),.int .i64 ((R.w k).r 0),.int .i64 ((R.w k).r 1),.int .i64 ((R.w k).r 2),.int .i64 ((R.w k).r 3),.int .i64 (wrap64 ((R.w k).steps+1))] 92)).alloc (.cells #[.int .i64 8,.int .i64 3,.int .i64 ib,.int .i64 ic] 44)):=((Below.refl _ _).alloc (Nat.le_refl _) _).alloc (by simp) _
 have hR5:=HR.out.below hbl
 generalize (w1.alloc (.cells #[.slice (some ⟨cb,co,none⟩) (codeOf N k).length cc,.int .i64 (((R.w k).place:Int)+1),.int .i64 ((R.w k).r 0),.int .i64 ((R.w k).r 1),.int .i64 ((R.w k).r 2),.int .i64 ((R.w k).r 3),.int .i64 (wrap64 ((R.w k).steps+1))] 92)).alloc (.cells #[.int .i64 8,.int .i64 3,.int .i64 ib,.int .i64 ic] 44)=w5 at *
 have HSx:Hid (w.heap.size≤w1.heap.size):=HB.out.size
 generalize w1.heap.size=xb at *
 clear p0 p1 x0 x1 x2 x3 x4 x5 x6 d0 d1 d2 d3 z0 z1
 obtain ⟨p1, -⟩:=blk_cell (l:=[_,_]) hR5.blk 1 _ rfl
 obtain ⟨y0, -⟩:=blk_cell (l:=[_,_,_,_,_,_,_]) hbx 0 _ rfl
 obtain ⟨y1, -⟩:=blk_cell (l:=[_,_,_,_,_,_,_]) hbx 1 _ rfl
 obtain ⟨y2, -⟩:=blk_cell (l:=[_,_,_,_,_,_,_]) hbx 2 _ rfl
 obtain ⟨y3, -⟩:=blk_cell (l:=[_,_,_,_,_,_,_]) hbx 3 _ rfl
 obtain ⟨y4, -⟩:=blk_cell (l:=[_,_,_,_,_,_,_]) hbx 4 _ rfl
 obtain ⟨y5, -⟩:=blk_cell (l:=[_,_,_,_,_,_,_]) hbx 5 _ rfl
 obtain ⟨y6, -⟩:=blk_cell (l:=[_,_,_,_,_,_,_]) hbx 6 _ rfl
 have x0:w5.cell? ⟨L.gW,k*7,none⟩=some (L.VC k):=hR5.wc hk 0 _ (by decide) rfl
 have x1:=hR5.wc hk 1 _ (by decide) rfl
 have x2:=hR5.wc hk 2 _ (by decide) rfl
 have x3:=hR5.wc hk 3 _ (by decide) rfl
 have x4:=hR5.wc hk 4 _ (by decide) rfl
 have x5:=hR5.wc hk 5 _ (by decide) rfl
 have x6:=hR5.wc hk 6 _ (by decide) rfl
 obtain ⟨cs,hbW, -⟩:=hR5.rowW
 have f0:w5.frozen? ⟨L.gW,k*7,none⟩=false:=row_frozen hbW _
 have f1:=row_frozen hbW (k*7+1)
 have f2:=row_frozen hbW (k*7+2)
 have f3:=row_frozen hbW (k*7+3)
 have f4:=row_frozen hbW (k*7+4)
 have f5:=row_frozen hbW (k*7+5)
 have f6:=row_frozen hbW (k*7+6)
 have H5:=hide hR5
 have HX5:=hide hbx
 have HL5:=hide hbl
 clear hbW hR5 hbx hbl
 refine wp_region_still_tail 7 Tryz.mixed (by kernel_rfl) ?_
 simp only [List.take_succ_cons,List.take_zero,List.drop_succ_cons,List.drop_zero]
 iterate 7 still_step
 refine wpStill_nil ?_
 show wpList _ _ _ _ _ w5.drew
 go_wp2
 go_ret
 refine ⟨rfl,?_⟩
 have:=HPut.out w5 (HB.out.trans (HL5.out.mono HSx.out))
 rw [HV.out] at this
 exact this
set_option maxRecDepth 100000 in
set_option maxHeartbeats 4000000 in
theorem refStep_yes3 {L:RLay} {w:World} {N:Net} {R:Rc} (h:RefAt L w N R) (k:Nat) (hk:k<N.workers.length) (hst:stateOf N R k=1) (hco:RCodes L w N) (ib ic:Int) (hx:(R.w k).r 3≠0) (hi:(codeOf N k)[(R.w k).place]? = some ⟨8,3,ib,ic⟩) :
  Calls Tryz.prog 61 #[.pointer (some ⟨L.p,0,none⟩),.int .i64 k] w fun e w'=>e=.returned (.int .i64 1)∧RStep L w N (doStep N R k) w':=by
 have hval:=valid_ins h.ok hk (List.mem_of_getElem? hi)
 obtain ⟨hc0,hc1⟩:=valid_place hval (Or.inr (Or.inl rfl))
 dsimp only at hc0 hc1
 obtain ⟨ic,rfl⟩:=Int.eq_ofNat_of_zero_le hc0
 have HDo:Hid (doStep N R k=⟨R.W.set k ⟨ic,(R.w k).r,wrap64 ((R.w k).steps+1)⟩,R.S⟩):=by
  show doStep N R k=_
  unfold doStep insAt
  rw [hi]
  simp [nextW,nextS,hx]
 have HPut:Hid (∀ w5,Below w.heap.size w w5→RStep L w N (doStep N R k) (putW w5 L.gW k (L.VC k) ⟨ic,(R.w k).r,wrap64 ((R.w k).steps+1)⟩).drew):=fun w5 hb=>by
  rw [HDo.out]
  exact ((RStep.of_below h hb).put hco hk ⟨ic,(R.w k).r,wrap64 ((R.w k).steps+1)⟩ (by show ic≤_;omega)).drew
 clear HDo hco hval hc0 hc1
 have q:((R.w k).r 3 != 0)=true:=by simp [hx]
 clear hx
 have HS:=hide (refState_calls h k hk)
 rw [hst] at HS
 have HH:Hid (∀ wx,Below w.heap.size w wx→RefAt L wx N R):=fun wx hx=>h.below hx
 clear h
 go_enter Tryz.func61,Tryz.ntmps61
 go_wp2_with fail
 refine (unhide HS).mono ?_
 rintro e w1 ⟨rfl,hb⟩
 have HR:=hide (HH.out w1 hb)
 have HB:=hide hb
 clear hb HS HH hst
 obtain ⟨p0, -⟩:=blk_cell (l:=[_,_]) HR.out.blk 0 _ rfl
 obtain ⟨p1, -⟩:=blk_cell (l:=[_,_]) HR.out.blk 1 _ rfl
 have x0:w1.cell? ⟨L.gW,k*7,none⟩=some (L.VC k):=HR.out.wc hk 0 _ (by decide) rfl
 have x1:=HR.out.wc hk 1 _ (by decide) rfl
 have x2:=HR.out.wc hk 2 _ (by decide) rfl
 have x3:=HR.out.wc hk 3 _ (by decide) rfl
 have x4:=HR.out.wc hk 4 _ (by decide) rfl
 have x5:=HR.out.wc hk 5 _ (by decide) rfl
 have x6:=HR.out.wc hk 6 _ (by decide) rfl
 obtain ⟨ca,cc,hvc,hc63,hccap,hcells⟩:=(HR.out.code k hk).openD
 have HV:=hide hvc
 rw [hvc] at x0
 have hpl:(R.w k).place<(codeOf N k).length:=(List.getElem?_eq_some_iff.1 hi).1
 have hgi:(codeOf N k).getD (R.w k).place ⟨0,0,0,0⟩=⟨8,3,ib,ic⟩:=by rw [getD_eq _ _ _ hpl];exact (List.getElem?_eq_some_iff.1 hi).2
 obtain ⟨cb,co,rfl,hcb,hcell⟩:=hcells _ hpl
 obtain ⟨d0,d1,d2,d3⟩:=hcell w1 (Below.refl _ _)
 rw [hgi] at d0 d1 d2 d3
 dsimp only at d0 d1 d2 d3
 have hk0:(0:Int)≤(k:Int):=by omega
 have hk1:(k:Int)<(N.workers.length:Int):=by omega
 have hp0:(0:Int)≤((R.w k).place:Int):=by omega
 have hp1:((R.w k).place:Int)<((codeOf N k).length:Int):=by omega
 have z0:=lt_of_cell p0
 have z1:=lt_of_cell x0
 clear hcells hcell hgi hvc hi
 go_upto_region 33 with fail
 have hbx:((w1.alloc (.cells #[.slice (some ⟨cb,co,none⟩) (codeOf N k).length cc,.int .i64 ((ic:Int)),.int .i64 ((R.w k).r 0),.int .i64 ((R.w k).r 1),.int .i64 ((R.w k).r 2),.int .i64 ((R.w k).r 3),.int .i64 (wrap64 ((R.w k).steps+1))] 92)).alloc (.cells #[.int .i64 8,.int .i64 3,.int .i64 ib,.int .i64 (ic:Int)] 44)).heap[w1.heap.size]? = some (.cells #[.slice (some ⟨cb,co,none⟩) (codeOf N k).length cc,.int .i64 ((ic:Int)),.int .i64 ((R.w k).r 0),.int .i64 ((R.w k).r 1),.int .i64 ((R.w k).r 2),.int .i64 ((R.w k).r 3),.int .i64 (wrap64 ((R.w k).steps+1))] 92 (0,0)):=heapOld (by simp) (heapNew rfl)
 have hbl:Below w1.heap.size w1 ((w1.alloc (.cells #[.slice (some ⟨cb,co,none⟩) (codeOf N k).length cc,.int .i64 ((ic:Int)),.int .i64 ((R.w k).r 0),.int .i64 ((R.w k).r 1),.int .i64 ((R.w k).r 2),.int .i64 ((R.w k).r 3),.int .i64 (wrap64 ((R.w k).steps+1))] 92)).alloc (.cells #[.int .i64 8,.int .i64 3,.int .i64 ib,.int .i64 (ic:Int)] 44)):=((Below.refl _ _).alloc (Nat.le_refl _) _).alloc (by simp) _
 have hR5:=HR.out.below hbl
 generalize (w1.alloc (.cells #[.slice (some ⟨cb,co,none⟩) (codeOf N k).length cc,.int .i64 ((ic:Int)),.int .i64 ((R.w k).r 0),.int .i64 ((R.w k).r 1),.int .i64 ((R.w k).r 2),.int .i64 ((R.w k).r 3),.int .i64 (wrap64 ((R.w k).steps+1))] 92)).alloc (.cells #[.int .i64 8,.int .i64 3,.int .i64 ib,.int .i64 (ic:Int)] 44)=w5 at *
 have HSx:Hid (w.heap.size≤w1.heap.size):=HB.out.size
 generalize w1.heap.size=xb at *
 clear p0 p1 x0 x1 x2 x3 x4 x5 x6 d0 d1 d2 d3 z0 z1
 obtain ⟨p1, -⟩:=blk_cell (l:=[_,_]) hR5.blk 1 _ rfl
 obtain ⟨y0, -⟩:=blk_cell (l:=[_,_,_,_,_,_,_]) hbx 0 _ rfl
 obtain ⟨y1, -⟩:=blk_cell (l:=[_,_,_,_,_,_,_]) hbx 1 _ rfl
 obtain ⟨y2, -⟩:=blk_cell (l:=[_,_,_,_,_,_,_]) hbx 2 _ rfl
 obtain ⟨y3, -⟩:=blk_cell (l:=[_,_,_,_,_,_,_]) hbx 3 _ rfl
 obtain ⟨y4, -⟩:=blk_cell (l:=[_,_,_,_,_,_,_]) hbx 4 _ rfl
 obtain ⟨y5, -⟩:=blk_cell (l:=[_,_,_,_,_,_,_]) hbx 5 _ rfl
 obtain ⟨y6, -⟩:=blk_cell (l:=[_,_,_,_,_,_,_]) hbx 6 _ rfl
 have x0:w5.cell? ⟨L.gW,k*7,none⟩=some (L.VC k):=hR5.wc hk 0 _ (by decide) rfl
 have x1:=hR5.wc hk 1 _ (by decide) rfl
 have x2:=hR5.wc hk 2 _ (by decide) rfl
 have x3:=hR5.wc hk 3 _ (by decide) rfl
 have x4:=hR5.wc hk 4 _ (by decide) rfl
 have x5:=hR5.wc hk 5 _ (by decide) rfl
 have x6:=hR5.wc hk 6 _ (by decide) rfl
 obtain ⟨cs,hbW, -⟩:=hR5.rowW
 have f0:w5.frozen? ⟨L.gW,k*7,none⟩=false:=row_frozen hbW _
 have f1:=row_frozen hbW (k*7+1)
 have f2:=row_frozen hbW (k*7+2)
 have f3:=row_frozen hbW (k*7+3)
 have f4:=row_frozen hbW (k*7+4)
 have f5:=row_frozen hbW (k*7+5)
 have f6:=row_frozen hbW (k*7+6)
 have H5:=hide hR5
 have HX5:=hide hbx
 have HL5:=hide hbl
 clear hbW hR5 hbx hbl
 refine wp_region_still_tail 7 Tryz.mixed (by kernel_rfl) ?_
 simp only [List.take_succ_cons,List.take_zero,List.drop_succ_cons,List.drop_zero]
 iterate 7 still_step
 refine wpStill_nil ?_
 show wpList _ _ _ _ _ w5.drew
 go_wp2
 go_ret
 refine ⟨rfl,?_⟩
 have:=HPut.out w5 (HB.out.trans (HL5.out.mono HSx.out))
 rw [HV.out] at this
 exact this
end Go.Proofs.YthfdgdfnflilfaaGreatDoor

/- Part 33: RefS9. -/
import Derived.Test.YthfdgdfnflilfaaGreatDoorPart27
namespace Go.Proofs.YthfdgdfnflilfaaGreatDoor
open Go.RowKit Go.Conc
set_option maxRecDepth 100000 in
set_option maxHeartbeats 4000000 in
theorem refStep_alu4 {L:RLay} {w:World} {N:Net} {R:Rc} (h:RefAt L w N R) (k:Nat) (hk:k<N.workers.length) (hst:stateOf N R k=1) (hco:RCodes L w N) (ia ib ic:Int) (hi:(codeOf N k)[(R.w k).place]? = some ⟨4,ia,ib,ic⟩) :
  Calls Tryz.prog 61 #[.pointer (some ⟨L.p,0,none⟩),.int .i64 k] w fun e w'=>e=.returned (.int .i64 1)∧RStep L w N (doStep N R k) w':=by
 have hval:=valid_ins h.ok hk (List.mem_of_getElem? hi)
 have hrg:=valid_reg hval (by dsimp only;omega)
 have hal:=valid_alu hval (by dsimp only;omega)
 dsimp only at hrg hal
 obtain ⟨hr0,hr1⟩:=hrg
 obtain ⟨⟨hb0,hb1⟩,hc0,hc1⟩:=hal
 obtain ⟨ka,rfl⟩:=Int.eq_ofNat_of_zero_le hr0
 obtain ⟨kb,rfl⟩:=Int.eq_ofNat_of_zero_le hb0
 obtain ⟨kc,rfl⟩:=Int.eq_ofNat_of_zero_le hc0
 have hka:ka<4:=by omega
 have hkb:kb<4:=by omega
 have hkc:kc<4:=by omega
 obtain ⟨xb',hxb⟩:∃ xb',xb'=(R.w k).r kb:=⟨_,rfl⟩
 obtain ⟨xc',hxc⟩:∃ xc',xc'=(R.w k).r kc:=⟨_,rfl⟩
 obtain ⟨v,hv⟩:∃ v,v=alu 4 xb' xc':=⟨_,rfl⟩
 have HDo:Hid (doStep N R k=⟨R.W.set k ⟨(R.w k).place+1,upd (R.w k).r ka v,wrap64 ((R.w k).steps+1)⟩,R.S⟩):=by
  show doStep N R k=_
  unfold doStep insAt
  rw [hi,hv,hxb,hxc]
  simp [nextW,nextS]
 have HPut:Hid (∀ w5,Below w.heap.size w w5→RStep L w N (doStep N R k) (putW w5 L.gW k (L.VC k) ⟨(R.w k).place+1,upd (R.w k).r ka v,wrap64 ((R.w k).steps+1)⟩).drew):=fun w5 hb=>by
  rw [HDo.out]
  exact ((RStep.of_below h hb).put hco hk ⟨(R.w k).place+1,upd (R.w k).r ka v,wrap64 ((R.w k).steps+1)⟩ (by show (R.w k).place+1≤_;have:=(List.getElem?_eq_some_iff.1 hi).1;omega)).drew
 have hve:IntKind.i64.wrap (xb'+xc')=v:=by rw [hv,IntKind.wrap_i64];simp [alu,wrap64]
 clear HDo hco hval hr0 hr1 hb0 hc0 hv
 have HS:=hide (refState_calls h k hk)
 rw [hst] at HS
 have HH:Hid (∀ wx,Below w.heap.size w wx→RefAt L wx N R):=fun wx hx=>h.below hx
 clear h
 go_enter Tryz.func61,Tryz.ntmps61
 go_wp2_with fail
 refine (unhide HS).mono ?_
 rintro e w1 ⟨rfl,hb⟩
 have HR:=hide (HH.out w1 hb)
 have HB:=hide hb
 clear hb HS hst
 obtain ⟨p0, -⟩:=blk_cell (l:=[_,_]) HR.out.blk 0 _ rfl
 obtain ⟨p1, -⟩:=blk_cell (l:=[_,_]) HR.out.blk 1 _ rfl
 have x0:w1.cell? ⟨L.gW,k*7,none⟩=some (L.VC k):=HR.out.wc hk 0 _ (by decide) rfl
 have x1:=HR.out.wc hk 1 _ (by decide) rfl
 have x2:=HR.out.wc hk 2 _ (by decide) rfl
 have x3:=HR.out.wc hk 3 _ (by decide) rfl
 have x4:=HR.out.wc hk 4 _ (by decide) rfl
 have x5:=HR.out.wc hk 5 _ (by decide) rfl
 have x6:=HR.out.wc hk 6 _ (by decide) rfl
 obtain ⟨ca,cc,hvc,hc63,hccap,hcells⟩:=(HR.out.code k hk).openD
 have HV:=hide hvc
 rw [hvc] at x0
 have hpl:(R.w k).place<(codeOf N k).length:=(List.getElem?_eq_some_iff.1 hi).1
 have hgi:(codeOf N k).getD (R.w k).place ⟨0,0,0,0⟩=⟨4,ka,kb,kc⟩:=by rw [getD_eq _ _ _ hpl];exact (List.getElem?_eq_some_iff.1 hi).2
 obtain ⟨cb,co,rfl,hcb,hcell⟩:=hcells _ hpl
 obtain ⟨d0,d1,d2,d3⟩:=hcell w1 (Below.refl _ _)
 rw [hgi] at d0 d1 d2 d3
 dsimp only at d0 d1 d2 d3
 have hk0:(0:Int)≤(k:Int):=by omega
 have hk1:(k:Int)<(N.workers.length:Int):=by omega
 have hp0:(0:Int)≤((R.w k).place:Int):=by omega
 have hp1:((R.w k).place:Int)<((codeOf N k).length:Int):=by omega
 have z0:=lt_of_cell p0
 have z1:=lt_of_cell x0
 clear hcells hcell hgi hvc hi
 go_upto_region 19 with fail
 have hbx:((w1.alloc (.cells #[.slice (some ⟨cb,co,none⟩) (codeOf N k).length cc,.int .i64 ((R.w k).place:Int),.int .i64 ((R.w k).r 0),.int .i64 ((R.w k).r 1),.int .i64 ((R.w k).r 2),.int .i64 ((R.w k).r 3),.int .i64 ((R.w k).steps)] 92)).alloc (.cells #[.int .i64 4,.int .i64 ka,.int .i64 kb,.int .i64 kc] 44)).heap[w1.heap.size]? = some (.cells #[.slice (some ⟨cb,co,none⟩) (codeOf N k).length cc,.int .i64 ((R.w k).place:Int),.int .i64 ((R.w k).r 0),.int .i64 ((R.w k).r 1),.int .i64 ((R.w k).r 2),.int .i64 ((R.w k).r 3),.int .i64 ((R.w k).steps)] 92 (0,0)):=heapOld (by simp) (heapNew rfl)
 have hbi:((w1.alloc (.cells #[.slice (some ⟨cb,co,none⟩) (codeOf N k).length cc,.int .i64 ((R.w k).place:Int),.int .i64 ((R.w k).r 0),.int .i64 ((R.w k).r 1),.int .i64 ((R.w k).r 2),.int .i64 ((R.w k).r 3),.int .i64 ((R.w k).steps)] 92)).alloc (.cells #[.int .i64 4,.int .i64 ka,.int .i64 kb,.int .i64 kc] 44)).heap[w1.heap.size+1]? = some (.cells #[.int .i64 4,.int .i64 ka,.int .i64 kb,.int .i64 kc] 44 (0,0)):=heapNew (by simp)
 have hbl:Below w1.heap.size w1 ((w1.alloc (.cells #[.slice (some ⟨cb,co,none⟩) (codeOf N k).length cc,.int .i64 ((R.w k).place:Int),.int .i64 ((R.w k).r 0),.int .i64 ((R.w k).r 1),.int .i64 ((R.w k).r 2),.int .i64 ((R.w k).r 3),.int .i64 ((R.w k).steps)] 92)).alloc (.cells #[.int .i64 4,.int .i64 ka,.int .i64 kb,.int .i64 kc] 44)):=((Below.refl _ _).alloc (Nat.le_refl _) _).alloc (by simp) _
 generalize (w1.alloc (.cells #[.slice (some ⟨cb,co,none⟩) (codeOf N k).length cc,.int .i64 ((R.w k).place:Int),.int .i64 ((R.w k).r 0),.int .i64 ((R.w k).r 1),.int .i64 ((R.w k).r 2),.int .i64 ((R.w k).r 3),.int .i64 ((R.w k).steps)] 92)).alloc (.cells #[.int .i64 4,.int .i64 ka,.int .i64 kb,.int .i64 kc] 44)=w4 at *
 have HSx:Hid (w.heap.size≤w1.heap.size):=HB.out.size
 have HLx:=hide hbl
 clear hbl p0 p1 x0 x1 x2 x3 x4 x5 x6 d0 d1 d2 d3 z0 z1
 obtain ⟨i0, -⟩:=blk_cell (l:=[_,_,_,_]) hbi 0 _ rfl
 obtain ⟨i1, -⟩:=blk_cell (l:=[_,_,_,_]) hbi 1 _ rfl
 obtain ⟨i2, -⟩:=blk_cell (l:=[_,_,_,_]) hbi 2 _ rfl
 obtain ⟨i3, -⟩:=blk_cell (l:=[_,_,_,_]) hbi 3 _ rfl
 have hre:∀ j,j<4→w4.cell? ⟨w1.heap.size,2+j,none⟩=some (.int .i64 ((R.w k).r j)):=fun j hj=>by
  rcases (show j=0∨j=1∨j=2∨j=3 by omega) with rfl | rfl | rfl | rfl
  ·exact row_cell hbx rfl
  ·exact row_cell hbx rfl
  ·exact row_cell hbx rfl
  ·exact row_cell hbx rfl
 have ya:=hre ka hka
 have yb:=hre kb hkb
 have yc:=hre kc hkc
 rw [← hxb] at yb
 rw [← hxc] at yc
 clear hxb hxc
 have fa:=row_frozen hbx (2+ka)
 have HBx:=hide hbx
 have ka0:(0:Int)≤(ka:Int):=by omega
 have ka1:(ka:Int)<4:=by omega
 have kb0:(0:Int)≤(kb:Int):=by omega
 have kb1:(kb:Int)<4:=by omega
 have kc0:(0:Int)≤(kc:Int):=by omega
 have kc1:(kc:Int)<4:=by omega
 clear hre hbx hbi
 refine wp_region_still_tail 15 Tryz.mixed (by kernel_rfl) ?_
 simp only [List.take_succ_cons,List.take_zero,List.drop_succ_cons,List.drop_zero]
 iterate 15 still_step
 refine wpStill_nil ?_
 show wpList _ _ _ _ _ w4.drew
 go_upto_region 31 with fail
 have hbx6:((w4.setCell ⟨w1.heap.size,2+ka,none⟩ (.int .i64 v)).drew).heap[w1.heap.size]? = some (.cells #[.slice (some ⟨cb,co,none⟩) (codeOf N k).length cc,.int .i64 ((R.w k).place:Int),.int .i64 (upd (R.w k).r ka v 0),.int .i64 (upd (R.w k).r ka v 1),.int .i64 (upd (R.w k).r ka v 2),.int .i64 (upd (R.w k).r ka v 3),.int .i64 ((R.w k).steps)] 92 (0,0)):=by
  have h1:=blk_set (w:=w4) HBx.out (2+ka) (.int .i64 v)
  refine h1.trans ?_
  congr 2
  rcases (show ka=0∨ka=1∨ka=2∨ka=3 by omega) with rfl | rfl | rfl | rfl<;>simp [upd]
 have hfx:Fr (fun b=>b=w1.heap.size) w4 ((w4.setCell ⟨w1.heap.size,2+ka,none⟩ (.int .i64 v)).drew):=(Fr.setCell (S:=fun b=>b=w1.heap.size) (Fr.refl _ w4) (p:=⟨w1.heap.size,2+ka,none⟩) (Or.inr rfl) _).drewN 1
 have HB6:Hid (Below w.heap.size w ((w4.setCell ⟨w1.heap.size,2+ka,none⟩ (.int .i64 v)).drew)):=(HB.out.trans (HLx.out.mono HSx.out)).trans ⟨hfx.os,hfx.tape,hfx.output,hfx.size,fun b hb=>hfx.block b (Nat.lt_of_lt_of_le hb (HB.out.trans (HLx.out.mono HSx.out)).size) (fun e=>by have:=HSx.out;omega)⟩
 generalize (w4.setCell ⟨w1.heap.size,2+ka,none⟩ (.int .i64 v)).drew=w6 at *
 clear hfx i0 i1 i2 i3 ya yb yc fa HBx
 obtain ⟨y1, -⟩:=blk_cell (l:=[_,_,_,_,_,_,_]) hbx6 1 _ rfl
 obtain ⟨y6, -⟩:=blk_cell (l:=[_,_,_,_,_,_,_]) hbx6 6 _ rfl
 have u1:=row_frozen hbx6 1
 have u6:=row_frozen hbx6 6
 have HX6:=hide hbx6
 clear hbx6
 go_upto_region 33 with fail
 have hbx7:((w6.setCell ⟨w1.heap.size,1,none⟩ (.int .i64 (((R.w k).place:Int)+1))).setCell ⟨w1.heap.size,6,none⟩ (.int .i64 (wrap64 ((R.w k).steps+1)))).heap[w1.heap.size]? = some (.cells #[.slice (some ⟨cb,co,none⟩) (codeOf N k).length cc,.int .i64 (((R.w k).place:Int)+1),.int .i64 (upd (R.w k).r ka v 0),.int .i64 (upd (R.w k).r ka v 1),.int .i64 (upd (R.w k).r ka v 2),.int .i64 (upd (R.w k).r ka v 3),.int .i64 (wrap64 ((R.w k).steps+1))] 92 (0,0)):=by
  have h1:=blk_set (w:=w6) HX6.out 1 (.int .i64 (((R.w k).place:Int)+1))
  have h2:=blk_set h1 6 (.int .i64 (wrap64 ((R.w k).steps+1)))
  exact h2
 have hfx:Fr (fun b=>b=w1.heap.size) w6 ((w6.setCell ⟨w1.heap.size,1,none⟩ (.int .i64 (((R.w k).place:Int)+1))).setCell ⟨w1.heap.size,6,none⟩ (.int .i64 (wrap64 ((R.w k).steps+1)))):=Fr.setCell (S:=fun b=>b=w1.heap.size) (Fr.setCell (S:=fun b=>b=w1.heap.size) (Fr.refl _ w6) (p:=⟨w1.heap.size,1,none⟩) (Or.inr rfl) _) (p:=⟨w1.heap.size,6,none⟩) (Or.inr rfl) _
 have HB7:Below w.heap.size w ((w6.setCell ⟨w1.heap.size,1,none⟩ (.int .i64 (((R.w k).place:Int)+1))).setCell ⟨w1.heap.size,6,none⟩ (.int .i64 (wrap64 ((R.w k).steps+1)))):=HB6.out.trans ⟨hfx.os,hfx.tape,hfx.output,hfx.size,fun b hb=>hfx.block b (Nat.lt_of_lt_of_le hb HB6.out.size) (fun e=>by have:=HSx.out;omega)⟩
 have hR7:=HH.out _ HB7
 have HEnd:=hide (HPut.out _ HB7)
 generalize (w6.setCell ⟨w1.heap.size,1,none⟩ (.int .i64 (((R.w k).place:Int)+1))).setCell ⟨w1.heap.size,6,none⟩ (.int .i64 (wrap64 ((R.w k).steps+1)))=w7 at *
 generalize w1.heap.size=xb at *
 clear hfx HX6 y1 y6 u1 u6 HB7
 obtain ⟨p1, -⟩:=blk_cell (l:=[_,_]) hR7.blk 1 _ rfl
 obtain ⟨y0, -⟩:=blk_cell (l:=[_,_,_,_,_,_,_]) hbx7 0 _ rfl
 obtain ⟨y1, -⟩:=blk_cell (l:=[_,_,_,_,_,_,_]) hbx7 1 _ rfl
 obtain ⟨y2, -⟩:=blk_cell (l:=[_,_,_,_,_,_,_]) hbx7 2 _ rfl
 obtain ⟨y3, -⟩:=blk_cell (l:=[_,_,_,_,_,_,_]) hbx7 3 _ rfl
 obtain ⟨y4, -⟩:=blk_cell (l:=[_,_,_,_,_,_,_]) hbx7 4 _ rfl
 obtain ⟨y5, -⟩:=blk_cell (l:=[_,_,_,_,_,_,_]) hbx7 5 _ rfl
 obtain ⟨y6, -⟩:=blk_cell (l:=[_,_,_,_,_,_,_]) hbx7 6 _ rfl
 have x0:w7.cell? ⟨L.gW,k*7,none⟩=some (L.VC k):=hR7.wc hk 0 _ (by decide) rfl
 have x1:=hR7.wc hk 1 _ (by decide) rfl
 have x2:=hR7.wc hk 2 _ (by decide) rfl
 have x3:=hR7.wc hk 3 _ (by decide) rfl
 have x4:=hR7.wc hk 4 _ (by decide) rfl
 have x5:=hR7.wc hk 5 _ (by decide) rfl
 have x6:=hR7.wc hk 6 _ (by decide) rfl
 obtain ⟨cs,hbW, -⟩:=hR7.rowW
 have f0:w7.frozen? ⟨L.gW,k*7,none⟩=false:=row_frozen hbW _
 have f1:=row_frozen hbW (k*7+1)
 have f2:=row_frozen hbW (k*7+2)
 have f3:=row_frozen hbW (k*7+3)
 have f4:=row_frozen hbW (k*7+4)
 have f5:=row_frozen hbW (k*7+5)
 have f6:=row_frozen hbW (k*7+6)
 have H7:=hide hR7
 clear hbW hR7 hbx7
 refine wp_region_still_tail 7 Tryz.mixed (by kernel_rfl) ?_
 simp only [List.take_succ_cons,List.take_zero,List.drop_succ_cons,List.drop_zero]
 iterate 7 still_step
 refine wpStill_nil ?_
 show wpList _ _ _ _ _ w7.drew
 go_wp2
 go_ret
 refine ⟨rfl,?_⟩
 have:=HEnd.out
 rw [HV.out] at this
 exact this
set_option maxRecDepth 100000 in
set_option maxHeartbeats 4000000 in
theorem refStep_alu5 {L:RLay} {w:World} {N:Net} {R:Rc} (h:RefAt L w N R) (k:Nat) (hk:k<N.workers.length) (hst:stateOf N R k=1) (hco:RCodes L w N) (ia ib ic:Int) (hi:(codeOf N k)[(R.w k).place]? = some ⟨5,ia,ib,ic⟩) :
  Calls Tryz.prog 61 #[.pointer (some ⟨L.p,0,none⟩),.int .i64 k] w fun e w'=>e=.returned (.int .i64 1)∧RStep L w N (doStep N R k) w':=by
 have hval:=valid_ins h.ok hk (List.mem_of_getElem? hi)
 have hrg:=valid_reg hval (by dsimp only;omega)
 have hal:=valid_alu hval (by dsimp only;omega)
 dsimp only at hrg hal
 obtain ⟨hr0,hr1⟩:=hrg
 obtain ⟨⟨hb0,hb1⟩,hc0,hc1⟩:=hal
 obtain ⟨ka,rfl⟩:=Int.eq_ofNat_of_zero_le hr0
 obtain ⟨kb,rfl⟩:=Int.eq_ofNat_of_zero_le hb0
 obtain ⟨kc,rfl⟩:=Int.eq_ofNat_of_zero_le hc0
 have hka:ka<4:=by omega
 have hkb:kb<4:=by omega
 have hkc:kc<4:=by omega
 obtain ⟨xb',hxb⟩:∃ xb',xb'=(R.w k).r kb:=⟨_,rfl⟩
 obtain ⟨xc',hxc⟩:∃ xc',xc'=(R.w k).r kc:=⟨_,rfl⟩
 obtain ⟨v,hv⟩:∃ v,v=alu 5 xb' xc':=⟨_,rfl⟩
 have HDo:Hid (doStep N R k=⟨R.W.set k ⟨(R.w k).place+1,upd (R.w k).r ka v,wrap64 ((R.w k).steps+1)⟩,R.S⟩):=by
  show doStep N R k=_
  unfold doStep insAt
  rw [hi,hv,hxb,hxc]
  simp [nextW,nextS]
 have HPut:Hid (∀ w5,Below w.heap.size w w5→RStep L w N (doStep N R k) (putW w5 L.gW k (L.VC k) ⟨(R.w k).place+1,upd (R.w k).r ka v,wrap64 ((R.w k).steps+1)⟩).drew):=fun w5 hb=>by
  rw [HDo.out]
  exact ((RStep.of_below h hb).put hco hk ⟨(R.w k).place+1,upd (R.w k).r ka v,wrap64 ((R.w k).steps+1)⟩ (by show (R.w k).place+1≤_;have:=(List.getElem?_eq_some_iff.1 hi).1;omega)).drew
 have hve:IntKind.i64.wrap (xb'-xc')=v:=by rw [hv,IntKind.wrap_i64];simp [alu,wrap64]
 clear HDo hco hval hr0 hr1 hb0 hc0 hv
 have HS:=hide (refState_calls h k hk)
 rw [hst] at HS
 have HH:Hid (∀ wx,Below w.heap.size w wx→RefAt L wx N R):=fun wx hx=>h.below hx
 clear h
 go_enter Tryz.func61,Tryz.ntmps61
 go_wp2_with fail
 refine (unhide HS).mono ?_
 rintro e w1 ⟨rfl,hb⟩
 have HR:=hide (HH.out w1 hb)
 have HB:=hide hb
 clear hb HS hst
 obtain ⟨p0, -⟩:=blk_cell (l:=[_,_]) HR.out.blk 0 _ rfl
 obtain ⟨p1, -⟩:=blk_cell (l:=[_,_]) HR.out.blk 1 _ rfl
 have x0:w1.cell? ⟨L.gW,k*7,none⟩=some (L.VC k):=HR.out.wc hk 0 _ (by decide) rfl
 have x1:=HR.out.wc hk 1 _ (by decide) rfl
 have x2:=HR.out.wc hk 2 _ (by decide) rfl
 have x3:=HR.out.wc hk 3 _ (by decide) rfl
 have x4:=HR.out.wc hk 4 _ (by decide) rfl
 have x5:=HR.out.wc hk 5 _ (by decide) rfl
 have x6:=HR.out.wc hk 6 _ (by decide) rfl
 obtain ⟨ca,cc,hvc,hc63,hccap,hcells⟩:=(HR.out.code k hk).openD
 have HV:=hide hvc
 rw [hvc] at x0
 have hpl:(R.w k).place<(codeOf N k).length:=(List.getElem?_eq_some_iff.1 hi).1
 have hgi:(codeOf N k).getD (R.w k).place ⟨0,0,0,0⟩=⟨5,ka,kb,kc⟩:=by rw [getD_eq _ _ _ hpl];exact (List.getElem?_eq_some_iff.1 hi).2
 obtain ⟨cb,co,rfl,hcb,hcell⟩:=hcells _ hpl
 obtain ⟨d0,d1,d2,d3⟩:=hcell w1 (Below.refl _ _)
 rw [hgi] at d0 d1 d2 d3
 dsimp only at d0 d1 d2 d3
 have hk0:(0:Int)≤(k:Int):=by omega
 have hk1:(k:Int)<(N.workers.length:Int):=by omega
 have hp0:(0:Int)≤((R.w k).place:Int):=by omega
 have hp1:((R.w k).place:Int)<((codeOf N k).length:Int):=by omega
 have z0:=lt_of_cell p0
 have z1:=lt_of_cell x0
 clear hcells hcell hgi hvc hi
 go_upto_region 21 with fail
 have hbx:((w1.alloc (.cells #[.slice (some ⟨cb,co,none⟩) (codeOf N k).length cc,.int .i64 ((R.w k).place:Int),.int .i64 ((R.w k).r 0),.int .i64 ((R.w k).r 1),.int .i64 ((R.w k).r 2),.int .i64 ((R.w k).r 3),.int .i64 ((R.w k).steps)] 92)).alloc (.cells #[.int .i64 5,.int .i64 ka,.int .i64 kb,.int .i64 kc] 44)).heap[w1.heap.size]? = some (.cells #[.slice (some ⟨cb,co,none⟩) (codeOf N k).length cc,.int .i64 ((R.w k).place:Int),.int .i64 ((R.w k).r 0),.int .i64 ((R.w k).r 1),.int .i64 ((R.w k).r 2),.int .i64 ((R.w k).r 3),.int .i64 ((R.w k).steps)] 92 (0,0)):=heapOld (by simp) (heapNew rfl)
 have hbi:((w1.alloc (.cells #[.slice (some ⟨cb,co,none⟩) (codeOf N k).length cc,.int .i64 ((R.w k).place:Int),.int .i64 ((R.w k).r 0),.int .i64 ((R.w k).r 1),.int .i64 ((R.w k).r 2),.int .i64 ((R.w k).r 3),.int .i64 ((R.w k).steps)] 92)).alloc (.cells #[.int .i64 5,.int .i64 ka,.int .i64 kb,.int .i64 kc] 44)).heap[w1.heap.size+1]? = some (.cells #[.int .i64 5,.int .i64 ka,.int .i64 kb,.int .i64 kc] 44 (0,0)):=heapNew (by simp)
 have hbl:Below w1.heap.size w1 ((w1.alloc (.cells #[.slice (some ⟨cb,co,none⟩) (codeOf N k).length cc,.int .i64 ((R.w k).place:Int),.int .i64 ((R.w k).r 0),.int .i64 ((R.w k).r 1),.int .i64 ((R.w k).r 2),.int .i64 ((R.w k).r 3),.int .i64 ((R.w k).steps)] 92)).alloc (.cells #[.int .i64 5,.int .i64 ka,.int .i64 kb,.int .i64 kc] 44)):=((Below.refl _ _).alloc (Nat.le_refl _) _).alloc (by simp) _
 generalize (w1.alloc (.cells #[.slice (some ⟨cb,co,none⟩) (codeOf N k).length cc,.int .i64 ((R.w k).place:Int),.int .i64 ((R.w k).r 0),.int .i64 ((R.w k).r 1),.int .i64 ((R.w k).r 2),.int .i64 ((R.w k).r 3),.int .i64 ((R.w k).steps)] 92)).alloc (.cells #[.int .i64 5,.int .i64 ka,.int .i64 kb,.int .i64 kc] 44)=w4 at *
 have HSx:Hid (w.heap.size≤w1.heap.size):=HB.out.size
 have HLx:=hide hbl
 clear hbl p0 p1 x0 x1 x2 x3 x4 x5 x6 d0 d1 d2 d3 z0 z1
 obtain ⟨i0, -⟩:=blk_cell (l:=[_,_,_,_]) hbi 0 _ rfl
 obtain ⟨i1, -⟩:=blk_cell (l:=[_,_,_,_]) hbi 1 _ rfl
 obtain ⟨i2, -⟩:=blk_cell (l:=[_,_,_,_]) hbi 2 _ rfl
 obtain ⟨i3, -⟩:=blk_cell (l:=[_,_,_,_]) hbi 3 _ rfl
 have hre:∀ j,j<4→w4.cell? ⟨w1.heap.size,2+j,none⟩=some (.int .i64 ((R.w k).r j)):=fun j hj=>by
  rcases (show j=0∨j=1∨j=2∨j=3 by omega) with rfl | rfl | rfl | rfl
  ·exact row_cell hbx rfl
  ·exact row_cell hbx rfl
  ·exact row_cell hbx rfl
  ·exact row_cell hbx rfl
 have ya:=hre ka hka
 have yb:=hre kb hkb
 have yc:=hre kc hkc
 rw [← hxb] at yb
 rw [← hxc] at yc
 clear hxb hxc
 have fa:=row_frozen hbx (2+ka)
 have HBx:=hide hbx
 have ka0:(0:Int)≤(ka:Int):=by omega
 have ka1:(ka:Int)<4:=by omega
 have kb0:(0:Int)≤(kb:Int):=by omega
 have kb1:(kb:Int)<4:=by omega
 have kc0:(0:Int)≤(kc:Int):=by omega
 have kc1:(kc:Int)<4:=by omega
 clear hre hbx hbi
 refine wp_region_still_tail 15 Tryz.mixed (by kernel_rfl) ?_
 simp only [List.take_succ_cons,List.take_zero,List.drop_succ_cons,List.drop_zero]
 iterate 15 still_step
 refine wpStill_nil ?_
 show wpList _ _ _ _ _ w4.drew
 go_upto_region 31 with fail
 have hbx6:((w4.setCell ⟨w1.heap.size,2+ka,none⟩ (.int .i64 v)).drew).heap[w1.heap.size]? = some (.cells #[.slice (some ⟨cb,co,none⟩) (codeOf N k).length cc,.int .i64 ((R.w k).place:Int),.int .i64 (upd (R.w k).r ka v 0),.int .i64 (upd (R.w k).r ka v 1),.int .i64 (upd (R.w k).r ka v 2),.int .i64 (upd (R.w k).r ka v 3),.int .i64 ((R.w k).steps)] 92 (0,0)):=by
  have h1:=blk_set (w:=w4) HBx.out (2+ka) (.int .i64 v)
  refine h1.trans ?_
  congr 2
  rcases (show ka=0∨ka=1∨ka=2∨ka=3 by omega) with rfl | rfl | rfl | rfl<;>simp [upd]
 have hfx:Fr (fun b=>b=w1.heap.size) w4 ((w4.setCell ⟨w1.heap.size,2+ka,none⟩ (.int .i64 v)).drew):=(Fr.setCell (S:=fun b=>b=w1.heap.size) (Fr.refl _ w4) (p:=⟨w1.heap.size,2+ka,none⟩) (Or.inr rfl) _).drewN 1
 have HB6:Hid (Below w.heap.size w ((w4.setCell ⟨w1.heap.size,2+ka,none⟩ (.int .i64 v)).drew)):=(HB.out.trans (HLx.out.mono HSx.out)).trans ⟨hfx.os,hfx.tape,hfx.output,hfx.size,fun b hb=>hfx.block b (Nat.lt_of_lt_of_le hb (HB.out.trans (HLx.out.mono HSx.out)).size) (fun e=>by have:=HSx.out;omega)⟩
 generalize (w4.setCell ⟨w1.heap.size,2+ka,none⟩ (.int .i64 v)).drew=w6 at *
 clear hfx i0 i1 i2 i3 ya yb yc fa HBx
 obtain ⟨y1, -⟩:=blk_cell (l:=[_,_,_,_,_,_,_]) hbx6 1 _ rfl
 obtain ⟨y6, -⟩:=blk_cell (l:=[_,_,_,_,_,_,_]) hbx6 6 _ rfl
 have u1:=row_frozen hbx6 1
 have u6:=row_frozen hbx6 6
 have HX6:=hide hbx6
 clear hbx6
 go_upto_region 33 with fail
 have hbx7:((w6.setCell ⟨w1.heap.size,1,none⟩ (.int .i64 (((R.w k).place:Int)+1))).setCell ⟨w1.heap.size,6,none⟩ (.int .i64 (wrap64 ((R.w k).steps+1)))).heap[w1.heap.size]? = some (.cells #[.slice (some ⟨cb,co,none⟩) (codeOf N k).length cc,.int .i64 (((R.w k).place:Int)+1),.int .i64 (upd (R.w k).r ka v 0),.int .i64 (upd (R.w k).r ka v 1),.int .i64 (upd (R.w k).r ka v 2),.int .i64 (upd (R.w k).r ka v 3),.int .i64 (wrap64 ((R.w k).steps+1))] 92 (0,0)):=by
  have h1:=blk_set (w:=w6) HX6.out 1 (.int .i64 (((R.w k).place:Int)+1))
  have h2:=blk_set h1 6 (.int .i64 (wrap64 ((R.w k).steps+1)))
  exact h2
 have hfx:Fr (fun b=>b=w1.heap.size) w6 ((w6.setCell ⟨w1.heap.size,1,none⟩ (.int .i64 (((R.w k).place:Int)+1))).setCell ⟨w1.heap.size,6,none⟩ (.int .i64 (wrap64 ((R.w k).steps+1)))):=Fr.setCell (S:=fun b=>b=w1.heap.size) (Fr.setCell (S:=fun b=>b=w1.heap.size) (Fr.refl _ w6) (p:=⟨w1.heap.size,1,none⟩) (Or.inr rfl) _) (p:=⟨w1.heap.size,6,none⟩) (Or.inr rfl) _
 have HB7:Below w.heap.size w ((w6.setCell ⟨w1.heap.size,1,none⟩ (.int .i64 (((R.w k).place:Int)+1))).setCell ⟨w1.heap.size,6,none⟩ (.int .i64 (wrap64 ((R.w k).steps+1)))):=HB6.out.trans ⟨hfx.os,hfx.tape,hfx.output,hfx.size,fun b hb=>hfx.block b (Nat.lt_of_lt_of_le hb HB6.out.size) (fun e=>by have:=HSx.out;omega)⟩
 have hR7:=HH.out _ HB7
 have HEnd:=hide (HPut.out _ HB7)
 generalize (w6.setCell ⟨w1.heap.size,1,none⟩ (.int .i64 (((R.w k).place:Int)+1))).setCell ⟨w1.heap.size,6,none⟩ (.int .i64 (wrap64 ((R.w k).steps+1)))=w7 at *
 generalize w1.heap.size=xb at *
 clear hfx HX6 y1 y6 u1 u6 HB7
 obtain ⟨p1, -⟩:=blk_cell (l:=[_,_]) hR7.blk 1 _ rfl
 obtain ⟨y0, -⟩:=blk_cell (l:=[_,_,_,_,_,_,_]) hbx7 0 _ rfl
 obtain ⟨y1, -⟩:=blk_cell (l:=[_,_,_,_,_,_,_]) hbx7 1 _ rfl
 obtain ⟨y2, -⟩:=blk_cell (l:=[_,_,_,_,_,_,_]) hbx7 2 _ rfl
 obtain ⟨y3, -⟩:=blk_cell (l:=[_,_,_,_,_,_,_]) hbx7 3 _ rfl
 obtain ⟨y4, -⟩:=blk_cell (l:=[_,_,_,_,_,_,_]) hbx7 4 _ rfl
 obtain ⟨y5, -⟩:=blk_cell (l:=[_,_,_,_,_,_,_]) hbx7 5 _ rfl
 obtain ⟨y6, -⟩:=blk_cell (l:=[_,_,_,_,_,_,_]) hbx7 6 _ rfl
 have x0:w7.cell? ⟨L.gW,k*7,none⟩=some (L.VC k):=hR7.wc hk 0 _ (by decide) rfl
 have x1:=hR7.wc hk 1 _ (by decide) rfl
 have x2:=hR7.wc hk 2 _ (by decide) rfl
 have x3:=hR7.wc hk 3 _ (by decide) rfl
 have x4:=hR7.wc hk 4 _ (by decide) rfl
 have x5:=hR7.wc hk 5 _ (by decide) rfl
 have x6:=hR7.wc hk 6 _ (by decide) rfl
 obtain ⟨cs,hbW, -⟩:=hR7.rowW
 have f0:w7.frozen? ⟨L.gW,k*7,none⟩=false:=row_frozen hbW _
 have f1:=row_frozen hbW (k*7+1)
 have f2:=row_frozen hbW (k*7+2)
 have f3:=row_frozen hbW (k*7+3)
 have f4:=row_frozen hbW (k*7+4)
 have f5:=row_frozen hbW (k*7+5)
 have f6:=row_frozen hbW (k*7+6)
 have H7:=hide hR7
 clear hbW hR7 hbx7
 refine wp_region_still_tail 7 Tryz.mixed (by kernel_rfl) ?_
 simp only [List.take_succ_cons,List.take_zero,List.drop_succ_cons,List.drop_zero]
 iterate 7 still_step
 refine wpStill_nil ?_
 show wpList _ _ _ _ _ w7.drew
 go_wp2
 go_ret
 refine ⟨rfl,?_⟩
 have:=HEnd.out
 rw [HV.out] at this
 exact this
set_option maxRecDepth 100000 in
set_option maxHeartbeats 4000000 in
theorem refStep_alu6 {L:RLay} {w:World} {N:Net} {R:Rc} (h:RefAt L w N R) (k:Nat) (hk:k<N.workers.length) (hst:stateOf N R k=1) (hco:RCodes L w N) (ia ib ic:Int) (hi:(codeOf N k)[(R.w k).place]? = some ⟨6,ia,ib,ic⟩) :
  Calls Tryz.prog 61 #[.pointer (some ⟨L.p,0,none⟩),.int .i64 k] w fun e w'=>e=.returned (.int .i64 1)∧RStep L w N (doStep N R k) w':=by
 have hval:=valid_ins h.ok hk (List.mem_of_getElem? hi)
 have hrg:=valid_reg hval (by dsimp only;omega)
 have hal:=valid_alu hval (by dsimp only;omega)
 dsimp only at hrg hal
 obtain ⟨hr0,hr1⟩:=hrg
 obtain ⟨⟨hb0,hb1⟩,hc0,hc1⟩:=hal
 obtain ⟨ka,rfl⟩:=Int.eq_ofNat_of_zero_le hr0
 obtain ⟨kb,rfl⟩:=Int.eq_ofNat_of_zero_le hb0
 obtain ⟨kc,rfl⟩:=Int.eq_ofNat_of_zero_le hc0
 have hka:ka<4:=by omega
 have hkb:kb<4:=by omega
 have hkc:kc<4:=by omega
 obtain ⟨xb',hxb⟩:∃ xb',xb'=(R.w k).r kb:=⟨_,rfl⟩
 obtain ⟨xc',hxc⟩:∃ xc',xc'=(R.w k).r kc:=⟨_,rfl⟩
 obtain ⟨v,hv⟩:∃ v,v=alu 6 xb' xc':=⟨_,rfl⟩
 have HDo:Hid (doStep N R k=⟨R.W.set k ⟨(R.w k).place+1,upd (R.w k).r ka v,wrap64 ((R.w k).steps+1)⟩,R.S⟩):=by
  show doStep N R k=_
  unfold doStep insAt
  rw [hi,hv,hxb,hxc]
  simp [nextW,nextS]
 have HPut:Hid (∀ w5,Below w.heap.size w w5→RStep L w N (doStep N R k) (putW w5 L.gW k (L.VC k) ⟨(R.w k).place+1,upd (R.w k).r ka v,wrap64 ((R.w k).steps+1)⟩).drew):=fun w5 hb=>by
  rw [HDo.out]
  exact ((RStep.of_below h hb).put hco hk ⟨(R.w k).place+1,upd (R.w k).r ka v,wrap64 ((R.w k).steps+1)⟩ (by show (R.w k).place+1≤_;have:=(List.getElem?_eq_some_iff.1 hi).1;omega)).drew
 have hve:IntKind.i64.wrap (xb'*xc')=v:=by rw [hv,IntKind.wrap_i64];simp [alu,wrap64]
 clear HDo hco hval hr0 hr1 hb0 hc0 hv
 have HS:=hide (refState_calls h k hk)
 rw [hst] at HS
 have HH:Hid (∀ wx,Below w.heap.size w wx→RefAt L wx N R):=fun wx hx=>h.below hx
 clear h
 go_enter Tryz.func61,Tryz.ntmps61
 go_wp2_with fail
 refine (unhide HS).mono ?_
 rintro e w1 ⟨rfl,hb⟩
 have HR:=hide (HH.out w1 hb)
 have HB:=hide hb
 clear hb HS hst
 obtain ⟨p0, -⟩:=blk_cell (l:=[_,_]) HR.out.blk 0 _ rfl
 obtain ⟨p1, -⟩:=blk_cell (l:=[_,_]) HR.out.blk 1 _ rfl
 have x0:w1.cell? ⟨L.gW,k*7,none⟩=some (L.VC k):=HR.out.wc hk 0 _ (by decide) rfl
 have x1:=HR.out.wc hk 1 _ (by decide) rfl
 have x2:=HR.out.wc hk 2 _ (by decide) rfl
 have x3:=HR.out.wc hk 3 _ (by decide) rfl
 have x4:=HR.out.wc hk 4 _ (by decide) rfl
 have x5:=HR.out.wc hk 5 _ (by decide) rfl
 have x6:=HR.out.wc hk 6 _ (by decide) rfl
 obtain ⟨ca,cc,hvc,hc63,hccap,hcells⟩:=(HR.out.code k hk).openD
 have HV:=hide hvc
 rw [hvc] at x0
 have hpl:(R.w k).place<(codeOf N k).length:=(List.getElem?_eq_some_iff.1 hi).1
 have hgi:(codeOf N k).getD (R.w k).place ⟨0,0,0,0⟩=⟨6,ka,kb,kc⟩:=by rw [getD_eq _ _ _ hpl];exact (List.getElem?_eq_some_iff.1 hi).2
 obtain ⟨cb,co,rfl,hcb,hcell⟩:=hcells _ hpl
 obtain ⟨d0,d1,d2,d3⟩:=hcell w1 (Below.refl _ _)
 rw [hgi] at d0 d1 d2 d3
 dsimp only at d0 d1 d2 d3
 have hk0:(0:Int)≤(k:Int):=by omega
 have hk1:(k:Int)<(N.workers.length:Int):=by omega
 have hp0:(0:Int)≤((R.w k).place:Int):=by omega
 have hp1:((R.w k).place:Int)<((codeOf N k).length:Int):=by omega
 have z0:=lt_of_cell p0
 have z1:=lt_of_cell x0
 clear hcells hcell hgi hvc hi
 go_upto_region 23 with fail
 have hbx:((w1.alloc (.cells #[.slice (some ⟨cb,co,none⟩) (codeOf N k).length cc,.int .i64 ((R.w k).place:Int),.int .i64 ((R.w k).r 0),.int .i64 ((R.w k).r 1),.int .i64 ((R.w k).r 2),.int .i64 ((R.w k).r 3),.int .i64 ((R.w k).steps)] 92)).alloc (.cells #[.int .i64 6,.int .i64 ka,.int .i64 kb,.int .i64 kc] 44)).heap[w1.heap.size]? = some (.cells #[.slice (some ⟨cb,co,none⟩) (codeOf N k).length cc,.int .i64 ((R.w k).place:Int),.int .i64 ((R.w k).r 0),.int .i64 ((R.w k).r 1),.int .i64 ((R.w k).r 2),.int .i64 ((R.w k).r 3),.int .i64 ((R.w k).steps)] 92 (0,0)):=heapOld (by simp) (heapNew rfl)
 have hbi:((w1.alloc (.cells #[.slice (some ⟨cb,co,none⟩) (codeOf N k).length cc,.int .i64 ((R.w k).place:Int),.int .i64 ((R.w k).r 0),.int .i64 ((R.w k).r 1),.int .i64 ((R.w k).r 2),.int .i64 ((R.w k).r 3),.int .i64 ((R.w k).steps)] 92)).alloc (.cells #[.int .i64 6,.int .i64 ka,.int .i64 kb,.int .i64 kc] 44)).heap[w1.heap.size+1]? = some (.cells #[.int .i64 6,.int .i64 ka,.int .i64 kb,.int .i64 kc] 44 (0,0)):=heapNew (by simp)
 have hbl:Below w1.heap.size w1 ((w1.alloc (.cells #[.slice (some ⟨cb,co,none⟩) (codeOf N k).length cc,.int .i64 ((R.w k).place:Int),.int .i64 ((R.w k).r 0),.int .i64 ((R.w k).r 1),.int .i64 ((R.w k).r 2),.int .i64 ((R.w k).r 3),.int .i64 ((R.w k).steps)] 92)).alloc (.cells #[.int .i64 6,.int .i64 ka,.int .i64 kb,.int .i64 kc] 44)):=((Below.refl _ _).alloc (Nat.le_refl _) _).alloc (by simp) _
 generalize (w1.alloc (.cells #[.slice (some ⟨cb,co,none⟩) (codeOf N k).length cc,.int .i64 ((R.w k).place:Int),.int .i64 ((R.w k).r 0),.int .i64 ((R.w k).r 1),.int .i64 ((R.w k).r 2),.int .i64 ((R.w k).r 3),.int .i64 ((R.w k).steps)] 92)).alloc (.cells #[.int .i64 6,.int .i64 ka,.int .i64 kb,.int .i64 kc] 44)=w4 at *
 have HSx:Hid (w.heap.size≤w1.heap.size):=HB.out.size
 have HLx:=hide hbl
 clear hbl p0 p1 x0 x1 x2 x3 x4 x5 x6 d0 d1 d2 d3 z0 z1
 obtain ⟨i0, -⟩:=blk_cell (l:=[_,_,_,_]) hbi 0 _ rfl
 obtain ⟨i1, -⟩:=blk_cell (l:=[_,_,_,_]) hbi 1 _ rfl
 obtain ⟨i2, -⟩:=blk_cell (l:=[_,_,_,_]) hbi 2 _ rfl
 obtain ⟨i3, -⟩:=blk_cell (l:=[_,_,_,_]) hbi 3 _ rfl
 have hre:∀ j,j<4→w4.cell? ⟨w1.heap.size,2+j,none⟩=some (.int .i64 ((R.w k).r j)):=fun j hj=>by
  rcases (show j=0∨j=1∨j=2∨j=3 by omega) with rfl | rfl | rfl | rfl
  ·exact row_cell hbx rfl
  ·exact row_cell hbx rfl
  ·exact row_cell hbx rfl
  ·exact row_cell hbx rfl
 have ya:=hre ka hka
 have yb:=hre kb hkb
 have yc:=hre kc hkc
 rw [← hxb] at yb
 rw [← hxc] at yc
 clear hxb hxc
 have fa:=row_frozen hbx (2+ka)
 have HBx:=hide hbx
 have ka0:(0:Int)≤(ka:Int):=by omega
 have ka1:(ka:Int)<4:=by omega
 have kb0:(0:Int)≤(kb:Int):=by omega
 have kb1:(kb:Int)<4:=by omega
 have kc0:(0:Int)≤(kc:Int):=by omega
 have kc1:(kc:Int)<4:=by omega
 clear hre hbx hbi
 refine wp_region_still_tail 15 Tryz.mixed (by kernel_rfl) ?_
 simp only [List.take_succ_cons,List.take_zero,List.drop_succ_cons,List.drop_zero]
 iterate 15 still_step
 refine wpStill_nil ?_
 show wpList _ _ _ _ _ w4.drew
 go_upto_region 31 with fail
 have hbx6:((w4.setCell ⟨w1.heap.size,2+ka,none⟩ (.int .i64 v)).drew).heap[w1.heap.size]? = some (.cells #[.slice (some ⟨cb,co,none⟩) (codeOf N k).length cc,.int .i64 ((R.w k).place:Int),.int .i64 (upd (R.w k).r ka v 0),.int .i64 (upd (R.w k).r ka v 1),.int .i64 (upd (R.w k).r ka v 2),.int .i64 (upd (R.w k).r ka v 3),.int .i64 ((R.w k).steps)] 92 (0,0)):=by
  have h1:=blk_set (w:=w4) HBx.out (2+ka) (.int .i64 v)
  refine h1.trans ?_
  congr 2
  rcases (show ka=0∨ka=1∨ka=2∨ka=3 by omega) with rfl | rfl | rfl | rfl<;>simp [upd]
 have hfx:Fr (fun b=>b=w1.heap.size) w4 ((w4.setCell ⟨w1.heap.size,2+ka,none⟩ (.int .i64 v)).drew):=(Fr.setCell (S:=fun b=>b=w1.heap.size) (Fr.refl _ w4) (p:=⟨w1.heap.size,2+ka,none⟩) (Or.inr rfl) _).drewN 1
 have HB6:Hid (Below w.heap.size w ((w4.setCell ⟨w1.heap.size,2+ka,none⟩ (.int .i64 v)).drew)):=(HB.out.trans (HLx.out.mono HSx.out)).trans ⟨hfx.os,hfx.tape,hfx.output,hfx.size,fun b hb=>hfx.block b (Nat.lt_of_lt_of_le hb (HB.out.trans (HLx.out.mono HSx.out)).size) (fun e=>by have:=HSx.out;omega)⟩
 generalize (w4.setCell ⟨w1.heap.size,2+ka,none⟩ (.int .i64 v)).drew=w6 at *
 clear hfx i0 i1 i2 i3 ya yb yc fa HBx
 obtain ⟨y1, -⟩:=blk_cell (l:=[_,_,_,_,_,_,_]) hbx6 1 _ rfl
 obtain ⟨y6, -⟩:=blk_cell (l:=[_,_,_,_,_,_,_]) hbx6 6 _ rfl
 have u1:=row_frozen hbx6 1
 have u6:=row_frozen hbx6 6
 have HX6:=hide hbx6
 clear hbx6
 go_upto_region 33 with fail
 have hbx7:((w6.setCell ⟨w1.heap.size,1,none⟩ (.int .i64 (((R.w k).place:Int)+1))).setCell ⟨w1.heap.size,6,none⟩ (.int .i64 (wrap64 ((R.w k).steps+1)))).heap[w1.heap.size]? = some (.cells #[.slice (some ⟨cb,co,none⟩) (codeOf N k).length cc,.int .i64 (((R.w k).place:Int)+1),.int .i64 (upd (R.w k).r ka v 0),.int .i64 (upd (R.w k).r ka v 1),.int .i64 (upd (R.w k).r ka v 2),.int .i64 (upd (R.w k).r ka v 3),.int .i64 (wrap64 ((R.w k).steps+1))] 92 (0,0)):=by
  have h1:=blk_set (w:=w6) HX6.out 1 (.int .i64 (((R.w k).place:Int)+1))
  have h2:=blk_set h1 6 (.int .i64 (wrap64 ((R.w k).steps+1)))
  exact h2
 have hfx:Fr (fun b=>b=w1.heap.size) w6 ((w6.setCell ⟨w1.heap.size,1,none⟩ (.int .i64 (((R.w k).place:Int)+1))).setCell ⟨w1.heap.size,6,none⟩ (.int .i64 (wrap64 ((R.w k).steps+1)))):=Fr.setCell (S:=fun b=>b=w1.heap.size) (Fr.setCell (S:=fun b=>b=w1.heap.size) (Fr.refl _ w6) (p:=⟨w1.heap.size,1,none⟩) (Or.inr rfl) _) (p:=⟨w1.heap.size,6,none⟩) (Or.inr rfl) _
 have HB7:Below w.heap.size w ((w6.setCell ⟨w1.heap.size,1,none⟩ (.int .i64 (((R.w k).place:Int)+1))).setCell ⟨w1.heap.size,6,none⟩ (.int .i64 (wrap64 ((R.w k).steps+1)))):=HB6.out.trans ⟨hfx.os,hfx.tape,hfx.output,hfx.size,fun b hb=>hfx.block b (Nat.lt_of_lt_of_le hb HB6.out.size) (fun e=>by have:=HSx.out;omega)⟩
 have hR7:=HH.out _ HB7
 have HEnd:=hide (HPut.out _ HB7)
 generalize (w6.setCell ⟨w1.heap.size,1,none⟩ (.int .i64 (((R.w k).place:Int)+1))).setCell ⟨w1.heap.size,6,none⟩ (.int .i64 (wrap64 ((R.w k).steps+1)))=w7 at *
 generalize w1.heap.size=xb at *
 clear hfx HX6 y1 y6 u1 u6 HB7
 obtain ⟨p1, -⟩:=blk_cell (l:=[_,_]) hR7.blk 1 _ rfl
 obtain ⟨y0, -⟩:=blk_cell (l:=[_,_,_,_,_,_,_]) hbx7 0 _ rfl
 obtain ⟨y1, -⟩:=blk_cell (l:=[_,_,_,_,_,_,_]) hbx7 1 _ rfl
 obtain ⟨y2, -⟩:=blk_cell (l:=[_,_,_,_,_,_,_]) hbx7 2 _ rfl
 obtain ⟨y3, -⟩:=blk_cell (l:=[_,_,_,_,_,_,_]) hbx7 3 _ rfl
 obtain ⟨y4, -⟩:=blk_cell (l:=[_,_,_,_,_,_,_]) hbx7 4 _ rfl
 obtain ⟨y5, -⟩:=blk_cell (l:=[_,_,_,_,_,_,_]) hbx7 5 _ rfl
 obtain ⟨y6, -⟩:=blk_cell (l:=[_,_,_,_,_,_,_]) hbx7 6 _ rfl
 have x0:w7.cell? ⟨L.gW,k*7,none⟩=some (L.VC k):=hR7.wc hk 0 _ (by decide) rfl
 have x1:=hR7.wc hk 1 _ (by decide) rfl
 have x2:=hR7.wc hk 2 _ (by decide) rfl
 have x3:=hR7.wc hk 3 _ (by decide) rfl
 have x4:=hR7.wc hk 4 _ (by decide) rfl
 have x5:=hR7.wc hk 5 _ (by decide) rfl
 have x6:=hR7.wc hk 6 _ (by decide) rfl
 obtain ⟨cs,hbW, -⟩:=hR7.rowW
 have f0:w7.frozen? ⟨L.gW,k*7,none⟩=false:=row_frozen hbW _
 have f1:=row_frozen hbW (k*7+1)
 have f2:=row_frozen hbW (k*7+2)
 have f3:=row_frozen hbW (k*7+3)
 have f4:=row_frozen hbW (k*7+4)
 have f5:=row_frozen hbW (k*7+5)
 have f6:=row_frozen hbW (k*7+6)
 have H7:=hide hR7
 clear hbW hR7 hbx7
 refine wp_region_still_tail 7 Tryz.mixed (by kernel_rfl) ?_
 simp only [List.take_succ_cons,List.take_zero,List.drop_succ_cons,List.drop_zero]
 iterate 7 still_step
 refine wpStill_nil ?_
 show wpList _ _ _ _ _ w7.drew
 go_wp2
 go_ret
 refine ⟨rfl,?_⟩
 have:=HEnd.out
 rw [HV.out] at this
 exact this
set_option maxRecDepth 100000 in
set_option maxHeartbeats 4000000 in
theorem refStep_alu7 {L:RLay} {w:World} {N:Net} {R:Rc} (h:RefAt L w N R) (k:Nat) (hk:k<N.workers.length) (hst:stateOf N R k=1) (hco:RCodes L w N) (ia ib ic:Int) (hi:(codeOf N k)[(R.w k).place]? = some ⟨7,ia,ib,ic⟩) :
  Calls Tryz.prog 61 #[.pointer (some ⟨L.p,0,none⟩),.int .i64 k] w fun e w'=>e=.returned (.int .i64 1)∧RStep L w N (doStep N R k) w':=by
 have hval:=valid_ins h.ok hk (List.mem_of_getElem? hi)
 have hrg:=valid_reg hval (by dsimp only;omega)
 have hal:=valid_alu hval (by dsimp only;omega)
 dsimp only at hrg hal
 obtain ⟨hr0,hr1⟩:=hrg
 obtain ⟨⟨hb0,hb1⟩,hc0,hc1⟩:=hal
 obtain ⟨ka,rfl⟩:=Int.eq_ofNat_of_zero_le hr0
 obtain ⟨kb,rfl⟩:=Int.eq_ofNat_of_zero_le hb0
 obtain ⟨kc,rfl⟩:=Int.eq_ofNat_of_zero_le hc0
 have hka:ka<4:=by omega
 have hkb:kb<4:=by omega
 have hkc:kc<4:=by omega
 obtain ⟨xb',hxb⟩:∃ xb',xb'=(R.w k).r kb:=⟨_,rfl⟩
 obtain ⟨xc',hxc⟩:∃ xc',xc'=(R.w k).r kc:=⟨_,rfl⟩
 obtain ⟨v,hv⟩:∃ v,v=alu 7 xb' xc':=⟨_,rfl⟩
 have HDo:Hid (doStep N R k=⟨R.W.set k ⟨(R.w k).place+1,upd (R.w k).r ka v,wrap64 ((R.w k).steps+1)⟩,R.S⟩):=by
  show doStep N R k=_
  unfold doStep insAt
  rw [hi,hv,hxb,hxc]
  simp [nextW,nextS]
 have HPut:Hid (∀ w5,Below w.heap.size w w5→RStep L w N (doStep N R k) (putW w5 L.gW k (L.VC k) ⟨(R.w k).place+1,upd (R.w k).r ka v,wrap64 ((R.w k).steps+1)⟩).drew):=fun w5 hb=>by
  rw [HDo.out]
  exact ((RStep.of_below h hb).put hco hk ⟨(R.w k).place+1,upd (R.w k).r ka v,wrap64 ((R.w k).steps+1)⟩ (by show (R.w k).place+1≤_;have:=(List.getElem?_eq_some_iff.1 hi).1;omega)).drew
 have HLs:Hid (∀ wx:World,Calls Tryz.prog 84 #[.int .i64 xb',.int .i64 xc'] wx fun e w'=>e=.returned (.int .i64 v)∧w'=wx):=fun wx=>by rw [hv];exact refLess_calls xb' xc' wx
 clear HDo hco hval hr0 hr1 hb0 hc0 hv
 have HS:=hide (refState_calls h k hk)
 rw [hst] at HS
 have HH:Hid (∀ wx,Below w.heap.size w wx→RefAt L wx N R):=fun wx hx=>h.below hx
 clear h
 go_enter Tryz.func61,Tryz.ntmps61
 go_wp2_with fail
 refine (unhide HS).mono ?_
 rintro e w1 ⟨rfl,hb⟩
 have HR:=hide (HH.out w1 hb)
 have HB:=hide hb
 clear hb HS hst
 obtain ⟨p0, -⟩:=blk_cell (l:=[_,_]) HR.out.blk 0 _ rfl
 obtain ⟨p1, -⟩:=blk_cell (l:=[_,_]) HR.out.blk 1 _ rfl
 have x0:w1.cell? ⟨L.gW,k*7,none⟩=some (L.VC k):=HR.out.wc hk 0 _ (by decide) rfl
 have x1:=HR.out.wc hk 1 _ (by decide) rfl
 have x2:=HR.out.wc hk 2 _ (by decide) rfl
 have x3:=HR.out.wc hk 3 _ (by decide) rfl
 have x4:=HR.out.wc hk 4 _ (by decide) rfl
 have x5:=HR.out.wc hk 5 _ (by decide) rfl
 have x6:=HR.out.wc hk 6 _ (by decide) rfl
 obtain ⟨ca,cc,hvc,hc63,hccap,hcells⟩:=(HR.out.code k hk).openD
 have HV:=hide hvc
 rw [hvc] at x0
 have hpl:(R.w k).place<(codeOf N k).length:=(List.getElem?_eq_some_iff.1 hi).1
 have hgi:(codeOf N k).getD (R.w k).place ⟨0,0,0,0⟩=⟨7,ka,kb,kc⟩:=by rw [getD_eq _ _ _ hpl];exact (List.getElem?_eq_some_iff.1 hi).2
 obtain ⟨cb,co,rfl,hcb,hcell⟩:=hcells _ hpl
 obtain ⟨d0,d1,d2,d3⟩:=hcell w1 (Below.refl _ _)
 rw [hgi] at d0 d1 d2 d3
 dsimp only at d0 d1 d2 d3
 have hk0:(0:Int)≤(k:Int):=by omega
 have hk1:(k:Int)<(N.workers.length:Int):=by omega
 have hp0:(0:Int)≤((R.w k).place:Int):=by omega
 have hp1:((R.w k).place:Int)<((codeOf N k).length:Int):=by omega
 have z0:=lt_of_cell p0
 have z1:=lt_of_cell x0
 clear hcells hcell hgi hvc hi
 go_upto_region 25 with fail
 have hbx:((w1.alloc (.cells #[.slice (some ⟨cb,co,none⟩) (codeOf N k).length cc,.int .i64 ((R.w k).place:Int),.int .i64 ((R.w k).r 0),.int .i64 ((R.w k).r 1),.int .i64 ((R.w k).r 2),.int .i64 ((R.w k).r 3),.int .i64 ((R.w k).steps)] 92)).alloc (.cells #[.int .i64 7,.int .i64 ka,.int .i64 kb,.int .i64 kc] 44)).heap[w1.heap.size]? = some (.cells #[.slice (some ⟨cb,co,none⟩) (codeOf N k).length cc,.int .i64 ((R.w k).place:Int),.int .i64 ((R.w k).r 0),.int .i64 ((R.w k).r 1),.int .i64 ((R.w k).r 2),.int .i64 ((R.w k).r 3),.int .i64 ((R.w k).steps)] 92 (0,0)):=heapOld (by simp) (heapNew rfl)
 have hbi:((w1.alloc (.cells #[.slice (some ⟨cb,co,none⟩) (codeOf N k).length cc,.int .i64 ((R.w k).place:Int),.int .i64 ((R.w k).r 0),.int .i64 ((R.w k).r 1),.int .i64 ((R.w k).r 2),.int .i64 ((R.w k).r 3),.int .i64 ((R.w k).steps)] 92)).alloc (.cells #[.int .i64 7,.int .i64 ka,.int .i64 kb,.int .i64 kc] 44)).heap[w1.heap.size+1]? = some (.cells #[.int .i64 7,.int .i64 ka,.int .i64 kb,.int .i64 kc] 44 (0,0)):=heapNew (by simp)
 have hbl:Below w1.heap.size w1 ((w1.alloc (.cells #[.slice (some ⟨cb,co,none⟩) (codeOf N k).length cc,.int .i64 ((R.w k).place:Int),.int .i64 ((R.w k).r 0),.int .i64 ((R.w k).r 1),.int .i64 ((R.w k).r 2),.int .i64 ((R.w k).r 3),.int .i64 ((R.w k).steps)] 92)).alloc (.cells #[.int .i64 7,.int .i64 ka,.int .i64 kb,.int .i64 kc] 44)):=((Below.refl _ _).alloc (Nat.le_refl _) _).alloc (by simp) _
 generalize (w1.alloc (.cells #[.slice (some ⟨cb,co,none⟩) (codeOf N k).length cc,.int .i64 ((R.w k).place:Int),.int .i64 ((R.w k).r 0),.int .i64 ((R.w k).r 1),.int .i64 ((R.w k).r 2),.int .i64 ((R.w k).r 3),.int .i64 ((R.w k).steps)] 92)).alloc (.cells #[.int .i64 7,.int .i64 ka,.int .i64 kb,.int .i64 kc] 44)=w4 at *
 have HSx:Hid (w.heap.size≤w1.heap.size):=HB.out.size
 have HLx:=hide hbl
 clear hbl p0 p1 x0 x1 x2 x3 x4 x5 x6 d0 d1 d2 d3 z0 z1
 obtain ⟨i0, -⟩:=blk_cell (l:=[_,_,_,_]) hbi 0 _ rfl
 obtain ⟨i1, -⟩:=blk_cell (l:=[_,_,_,_]) hbi 1 _ rfl
 obtain ⟨i2, -⟩:=blk_cell (l:=[_,_,_,_]) hbi 2 _ rfl
 obtain ⟨i3, -⟩:=blk_cell (l:=[_,_,_,_]) hbi 3 _ rfl
 have hre:∀ j,j<4→w4.cell? ⟨w1.heap.size,2+j,none⟩=some (.int .i64 ((R.w k).r j)):=fun j hj=>by
  rcases (show j=0∨j=1∨j=2∨j=3 by omega) with rfl | rfl | rfl | rfl
  ·exact row_cell hbx rfl
  ·exact row_cell hbx rfl
  ·exact row_cell hbx rfl
  ·exact row_cell hbx rfl
 have ya:=hre ka hka
 have yb:=hre kb hkb
 have yc:=hre kc hkc
 rw [← hxb] at yb
 rw [← hxc] at yc
 clear hxb hxc
 have fa:=row_frozen hbx (2+ka)
 have HBx:=hide hbx
 have ka0:(0:Int)≤(ka:Int):=by omega
 have ka1:(ka:Int)<4:=by omega
 have kb0:(0:Int)≤(kb:Int):=by omega
 have kb1:(kb:Int)<4:=by omega
 have kc0:(0:Int)≤(kc:Int):=by omega
 have kc1:(kc:Int)<4:=by omega
 clear hre hbx hbi
 refine wp_region_still_tail 15 Tryz.mixed (by kernel_rfl) ?_
 simp only [List.take_succ_cons,List.take_zero,List.drop_succ_cons,List.drop_zero]
 iterate 12 still_step
 still_call (unhide HLs _)
 iterate 2 still_step
 refine wpStill_nil ?_
 show wpList _ _ _ _ _ w4.drew
 go_upto_region 31 with fail
 have hbx6:((w4.setCell ⟨w1.heap.size,2+ka,none⟩ (.int .i64 v)).drew).heap[w1.heap.size]? = some (.cells #[.slice (some ⟨cb,co,none⟩) (codeOf N k).length cc,.int .i64 ((R.w k).place:Int),.int .i64 (upd (R.w k).r ka v 0),.int .i64 (upd (R.w k).r ka v 1),.int .i64 (upd (R.w k).r ka v 2),.int .i64 (upd (R.w k).r ka v 3),.int .i64 ((R.w k).steps)] 92 (0,0)):=by
  have h1:=blk_set (w:=w4) HBx.out (2+ka) (.int .i64 v)
  refine h1.trans ?_
  congr 2
  rcases (show ka=0∨ka=1∨ka=2∨ka=3 by omega) with rfl | rfl | rfl | rfl<;>simp [upd]
 have hfx:Fr (fun b=>b=w1.heap.size) w4 ((w4.setCell ⟨w1.heap.size,2+ka,none⟩ (.int .i64 v)).drew):=(Fr.setCell (S:=fun b=>b=w1.heap.size) (Fr.refl _ w4) (p:=⟨w1.heap.size,2+ka,none⟩) (Or.inr rfl) _).drewN 1
 have HB6:Hid (Below w.heap.size w ((w4.setCell ⟨w1.heap.size,2+ka,none⟩ (.int .i64 v)).drew)):=(HB.out.trans (HLx.out.mono HSx.out)).trans ⟨hfx.os,hfx.tape,hfx.output,hfx.size,fun b hb=>hfx.block b (Nat.lt_of_lt_of_le hb (HB.out.trans (HLx.out.mono HSx.out)).size) (fun e=>by have:=HSx.out;omega)⟩
 generalize (w4.setCell ⟨w1.heap.size,2+ka,none⟩ (.int .i64 v)).drew=w6 at *
 clear hfx i0 i1 i2 i3 ya yb yc fa HBx
 obtain ⟨y1, -⟩:=blk_cell (l:=[_,_,_,_,_,_,_]) hbx6 1 _ rfl
 obtain ⟨y6, -⟩:=blk_cell (l:=[_,_,_,_,_,_,_]) hbx6 6 _ rfl
 have u1:=row_frozen hbx6 1
 have u6:=row_frozen hbx6 6
 have HX6:=hide hbx6
 clear hbx6
 go_upto_region 33 with fail
 have hbx7:((w6.setCell ⟨w1.heap.size,1,none⟩ (.int .i64 (((R.w k).place:Int)+1))).setCell ⟨w1.heap.size,6,none⟩ (.int .i64 (wrap64 ((R.w k).steps+1)))).heap[w1.heap.size]? = some (.cells #[.slice (some ⟨cb,co,none⟩) (codeOf N k).length cc,.int .i64 (((R.w k).place:Int)+1),.int .i64 (upd (R.w k).r ka v 0),.int .i64 (upd (R.w k).r ka v 1),.int .i64 (upd (R.w k).r ka v 2),.int .i64 (upd (R.w k).r ka v 3),.int .i64 (wrap64 ((R.w k).steps+1))] 92 (0,0)):=by
  have h1:=blk_set (w:=w6) HX6.out 1 (.int .i64 (((R.w k).place:Int)+1))
  have h2:=blk_set h1 6 (.int .i64 (wrap64 ((R.w k).steps+1)))
  exact h2
 have hfx:Fr (fun b=>b=w1.heap.size) w6 ((w6.setCell ⟨w1.heap.size,1,none⟩ (.int .i64 (((R.w k).place:Int)+1))).setCell ⟨w1.heap.size,6,none⟩ (.int .i64 (wrap64 ((R.w k).steps+1)))):=Fr.setCell (S:=fun b=>b=w1.heap.size) (Fr.setCell (S:=fun b=>b=w1.heap.size) (Fr.refl _ w6) (p:=⟨w1.heap.size,1,none⟩) (Or.inr rfl) _) (p:=⟨w1.heap.size,6,none⟩) (Or.inr rfl) _
 have HB7:Below w.heap.size w ((w6.setCell ⟨w1.heap.size,1,none⟩ (.int .i64 (((R.w k).place:Int)+1))).setCell ⟨w1.heap.size,6,none⟩ (.int .i64 (wrap64 ((R.w k).steps+1)))):=HB6.out.trans ⟨hfx.os,hfx.tape,hfx.output,hfx.size,fun b hb=>hfx.block b (Nat.lt_of_lt_of_le hb HB6.out.size) (fun e=>by have:=HSx.out;omega)⟩
 have hR7:=HH.out _ HB7
 have HEnd:=hide (HPut.out _ HB7)
 generalize (w6.setCell ⟨w1.heap.size,1,none⟩ (.int .i64 (((R.w k).place:Int)+1))).setCell ⟨w1.heap.size,6,none⟩ (.int .i64 (wrap64 ((R.w k).steps+1)))=w7 at *
 generalize w1.heap.size=xb at *
 clear hfx HX6 y1 y6 u1 u6 HB7
 obtain ⟨p1, -⟩:=blk_cell (l:=[_,_]) hR7.blk 1 _ rfl
 obtain ⟨y0, -⟩:=blk_cell (l:=[_,_,_,_,_,_,_]) hbx7 0 _ rfl
 obtain ⟨y1, -⟩:=blk_cell (l:=[_,_,_,_,_,_,_]) hbx7 1 _ rfl
 obtain ⟨y2, -⟩:=blk_cell (l:=[_,_,_,_,_,_,_]) hbx7 2 _ rfl
 obtain ⟨y3, -⟩:=blk_cell (l:=[_,_,_,_,_,_,_]) hbx7 3 _ rfl
 obtain ⟨y4, -⟩:=blk_cell (l:=[_,_,_,_,_,_,_]) hbx7 4 _ rfl
 obtain ⟨y5, -⟩:=blk_cell (l:=[_,_,_,_,_,_,_]) hbx7 5 _ rfl
 obtain ⟨y6, -⟩:=blk_cell (l:=[_,_,_,_,_,_,_]) hbx7 6 _ rfl
 have x0:w7.cell? ⟨L.gW,k*7,none⟩=some (L.VC k):=hR7.wc hk 0 _ (by decide) rfl
 have x1:=hR7.wc hk 1 _ (by decide) rfl
 have x2:=hR7.wc hk 2 _ (by decide) rfl
 have x3:=hR7.wc hk 3 _ (by decide) rfl
 have x4:=hR7.wc hk 4 _ (by decide) rfl
 have x5:=hR7.wc hk 5 _ (by decide) rfl
 have x6:=hR7.wc hk 6 _ (by decide) rfl
 obtain ⟨cs,hbW, -⟩:=hR7.rowW
 have f0:w7.frozen? ⟨L.gW,k*7,none⟩=false:=row_frozen hbW _
 have f1:=row_frozen hbW (k*7+1)
 have f2:=row_frozen hbW (k*7+2)
 have f3:=row_frozen hbW (k*7+3)
 have f4:=row_frozen hbW (k*7+4)
 have f5:=row_frozen hbW (k*7+5)
 have f6:=row_frozen hbW (k*7+6)
 have H7:=hide hR7
 clear hbW hR7 hbx7
 refine wp_region_still_tail 7 Tryz.mixed (by kernel_rfl) ?_
 simp only [List.take_succ_cons,List.take_zero,List.drop_succ_cons,List.drop_zero]
 iterate 7 still_step
 refine wpStill_nil ?_
 show wpList _ _ _ _ _ w7.drew
 go_wp2
 go_ret
 refine ⟨rfl,?_⟩
 have:=HEnd.out
 rw [HV.out] at this
 exact this
end Go.Proofs.YthfdgdfnflilfaaGreatDoor

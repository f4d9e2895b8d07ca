/- Part 21: Ret3. -/
import Derived.Deep.CutRange
import Derived.Deep.RegionLaw
import Derived.Deep.AppendLies
import Derived.Test.YthfdgdfnflilfaaGreatDoorPart10
import Derived.Test.YthfdgdfnflilfaaGreatDoorPart18
namespace Go.Proofs.YthfdgdfnflilfaaGreatDoor
open Go.RowKit Go.Conc
set_option maxRecDepth 100000 in
set_option maxHeartbeats 8000000 in
theorem returned_calls {base B:Nat} {col:Nat→Nat} {w:World} {p:Nat} {v0:Value} {c:Nat} {L:LoanL} {n:Net} {v:Value} (hb:Bk base col w p v0 c) (hL:LoanAt B L w n) (hB:base≤B) (hcol:∀ b,LoanFoot L n b→col b=20)
  (hn:∀ wx,Fr (fun b=>base≤b∧col b≤20) w wx→NetAt wx v n) (hs:ShortNet n) (hc:c+n.sources.length+n.workers.length+3≤1099511627776) :
  Calls Tryz.prog 15 #[.pointer (some ⟨p,0,none⟩),.pointer (some ⟨L.q,0,none⟩),v] w fun e w'=>e=.returned (.bool true)∧∃ col',Bk base col' w' p v0 (c+n.sources.length+n.workers.length+3)∧Turned base col col' w w':=by
 obtain ⟨iC,hiC,hC0,hC1,hC2⟩:=info_parts Tryz.infoLC
 obtain ⟨vs,vr,vw,rfl,h1,h2,h3⟩:=hn w (Fr.refl _ _)
 obtain ⟨sa,sc,rfl⟩:=h1.form
 obtain ⟨ar,cr,rfl⟩:=h2.form
 obtain ⟨aw,cw,rfl⟩:=h3.form
 have HBk:=hide (back_open hb hL hcol hn)
 have HI1:=hide h1
 have hpl:p<w.heap.size:=by obtain ⟨cs,hp, -⟩:=hb.blk;exact lt_of_blk hp
 clear hb hL hcol hn h1 h2 h3
 generalize hw1:w.alloc (.cells #[.slice sa n.streams.length sc,.slice ar n.sources.length cr,.slice aw n.workers.length cw] 26)=w1 at *
 have HW1:=hide hw1
 have HI:Hid (∀ q,IntsAt (w1.drewN q) (.slice sa n.streams.length sc) n.streams):=fun q=>IntsAt.below HI1.out (by rw [← hw1];exact below_drewN ((Below.refl _ _).alloc (Nat.le_refl _) _) q)
 clear hw1 HI1
 have hne:=HBk.out.loan.ne_all
 have HNE:=hide hne
 have HRd:Hid (∀ i j wr,i≤n.sources.length→j≤n.workers.length→Ret base (boxed col w.heap.size) w1 p v0 c L i j wr→LoanRd L n wr∧wr.cell? ⟨w.heap.size,0,none⟩=some (.slice sa n.streams.length sc)∧wr.cell? ⟨w.heap.size,1,none⟩=some (.slice ar n.sources.length cr)∧wr.cell? ⟨w.heap.size,2,none⟩=some (.slice aw n.workers.length cw)):=fun i j wr hi hj hr=>by
  have hbx:=(HBk.out.net i j wr hi hj hr).2
  exact ⟨HBk.out.rd (HBk.out.keep hr (Or.inl rfl) (HNE.out.q i j hi hj)),(blk_cell (l:=[_,_,_]) hbx 0 _ rfl).1,(blk_cell (l:=[_,_,_]) hbx 1 _ rfl).1,(blk_cell (l:=[_,_,_]) hbx 2 _ rfl).1⟩
 have HSr:Hid (∀ i wr,i<n.sources.length→Ret base (boxed col w.heap.size) w1 p v0 c L i 0 wr→∃ b off au cu gv cv,ar=some ⟨b,off,none⟩∧wr.cell? ⟨b,off+i*2,none⟩=some (.int .i64 (n.sources.getD i ⟨0,[]⟩).stream)∧wr.cell? ⟨b,off+i*2+1,none⟩=some (.slice au (wordsOf n i).length cu) ∧
   L.vW=.slice (some ⟨gv,0,none⟩) n.sources.length cv∧wr.cell? ⟨gv,i,none⟩=some (.slice (some ⟨L.G i,0,none⟩) ((wordsOf n i).length+1) ((wordsOf n i).length+1)) ∧
   wr.cell? ⟨L.gr,i*2,none⟩=some (.int .i64 (n.sources.getD i ⟨0,[]⟩).stream)∧wr.cell? ⟨L.gr,i*2+1,none⟩=some (.slice (L.IA i) (wordsOf n i).length (L.IC i)) ∧
   ∀ q,Calls Tryz.prog 29 #[.pointer (some ⟨p,0,none⟩),.slice (some ⟨L.G i,0,none⟩) ((wordsOf n i).length+1) ((wordsOf n i).length+1),.slice au (wordsOf n i).length cu] (wr.drewN q) fun e w'=>e=.returned (.bool true)∧Ret base (boxed col w.heap.size) w1 p v0 c L (i+1) 0 w'):=fun i wr hi hr=>by
  obtain ⟨⟨vs,vr,vw,e, -,g2, -⟩, -⟩:=HBk.out.net i 0 wr (by omega) (by omega) hr
  cases e
  obtain ⟨a',c',e, -, -,hc'⟩:=g2.openD
  cases e
  obtain ⟨b,off,u,hb, -,hu,hcell⟩:=hc' i hi
  obtain ⟨au,cu,rfl⟩:=hu.form
  obtain ⟨d0,d1⟩:=hcell wr (Below.refl _ _)
  obtain ⟨av,cv,hv, -,hgv⟩:=own_row_get HBk.out.loan.words.row
  obtain ⟨gv,e,hcv⟩:=hgv i (by simpa using hi)
  subst e
  have hfv:LoanFoot L n gv:=Or.inr (Or.inr (Or.inr (Or.inr (Or.inl (by rw [hv];rfl)))))
  obtain ⟨cs,x1, -,x3, -, -, -⟩:=HBk.out.loan.src.ex
  obtain ⟨y1,y2⟩:=x3 i hi
  have hkr:=HBk.out.keep hr (Or.inr (Or.inr (Or.inl rfl))) (HNE.out.gr i 0 (by omega) (by omega))
  have hkv:=HBk.out.keep hr hfv (HNE.out.vW i 0 (by omega) (by omega) gv (by rw [hv];rfl))
  refine ⟨b,off,au,cu,gv,cv,hb,d0,d1,hv,?_,row_cell (hkr.trans x1) y1,row_cell (hkr.trans x1) y2,fun q=>?_⟩
  ·rw [World.cell?_of_block (w:=w1) (a:=⟨gv,i,none⟩) hkv,hcv];simp [ownV]
  ·exact (hr.drewN q).backG HBk.out.loan hB (fun b hb=>(HBk.out.col20 b hb).1) hi hs (IntsAt.below hu (below_drewN (Below.refl _ _) q)) (by omega)
 have HSt:Hid (∀ q,Calls Tryz.prog 29 #[.pointer (some ⟨p,0,none⟩),.slice (some ⟨L.gs,0,none⟩) (n.streams.length+1) (n.streams.length+1),.slice sa n.streams.length sc] (w1.drewN q) fun e w'=>e=.returned (.bool true)∧Ret base (boxed col w.heap.size) w1 p v0 c L 0 0 w'):=fun q=>by
  have hbl:Below w1.heap.size w1 (w1.drewN q):=below_drewN (Below.refl _ _) q
  exact Ret.start (HBk.out.bk.below hbl) ⟨HBk.out.turn.fr.drewN q,HBk.out.turn.old,HBk.out.turn.new⟩ HBk.out.loan hB (fun b hb=>(HBk.out.col20 b hb).1) hs (HI.out q) (by omega)
 have HEd:Hid (∀ j wr,j≤n.workers.length→Ret base (boxed col w.heap.size) w1 p v0 c L n.sources.length j wr→wr.cell? ⟨L.gr,n.sources.length*2,none⟩=some (.int .i64 79)∧wr.cell? ⟨L.gr,n.sources.length*2+1,none⟩=some (.slice none 0 0)∧wr.cell? ⟨L.gw,n.workers.length,none⟩=some (.slice none 0 0)):=fun j wr hj hr=>by
  obtain ⟨cs,x1, -, -, -,x5,x6⟩:=HBk.out.loan.src.ex
  obtain ⟨ds,y1, -, -,y4⟩:=HBk.out.loan.wks.ex
  have hkr:=HBk.out.keep hr (Or.inr (Or.inr (Or.inl rfl))) (HNE.out.gr _ j (Nat.le_refl _) hj)
  have hkw:=HBk.out.keep hr (Or.inr (Or.inr (Or.inr (Or.inl rfl)))) (HNE.out.gw _ j (Nat.le_refl _) hj)
  exact ⟨row_cell (hkr.trans x1) x5,row_cell (hkr.trans x1) x6,row_cell (hkw.trans y1) (y4 _ (Nat.le_refl _) (Nat.le_refl _))⟩
 have HWk:Hid (∀ j wr,j<n.workers.length→Ret base (boxed col w.heap.size) w1 p v0 c L n.sources.length j wr→(n.workers.getD j []).length≤1048576∧∃ b off ac cc gv cv,aw=some ⟨b,off,none⟩∧wr.cell? ⟨b,off+j,none⟩=some (.slice ac (n.workers.getD j []).length cc)∧CodeAt wr (.slice ac (n.workers.getD j []).length cc) (n.workers.getD j []) ∧
   L.vC=.slice (some ⟨gv,0,none⟩) n.workers.length cv∧wr.cell? ⟨gv,j,none⟩=some (.slice (some ⟨L.C j,0,none⟩) ((n.workers.getD j []).length+1) ((n.workers.getD j []).length+1))∧gv≠L.C j∧L.q≠L.C j ∧
   wr.cell? ⟨L.gw,j,none⟩=some (.slice (some ⟨L.C j,0,none⟩) (n.workers.getD j []).length ((n.workers.getD j []).length+1))∧wr.heap[L.C j]? = some (.cells (codeRow (n.workers.getD j []++[⟨80,0,0,0⟩])).toArray 44 (0,0))):=fun j wr hj hr=>by
  obtain ⟨⟨vs,vr,vw,e, -, -,g3⟩, -⟩:=HBk.out.net _ j wr (Nat.le_refl _) (by omega) hr
  cases e
  obtain ⟨a',c',e, -, -,hc'⟩:=g3.openD
  cases e
  obtain ⟨b,off,u,hb, -,hu,hcell⟩:=hc' j hj
  obtain ⟨ac,cc,rfl⟩:=hu.form
  have d0:=hcell wr (Below.refl _ _)
  obtain ⟨av,cv,hv, -,hgv⟩:=own_row_get HBk.out.loan.codes.row
  obtain ⟨gv,e,hcv⟩:=hgv j (by simpa using hj)
  subst e
  have hfv:LoanFoot L n gv:=Or.inr (Or.inr (Or.inr (Or.inr (Or.inr (Or.inl (by rw [hv];rfl))))))
  have hfc:LoanFoot L n (L.C j):=Or.inr (Or.inr (Or.inr (Or.inr (Or.inr (Or.inr (Or.inr ⟨j,hj,rfl⟩))))))
  obtain ⟨ds,y1, -,y3, -⟩:=HBk.out.loan.wks.ex
  have hkw:=HBk.out.keep hr (Or.inr (Or.inr (Or.inr (Or.inl rfl)))) (HNE.out.gw _ j (Nat.le_refl _) (by omega))
  have hkv:=HBk.out.keep hr hfv (HNE.out.vC _ j (Nat.le_refl _) (by omega) gv (by rw [hv];rfl))
  have hkc:=HBk.out.keep hr hfc (HNE.out.c j hj)
  have hcc:=HBk.out.loan.codes.codes j hj
  refine ⟨by rw [getD_eq _ _ _ hj];exact (hs.2.2.2.2 _ (List.getElem_mem hj)).1,b,off,ac,cc,gv,cv,hb,d0,hu,hv,?_,?_,ne_of_types HBk.out.loan.blk hcc (by decide),row_cell (hkw.trans y1) (y3 j hj),hkc.trans hcc⟩
  ·rw [World.cell?_of_block (w:=w1) (a:=⟨gv,j,none⟩) hkv,hcv];simp [ownV]
  ·obtain ⟨cur,hcu⟩:=own_blockB HBk.out.loan.codes.row (g:=gv) (by rw [hv];rfl)
   exact ne_of_types hcu hcc (by decide)
 have HR0:Hid (LoanRd L n w1∧w1.cell? ⟨w.heap.size,0,none⟩=some (.slice sa n.streams.length sc)):=by
  refine ⟨HBk.out.rd rfl,?_⟩
  rw [← HW1.out]
  exact (blk_cell (l:=[_,_,_]) (heapNew rfl) 0 _ rfl).1
 clear hne HI
 obtain ⟨rd0,b0⟩:=HR0.out
 have c3:=rd0.c3
 clear rd0 HR0
 go_enter Tryz.func15,Tryz.ntmps15
 go_upto_region 1 with fail
 rw [HW1.out]
 go_wp2
 refine wp_region_still_tail 7 Tryz.mixed (by kernel_rfl) ?_
 simp only [List.take_succ_cons,List.take_zero,List.drop_succ_cons,List.drop_zero]
 iterate 7 still_step
 refine wpStill_nil ?_
 show wpList _ _ _ _ _ w1.drew
 go_wp2_with fail
 refine (HSt.out 1).mono ?_
 rintro e w2 ⟨rfl,hr2⟩
 have HR2:=hide hr2
 clear hr2 HSt b0 c3
 go_wp2
 go_loopw [7,8] (fun ok i wr=>∃ k:Nat,k≤n.sources.length∧ok=.bool true∧i=.int .i64 k∧Ret base (boxed col w.heap.size) w1 p v0 c L k 0 wr) (fun _ i _=>n.sources.length-(intOf i).toNat)
 case atStart=>exact ⟨0,Nat.zero_le _,rfl,rfl,HR2.out⟩
 case round=>
  clear HR2
  obtain ⟨k,hk,rfl,rfl,hr⟩:=hrel
  obtain ⟨rd,b0,b1,b2⟩:=HRd.out k 0 wr hk (Nat.zero_le _) hr
  by_cases hlt:k<n.sources.length
  ·-- BEGIN A
   obtain ⟨b,off,au,cu,gv,cv,hb,d0,d1,hv,d2,d3,d4,hcall⟩:=HSr.out k wr hlt hr
   have c4:=rd.c4
   have c5:=rd.c5
   rw [hv] at c4
   have HCl:=hide hcall
   have hk0:(0:Int)≤(k:Int):=by omega
   have hk1:(k:Int)<(n.sources.length:Int):=by omega
   have hk2:(k:Int)<(n.sources.length:Int)+1:=by omega
   subst hb
   clear rd hcall hr hv b0 b2 HSr HRd HNE HBk
   generalize (wordsOf n k).length=len at *
   generalize (n.sources.getD k ⟨0,[]⟩).stream=st at *
   go_wp2
   go_quiet (fail)
   have d0':(wr.drewN nq).cell? ⟨b,off+k*2,none⟩=some (.int .i64 st):=d0
   have d1':(wr.drewN nq).cell? ⟨b,off+k*2+1,none⟩=some (.slice au len cu):=d1
   have d2':(wr.drewN nq).cell? ⟨gv,k,none⟩=some (.slice (some ⟨L.G k,0,none⟩) (len+1) (len+1)):=d2
   have c4':(wr.drewN nq).cell? ⟨L.q,4,none⟩=some (.slice (some ⟨gv,0,none⟩) n.sources.length cv):=c4
   have b1':(wr.drewN nq).cell? ⟨w.heap.size,1,none⟩=some (.slice (some ⟨b,off,none⟩) n.sources.length cr):=b1
   have HC2:=hide (HCl.out (nq+1))
   clear d0 d1 d2 d3 d4 c4 c5 b1 HCl
   have hdr:wr.drewN (nq+1)=(wr.drewN nq).drew:=by rfl
   rw [hdr] at HC2
   clear hdr
   generalize wr.drewN nq=w3 at *
   go_wp2
   refine wp_region_still_tail 14 Tryz.mixed (by kernel_rfl) ?_
   simp only [List.take_succ_cons,List.take_zero,List.drop_succ_cons,List.drop_zero]
   iterate 14 still_step
   refine wpStill_nil ?_
   show wpList _ _ _ _ _ w3.drew
   go_wp2_with fail
   refine (unhide HC2).mono ?_
   rintro e w4 ⟨rfl,hr4⟩
   have HR4:=hide hr4
   clear hr4 HC2 d0' d1' d2' c4' b1'
   go_wp2
   go_roundw
   case rel=>exact ⟨k+1,by omega,rfl,by go_num,HR4.out⟩
   case measure=>simp [intOf];omega
  ·have hke:k=n.sources.length:=by omega
   subst hke
   obtain ⟨d0,d1,d2⟩:=HEd.out 0 wr (Nat.zero_le _) hr
   have c5:=rd.c5
   have c7:=rd.c7
   have hm0:(0:Int)≤(n.sources.length:Int):=by omega
   have hm1:(n.sources.length:Int)<(n.sources.length:Int)+1:=by omega
   have hw0:(0:Int)≤(n.workers.length:Int):=by omega
   have hw1:(n.workers.length:Int)<(n.workers.length:Int)+1:=by omega
   have nn1:=fun (wx:World) (a:Option Addr) (n c n' c':Nat)=>Lib.run_eql_slice_nil (P:=Tryz.prog) wx 22 3 a n c n' c' Tryz.underlying22
   have nn2:=fun (wx:World) (a:Option Addr) (n c n' c':Nat)=>Lib.run_eql_slice_nil (P:=Tryz.prog) wx 45 44 a n c n' c' Tryz.underlying45
   have HR:=hide hr
   clear rd hr HSr b0
   go_wp2
   go_quiet (fail)
   have HR3:=hide (HR.out.drewN nq)
   clear HR d0 d1 d2 c5 c7 b1 b2 nn1 nn2 HEd
   generalize wr.drewN nq=w3 at *
   go_wp2
   go_loopw [7,11] (fun ok i wr=>∃ j:Nat,j≤n.workers.length∧ok=.bool true∧i=.int .i64 j∧Ret base (boxed col w.heap.size) w1 p v0 c L n.sources.length j wr) (fun _ i _=>n.workers.length-(intOf i).toNat)
   case atStart=>exact ⟨0,Nat.zero_le _,rfl,rfl,HR3.out⟩
   case round=>
    clear HR3
    obtain ⟨j,hj,rfl,rfl,hr⟩:=hrel
    obtain ⟨rd,b0,b1,b2⟩:=HRd.out n.sources.length j wr (Nat.le_refl _) hj hr
    by_cases hlt2:j<n.workers.length
    ·-- BEGIN B
     obtain ⟨hlen,b,off,ac,cc,gv,cv,hb,d0,hcd,hv,d2,hgc,hqc,d3,hblk⟩:=HWk.out j wr hlt2 hr
     have c6:=rd.c6
     have c7:=rd.c7
     rw [hv] at c6
     have d4:wr.cell? ⟨L.C j,(n.workers.getD j []).length*4,none⟩=some (.int .i64 80):=by
      refine row_cell hblk ?_
      have:=codeRow_get (n.workers.getD j []++[⟨80,0,0,0⟩]) (n.workers.getD j []).length (by rw [List.length_append];simp) 0 (by decide)
      rw [Nat.add_zero] at this
      rw [this]
      simp [Ins.cell]
     have hj0:(0:Int)≤(j:Int):=by omega
     have hj1:(j:Int)<(n.workers.length:Int):=by omega
     have hj2:(j:Int)<(n.workers.length:Int)+1:=by omega
     have hl0:(0:Int)≤((n.workers.getD j []).length:Int):=by omega
     have hl1:((n.workers.getD j []).length:Int)<((n.workers.getD j []).length:Int)+1:=by omega
     have HR:=hide hr
     have HCd:=hide hcd
     have HBl:=hide hblk
     subst hb
     clear rd hr hv b0 b1 HWk HRd hcd hblk
     have hlt3:L.C j<w1.heap.size∧8<boxed col w.heap.size (L.C j)∧base≤L.C j:=by
      have hfc:LoanFoot L n (L.C j):=Or.inr (Or.inr (Or.inr (Or.inr (Or.inr (Or.inr (Or.inr ⟨j,hlt2,rfl⟩))))))
      have:=HBk.out.loan.foot_lt hfc
      exact ⟨this.2,by rw [(HBk.out.col20 _ hfc).1];omega,by omega⟩
     have HLt3:=hide hlt3
     have hnt:=HNE.out.c j hlt2
     have HNT:=hide hnt
     clear hlt3 hnt
     generalize hcode:n.workers.getD j []=code at *
     clear hcode
     generalize hCj:L.C j=Cj at *
     have HCj:=hide hCj
     clear hCj
     generalize wr=wo at *
     have heq:=eqIns
     go_wp2
     go_loopw [7,13] (fun ok i wr=>∃ t q:Nat,t≤code.length∧ok=.bool true∧i=.int .i64 t∧wr=wo.drewN q) (fun _ i _=>code.length-(intOf i).toNat)
     case atStart=>exact ⟨0,0,Nat.zero_le _,rfl,rfl,rfl⟩
     case round=>
      obtain ⟨t,q,ht,rfl,rfl,hwr⟩:=hrel
      by_cases hlt4:t<code.length
      ·obtain ⟨a',c',e, -, -,hcx⟩:=HCd.out.openD
       cases e
       obtain ⟨bc,oc,hac, -,hcy⟩:=hcx t hlt4
       obtain ⟨x0,x1,x2,x3⟩:=hcy wr (by rw [hwr];exact below_drewN (Below.refl _ _) q)
       have hblr:wr.heap[Cj]? = some (.cells (codeRow (code++[⟨80,0,0,0⟩])).toArray 44 (0,0)):=by rw [hwr];exact HBl.out
       have hcg:∀ k,k<4→wr.cell? ⟨Cj,t*4+k,none⟩=some ((code.getD t ⟨0,0,0,0⟩).cell k):=fun k hk=>by
        have:=codeRow_get (code++[⟨80,0,0,0⟩]) t (by rw [List.length_append];omega) k hk
        refine row_cell hblr ?_
        rw [this,List.getElem_append_left hlt4,getD_eq _ _ _ hlt4]
       have y0:wr.cell? ⟨Cj,t*4,none⟩=some (.int .i64 (code.getD t ⟨0,0,0,0⟩).op):=hcg 0 (by decide)
       have y1:wr.cell? ⟨Cj,t*4+1,none⟩=some (.int .i64 (code.getD t ⟨0,0,0,0⟩).a):=hcg 1 (by decide)
       have y2:wr.cell? ⟨Cj,t*4+2,none⟩=some (.int .i64 (code.getD t ⟨0,0,0,0⟩).b):=hcg 2 (by decide)
       have y3:wr.cell? ⟨Cj,t*4+3,none⟩=some (.int .i64 (code.getD t ⟨0,0,0,0⟩).c):=hcg 3 (by decide)
       have c6':wr.cell? ⟨L.q,6,none⟩=some (.slice (some ⟨gv,0,none⟩) n.workers.length cv):=by rw [hwr];exact c6
       have d2':wr.cell? ⟨gv,j,none⟩=some (.slice (some ⟨Cj,0,none⟩) (code.length+1) (code.length+1)):=by rw [hwr];exact d2
       have HWR:=hide hwr
       have ht0:(0:Int)≤(t:Int):=by omega
       have ht1:(t:Int)<(code.length:Int):=by omega
       have ht2:(t:Int)<(code.length:Int)+1:=by omega
       subst hac
       clear hwr hblr hcg hcx hcy c6 d2 d3 d4 c7 b2 d0
       generalize (code.getD t ⟨0,0,0,0⟩).op=z0 at *
       generalize (code.getD t ⟨0,0,0,0⟩).a=z1 at *
       generalize (code.getD t ⟨0,0,0,0⟩).b=z2 at *
       generalize (code.getD t ⟨0,0,0,0⟩).c=z3 at *
       go_wp2
       go_quiet (fail)
       go_wp2
       go_roundw
       case rel=>exact ⟨t+1,q+nq,by omega,rfl,by go_num,by rw [HWR.out];simp⟩
       case measure=>simp [intOf];omega
      ·have c6':wr.cell? ⟨L.q,6,none⟩=some (.slice (some ⟨gv,0,none⟩) n.workers.length cv):=by rw [hwr];exact c6
       have d2':wr.cell? ⟨gv,j,none⟩=some (.slice (some ⟨Cj,0,none⟩) (code.length+1) (code.length+1)):=by rw [hwr];exact d2
       have hblr:wr.heap[Cj]? = some (.cells (codeRow (code++[⟨80,0,0,0⟩])).toArray 44 (0,0)):=by rw [hwr];exact HBl.out
       have HRq:=hide (HR.out.drewN q)
       rw [← hwr] at HRq
       have HBq:=hide hblr
       clear hwr hblr c6 d2 d3 d4 c7 b2 d0 HR HBl HCd heq
       generalize wr=wq at *
       generalize hrow:codeRow (code++[⟨80,0,0,0⟩])=row at *
       have hrl:row.length=(code.length+1)*4:=by rw [← hrow,codeRow_length,List.length_append];rfl
       clear hrow
       generalize code.length=len at *
       have HPu:Hid (∀ wr,Fr (fun b=>b=Cj) wq wr→wr.heap[Cj]? = some (.cells (List.replicate (len+1) ([.int .i64 (-8),.int .i64 0,.int .i64 0,.int .i64 0]:List Value)).flatten.toArray 44 (0,0))→∃ av cv vals,vals.length≤c+1+n.sources.length+j∧wr.drew.cell? ⟨p,5,none⟩=some (.slice av vals.length cv)∧wr.drew.ownsRow base 45 1 (.slice av vals.length cv) vals.length vals∧base≤wr.drew.heap.size∧p<wr.drew.heap.size ∧
         ∀ w2 gr gcap o H,w2.ownsRow base 45 1 (.slice (some ⟨gr,0,none⟩) (vals.length+1) gcap) (vals.length+1) (vals++[.slice (some ⟨Cj,0,none⟩) (len+1) (len+1)])→(wr.drew.alloc o).grownBy w2 (Value.slice av vals.length cv).ownBlock→((Value.slice av vals.length cv).ownBlock=some gr∨gr=H)→wr.drew.heap.size≤H →
          (w2.cell? ⟨p,5,none⟩=some (.slice av vals.length cv)∧w2.frozen? ⟨p,5,none⟩=false)∧Ret base (boxed col w.heap.size) w1 p v0 c L n.sources.length (j+1) (w2.setCell ⟨p,5,none⟩ (.slice (some ⟨gr,0,none⟩) (vals.length+1) gcap))):=fun wr hf hbk=>by
        obtain ⟨c',hb1,ht1⟩:=HRq.out.ex
        obtain ⟨z1,z2,z3⟩:=HLt3.out
        have hcc:8<c' Cj:=by rw [ht1.old Cj z1 HNT.out];exact z2
        have hfd:Fr (fun b=>b=Cj) wq wr.drew:=hf.drewN 1
        obtain ⟨av,cv,vals,p1,p2,p3,p4,p5,p6⟩:=push_open (r:=5) (g:=Cj) (m:=len+1) (u:=.slice (some ⟨Cj,0,none⟩) (len+1) (len+1)) (hb1.write hfd hcc) (ht1.write hfd z3) (by decide) (by decide) z3 z1 hcc (fun i=>flat_sl (w:=wr.drew) hbk (by omega) (fun i k hk=>by
         have:k=0∨k=1∨k=2∨k=3:=by simp at hk;omega
         rcases this with rfl | rfl | rfl | rfl<;>rfl)) (fun b hb=>by simpa [Value.ownBlock] using hb.symm)
        refine ⟨av,cv,vals,p1,p2,p3,p4,p5,fun w2 gr gcap o H ho hg hor hH=>?_⟩
        obtain ⟨r1,c2,r2,r3, -⟩:=p6 w2 gr gcap o H ho hg hor hH
        refine ⟨r1,c2,?_,r3.mono fun b hb=>?_⟩
        ·have e:c+1+n.sources.length+(j+1)=c+1+n.sources.length+j+1:=by omega
         rw [e];exact r2
        ·rcases hb with (hb | hb) | hb
         ·exact turned_c (Or.inl hb)
         ·exact turned_c (Or.inr (by rw [HCj.out];exact hb))
         ·exact turned_c (Or.inr (by rw [HCj.out];exact hb))
       have HPd:Hid (∀ wr,Fr (fun b=>b=Cj) wq wr→wr.cell? ⟨L.q,6,none⟩=some (.slice (some ⟨gv,0,none⟩) n.workers.length cv)∧wr.cell? ⟨gv,j,none⟩=some (.slice (some ⟨Cj,0,none⟩) (len+1) (len+1))):=fun wr hf=>
        ⟨(World.cell?_of_block (w:=wq) (hf.block _ (lt_of_cell c6') hqc)).trans c6',(World.cell?_of_block (w:=wq) (hf.block _ (lt_of_cell d2') hgc)).trans d2'⟩
       clear c6' d2' HRq
       go_wp2
       go_loopw [14] (fun i wr=>∃ t:Nat,t≤len+1∧i=.int .i64 t∧Fr (fun b=>b=Cj) wq wr∧wr.heap[Cj]? = some (.cells ((List.replicate t ([.int .i64 (-8),.int .i64 0,.int .i64 0,.int .i64 0]:List Value)).flatten++row.drop (t*4)).toArray 44 (0,0))) (fun i _=>len+1-(intOf i).toNat)
       case atStart=>exact ⟨0,Nat.zero_le _,rfl,Fr.refl _ _,by simpa using HBq.out⟩
       case round=>
        clear HBq
        obtain ⟨t,ht,rfl,hf,hbk⟩:=hrel
        obtain ⟨c6,d2⟩:=HPd.out wr hf
        by_cases hlt5:t<len+1
        ·have hat:∀ k,k<4→(∃ x,wr.cell? ⟨Cj,t*4+k,none⟩=some x)∧wr.frozen? ⟨Cj,t*4+k,none⟩=false:=fun k hk=>by
          have hkr:t*4+k<row.length:=by omega
          exact ⟨⟨_,row_cell hbk (over_at (l:=[.int .i64 (-8),.int .i64 0,.int .i64 0,.int .i64 0]) hkr (by simp))⟩,row_frozen hbk _⟩
         obtain ⟨⟨x0,y0⟩,f0⟩:=hat 0 (by decide)
         obtain ⟨⟨x1,y1⟩,f1⟩:=hat 1 (by decide)
         obtain ⟨⟨x2,y2⟩,f2⟩:=hat 2 (by decide)
         obtain ⟨⟨x3,y3⟩,f3⟩:=hat 3 (by decide)
         have HN4:Hid (Fr (fun b=>b=Cj) wq ((((wr.setCell ⟨Cj,t*4,none⟩ (.int .i64 (-8))).setCell ⟨Cj,t*4+1,none⟩ (.int .i64 0)).setCell ⟨Cj,t*4+2,none⟩ (.int .i64 0)).setCell ⟨Cj,t*4+3,none⟩ (.int .i64 0))∧((((wr.setCell ⟨Cj,t*4,none⟩ (.int .i64 (-8))).setCell ⟨Cj,t*4+1,none⟩ (.int .i64 0)).setCell ⟨Cj,t*4+2,none⟩ (.int .i64 0)).setCell ⟨Cj,t*4+3,none⟩ (.int .i64 0)).heap[Cj]? = some (.cells ((List.replicate (t+1) ([.int .i64 (-8),.int .i64 0,.int .i64 0,.int .i64 0]:List Value)).flatten++row.drop ((t+1)*4)).toArray 44 (0,0))):=by
          refine ⟨(((hf.setCell (p:=⟨Cj,t*4,none⟩) (Or.inr rfl) _).setCell (p:=⟨Cj,t*4+1,none⟩) (Or.inr rfl) _).setCell (p:=⟨Cj,t*4+2,none⟩) (Or.inr rfl) _).setCell (p:=⟨Cj,t*4+3,none⟩) (Or.inr rfl) _,?_⟩
          rw [blk_set (blk_set (blk_set (blk_set hbk _ _) _ _) _ _) _ _,over_set4 (by omega)]
         have ht0:(0:Int)≤(t:Int):=by omega
         have ht1:(t:Int)<(len:Int)+1:=by omega
         rw [Nat.add_zero] at y0 f0
         clear hat hbk hf
         go_wp2
         go_roundw
         case rel=>exact ⟨t+1,by omega,by go_num,HN4.out.1,HN4.out.2⟩
         case measure=>simp [intOf];omega
        ·have hte:t=len+1:=by omega
         subst hte
         have hbk':wr.heap[Cj]? = some (.cells (List.replicate (len+1) ([.int .i64 (-8),.int .i64 0,.int .i64 0,.int .i64 0]:List Value)).flatten.toArray 44 (0,0)):=by
          rw [hbk,List.drop_of_length_le (by omega),List.append_nil]
         obtain ⟨av,cw',vals,p1,p2,p3,p4,p5,p6⟩:=HPu.out wr hf hbk'
         have HRo:=hide p3
         have HP6:=hide p6
         have p2':wr.cell? ⟨p,5,none⟩=some (.slice av vals.length cw'):=p2
         have h63:vals.length+1≤maxLen:=by unfold maxLen;omega
         have hbytes:(vals.length+1)*24≤140737488355328:=by omega
         have hpr:p<wr.heap.size:=p5
         have hbr:base≤wr.heap.size:=p4
         clear hbk hbk' hf p1 p3 p4 p5 p6 p2 HPu HPd
         generalize vals.length=vn at *
         have HOw:Hid (((wr.alloc (.cells #[.slice (some ⟨Cj,0,none⟩) (len+1) (len+1)] 45)).drew).ownsRow base 45 1 (.slice av vn cw') vn vals):=(HRo.out.alloc _)
         have HNw:Hid (∀ (k:Nat) (u:Value),([.slice (some ⟨Cj,0,none⟩) (len+1) (len+1)]:List Value)[k]? = some u→((wr.alloc (.cells #[.slice (some ⟨Cj,0,none⟩) (len+1) (len+1)] 45)).drew).cell? ((⟨wr.heap.size,0,none⟩:Addr).add k)=some u):=fun k u hu=>cell_one_new wr _ _ k u hu
         have HOn:Hid (∀ u∈([.slice (some ⟨Cj,0,none⟩) (len+1) (len+1)]:List Value),u.oneCell'=true):=fun u hu=>by simp at hu;subst hu;rfl
         have HSz:Hid (base≤((wr.alloc (.cells #[.slice (some ⟨Cj,0,none⟩) (len+1) (len+1)] 45)).drew).heap.size∧((wr.alloc (.cells #[.slice (some ⟨Cj,0,none⟩) (len+1) (len+1)] 45)).drew).heap.size=wr.heap.size+1):=⟨by simp;omega,by simp⟩
         have HF6:Hid (∀ w2 gr gcap,w2.ownsRow base 45 1 (.slice (some ⟨gr,0,none⟩) (vn+1) gcap) (vn+1) (vals++[.slice (some ⟨Cj,0,none⟩) (len+1) (len+1)])→((wr.alloc (.cells #[.slice (some ⟨Cj,0,none⟩) (len+1) (len+1)] 45)).drew).grownBy w2 (Value.slice av vn cw').ownBlock→((Value.slice av vn cw').ownBlock=some gr∨gr=wr.heap.size+1)→(w2.cell? ⟨p,5,none⟩=some (.slice av vn cw')∧w2.frozen? ⟨p,5,none⟩=false)∧Ret base (boxed col w.heap.size) w1 p v0 c L n.sources.length (j+1) (w2.setCell ⟨p,5,none⟩ (.slice (some ⟨gr,0,none⟩) (vn+1) gcap))):=fun w2 gr gcap ho hg hor=>HP6.out w2 gr gcap _ (wr.heap.size+1) ho hg hor (by show wr.heap.size≤_;omega)
         clear HP6 HRo
         go_wp2
         go_region_law (refine step_append_lies _ rfl (.tmp 218) (.tmp 226) 24 rfl base 45 iC (.slice none 0 0) 1 24 Tryz.underlying24 hiC hC0 hC1 hC2 rfl (by decide) (.slice av vn cw') vn vals (by simp [Act.eval]) HOw.out ⟨wr.heap.size,0,none⟩ 1 1 [.slice (some ⟨Cj,0,none⟩) (len+1) (len+1)] (by simp [Act.eval]) rfl HNw.out HOn.out (by decide) h63 hbytes HSz.out.1 (wr.heap.size+1) HSz.out.2 ?_;intro gq gc w2 ho hgr hor hglt;obtain ⟨⟨yc,yf⟩,yr⟩:=HF6.out w2 gq gc ho hgr hor;have YR:=hide yr;clear ho hgr hor hglt yr)
         all_goals
          go_wp2
          go_roundw
          case rel=>exact ⟨j+1,by omega,rfl,by go_num,YR.out⟩
          case measure=>simp [intOf];omega
    ·have hje:j=n.workers.length:=by omega
     subst hje
     obtain ⟨c',hb1,ht1⟩:=hr.ex
     obtain ⟨cs,x1,x2, -, -, -, -⟩:=HBk.out.loan.src.ex
     obtain ⟨ds,y1,y2, -, -⟩:=HBk.out.loan.wks.ex
     have hfr:LoanFoot L n L.gr:=Or.inr (Or.inr (Or.inl rfl))
     have hfw:LoanFoot L n L.gw:=Or.inr (Or.inr (Or.inr (Or.inl rfl)))
     have zr:=HBk.out.loan.foot_lt hfr
     have zw:=HBk.out.loan.foot_lt hfw
     have hntr:=HNE.out.gr _ _ (Nat.le_refl n.sources.length) (Nat.le_refl n.workers.length)
     have hntw:=HNE.out.gw _ _ (Nat.le_refl n.sources.length) (Nat.le_refl n.workers.length)
     have er:=(HBk.out.keep hr hfr hntr).trans x1
     have ew:=(HBk.out.keep hr hfw hntw).trans y1
     have kr:c' L.gr=20:=(ht1.old _ zr.2 hntr).trans (HBk.out.col20 _ hfr).1
     have kw:c' L.gw=20:=(ht1.old _ zw.2 hntw).trans (HBk.out.col20 _ hfw).1
     have hszo:=ht1.fr.size
     have hrw:=HNE.out.rw
     have hqr:=HNE.out.qr
     have hqw:=HNE.out.qw
     have c5:=rd.c5
     have c7:=rd.c7
     have hlq:L.q<wr.heap.size:=lt_of_cell c5
     have HFn:Hid (∀ wp wz,Fr (fun b=>b=L.gr) wr wp→wp.heap[L.gr]? = some (.cells (List.replicate (n.sources.length+1) ([.int .i64 (-9),.slice none 0 0]:List Value)).flatten.toArray 42 (0,0))→Fr (fun b=>b=L.gw) wp wz→wz.heap[L.gw]? = some (.cells (List.replicate (n.workers.length+1) (Value.slice none 0 0)).toArray 45 (0,0)) →
       ∃ av cv vals,vals.length≤c+1+n.sources.length+n.workers.length∧wz.drew.cell? ⟨p,7,none⟩=some (.slice av vals.length cv)∧wz.drew.ownsRow base 23 1 (.slice av vals.length cv) vals.length vals∧base≤wz.drew.heap.size∧p<wz.drew.heap.size ∧
       ∀ w2 gr gcap o H,w2.ownsRow base 23 1 (.slice (some ⟨gr,0,none⟩) (vals.length+1) gcap) (vals.length+1) (vals++[.slice (some ⟨L.gr,0,none⟩) (n.sources.length+1) (n.sources.length+1)])→(wz.drew.alloc o).grownBy w2 (Value.slice av vals.length cv).ownBlock→((Value.slice av vals.length cv).ownBlock=some gr∨gr=H)→wz.drew.heap.size≤H →
        (w2.cell? ⟨p,7,none⟩=some (.slice av vals.length cv)∧w2.frozen? ⟨p,7,none⟩=false)∧Last base col w p v0 c L n (w2.setCell ⟨p,7,none⟩ (.slice (some ⟨gr,0,none⟩) (vals.length+1) gcap))):=fun wp wz hf1 hb1' hf2 hb2'=>by
      have hf2':Fr (fun b=>b=L.gw) wp wz.drew:=hf2.drewN 1
      have hgrz:wz.drew.heap[L.gr]? = wp.heap[L.gr]? := hf2'.block _ (lt_of_blk hb1') hrw
      have B2:=(hb1.write hf1 (by omega)).write hf2' (by omega)
      have T2:=(ht1.write hf1 (by omega)).write hf2' (by omega)
      have hqz:wz.drew.heap[L.q]? = wr.heap[L.q]? := (hf2'.block _ (Nat.lt_of_lt_of_le hlq hf1.size) hqw).trans (hf1.block _ hlq hqr)
      obtain ⟨av,cv,vals,p1,p2,p3,p4,p5,p6⟩:=push_open (r:=7) (g:=L.gr) (m:=n.sources.length+1) (u:=.slice (some ⟨L.gr,0,none⟩) (n.sources.length+1) (n.sources.length+1)) B2 T2 (by decide) (by decide) (by omega) zr.2 (by omega) (fun i=>flat_sl (w:=wz.drew) (hgrz.trans hb1') (by have:=hs.2.1;omega) (fun i k hk=>by
       have:k=0∨k=1:=by simp at hk;omega
       rcases this with rfl | rfl<;>rfl)) (fun b hb=>by simpa [Value.ownBlock] using hb.symm)
      refine ⟨av,cv,vals,p1,p2,p3,p4,p5,fun w2 gr gcap o H ho hg hor hH=>?_⟩
      obtain ⟨r1,c2,r2,r3,r4⟩:=p6 w2 gr gcap o H ho hg hor hH
      have hlw:L.gw<wz.drew.heap.size:=lt_of_blk (w:=wz.drew) hb2'
      have hlqz:L.q<wz.drew.heap.size:=by have:=hf1.size;have:=hf2'.size;omega
      have hcq:8<c' L.q:=by
       have hfq:LoanFoot L n L.q:=Or.inl rfl
       rw [ht1.old _ (HBk.out.loan.foot_lt hfq).2 (HNE.out.q _ _ (Nat.le_refl _) (Nat.le_refl _)),(HBk.out.col20 _ hfq).1];omega
      obtain ⟨r5,r6⟩:=r4 L.gw hlw (by omega)
      obtain ⟨-,r7⟩:=r4 L.q hlqz hcq
      have k2:8<c2 L.gw:=by rw [r5 (fun e=>hrw e.symm)];omega
      have B3:=r2.below (below_drewN (Below.refl _ _) 1)
      have T3:TurnS base (boxed col w.heap.size) c2 (fun b=>((turned L n.sources.length n.workers.length b∨b=L.gr)∨b=L.gw)∨b=L.gr) w1 (w2.setCell ⟨p,7,none⟩ (.slice (some ⟨gr,0,none⟩) (vals.length+1) gcap)).drew:=⟨r3.fr.drewN 1,r3.old,r3.new⟩
      obtain ⟨av',cv',vals',s1,s2,s3,s4,s5,s6⟩:=push_open (r:=6) (g:=L.gw) (m:=n.workers.length+1) (u:=.slice (some ⟨L.gw,0,none⟩) (n.workers.length+1) (n.workers.length+1)) B3 T3 (by decide) (by decide) (by omega) zw.2 k2 (fun i=>replicate_sl (w:=(w2.setCell ⟨p,7,none⟩ (.slice (some ⟨gr,0,none⟩) (vals.length+1) gcap)).drew) (r6.trans hb2') (by have:=hs.2.2.1;omega)) (fun b hb=>by simpa [Value.ownBlock] using hb.symm)
      refine ⟨r1,⟨(World.cell?_of_block (w:=wr) (a:=⟨L.q,7,none⟩) (r7.trans hqz)).trans c7,av',cv',vals',s1,s2,s3,s4,s5,fun w3 gr3 gcap3 o3 H3 ho3 hg3 hor3 hH3=>?_⟩⟩
      obtain ⟨t1,c3,t2,t3, -⟩:=s6 w3 gr3 gcap3 o3 H3 ho3 hg3 hor3 hH3
      refine ⟨t1,c3,?_,HBk.out.fin n.sources.length n.workers.length c3 _ (Nat.le_refl _) (Nat.le_refl _) (t3.mono fun b hb=>?_)⟩
      ·have e:c+n.sources.length+n.workers.length+3=c+1+n.sources.length+n.workers.length+1+1:=by omega
       rw [e];exact t2
      ·rcases hb with (((hb | hb) | hb) | hb) | hb
       ·exact Or.inl hb
       ·exact Or.inr (Or.inl hb)
       ·exact Or.inr (Or.inr hb)
       ·exact Or.inr (Or.inl hb)
       ·exact Or.inr (Or.inr hb)
     have HCq:Hid (∀ wp,Fr (fun b=>b=L.gr) wr wp→wp.cell? ⟨L.q,5,none⟩=some (.slice (some ⟨L.gr,0,none⟩) (n.sources.length+1) (n.sources.length+1))∧wp.cell? ⟨L.q,7,none⟩=some (.slice (some ⟨L.gw,0,none⟩) (n.workers.length+1) (n.workers.length+1))∧L.q<wp.heap.size∧wp.heap[L.gw]? = some (.cells ds.toArray 45 (0,0))):=fun wp hf=>by
      have hk:=hf.block _ hlq hqr
      exact ⟨(World.cell?_of_block (w:=wr) hk).trans c5,(World.cell?_of_block (w:=wr) hk).trans c7,Nat.lt_of_lt_of_le hlq hf.size,(hf.block _ (lt_of_blk ew) (fun e=>hrw e.symm)).trans ew⟩
     have ER:=hide er
     have hX2:=hide x2
     have hY2:=hide y2
     clear hr rd HWk HRd HNE HBk er ew kr kw x1 x2 y1 y2 hb1 ht1 zr zw hntr hntw hszo c5 c7 hlq b0 b1
     generalize wr=wo at *
     go_wp2
     go_loopw [15] (fun i wr=>∃ t:Nat,t≤n.sources.length+1∧i=.int .i64 t∧Fr (fun b=>b=L.gr) wo wr∧wr.heap[L.gr]? = some (.cells ((List.replicate t ([.int .i64 (-9),.slice none 0 0]:List Value)).flatten++cs.drop (t*2)).toArray 42 (0,0))) (fun i _=>n.sources.length+1-(intOf i).toNat)
     case atStart=>exact ⟨0,Nat.zero_le _,rfl,Fr.refl _ _,by simpa using ER.out⟩
     case round=>
      clear ER
      obtain ⟨t,ht,rfl,hf,hbk⟩:=hrel
      obtain ⟨c5,c7,hlq,hgw⟩:=HCq.out wr hf
      by_cases hlt5:t<n.sources.length+1
      ·have hat:∀ k,k<2→(∃ x,wr.cell? ⟨L.gr,t*2+k,none⟩=some x)∧wr.frozen? ⟨L.gr,t*2+k,none⟩=false:=fun k hk=>by
        have hkr:t*2+k<cs.length:=by have:=hX2.out;omega
        exact ⟨⟨_,row_cell hbk (over_at (l:=[.int .i64 (-9),.slice none 0 0]) hkr (by simp))⟩,row_frozen hbk _⟩
       obtain ⟨⟨x0,y0⟩,f0⟩:=hat 0 (by decide)
       obtain ⟨⟨x1,y1⟩,f1⟩:=hat 1 (by decide)
       have HN4:Hid (Fr (fun b=>b=L.gr) wo ((wr.setCell ⟨L.gr,t*2,none⟩ (.int .i64 (-9))).setCell ⟨L.gr,t*2+1,none⟩ (.slice none 0 0))∧((wr.setCell ⟨L.gr,t*2,none⟩ (.int .i64 (-9))).setCell ⟨L.gr,t*2+1,none⟩ (.slice none 0 0)).heap[L.gr]? = some (.cells ((List.replicate (t+1) ([.int .i64 (-9),.slice none 0 0]:List Value)).flatten++cs.drop ((t+1)*2)).toArray 42 (0,0))):=by
        refine ⟨(hf.setCell (p:=⟨L.gr,t*2,none⟩) (Or.inr rfl) _).setCell (p:=⟨L.gr,t*2+1,none⟩) (Or.inr rfl) _,?_⟩
        rw [blk_set (blk_set hbk _ _) _ _,over_set2 (by have:=hX2.out;omega)]
       have ht0:(0:Int)≤(t:Int):=by omega
       have ht1:(t:Int)<(n.sources.length:Int)+1:=by omega
       rw [Nat.add_zero] at y0 f0
       clear hat hbk hf hgw c7
       go_wp2
       go_roundw
       case rel=>exact ⟨t+1,by omega,by go_num,HN4.out.1,HN4.out.2⟩
       case measure=>simp [intOf];omega
      ·have hte:t=n.sources.length+1:=by omega
       subst hte
       have hbk':wr.heap[L.gr]? = some (.cells (List.replicate (n.sources.length+1) ([.int .i64 (-9),.slice none 0 0]:List Value)).flatten.toArray 42 (0,0)):=by
        rw [hbk,List.drop_of_length_le (by have:=hX2.out;omega),List.append_nil]
       have HF2:=hide (fun wz=>HFn.out wr wz hf hbk')
       have HGw:=hide hgw
       have hlgw:=lt_of_blk hgw
       clear hbk hbk' hf hgw HFn HCq
       have HCp:Hid (∀ wz,Fr (fun b=>b=L.gw) wr wz→wz.cell? ⟨L.q,7,none⟩=some (.slice (some ⟨L.gw,0,none⟩) (n.workers.length+1) (n.workers.length+1))∧wz.cell? ⟨L.q,5,none⟩=some (.slice (some ⟨L.gr,0,none⟩) (n.sources.length+1) (n.sources.length+1))):=fun wz hf=>
        ⟨(World.cell?_of_block (w:=wr) (hf.block _ hlq hqw)).trans c7,(World.cell?_of_block (w:=wr) (hf.block _ hlq hqw)).trans c5⟩
       clear c7 hlgw
       generalize wr=wp at *
       go_wp2
       clear c5
       go_loopw [16] (fun i wr=>∃ t:Nat,t≤n.workers.length+1∧i=.int .i64 t∧Fr (fun b=>b=L.gw) wp wr∧wr.heap[L.gw]? = some (.cells (List.replicate t (Value.slice none 0 0)++ds.drop t).toArray 45 (0,0))) (fun i _=>n.workers.length+1-(intOf i).toNat)
       case atStart=>exact ⟨0,Nat.zero_le _,rfl,Fr.refl _ _,by simpa using HGw.out⟩
       case round=>
        clear HGw
        obtain ⟨t,ht,rfl,hf,hbk⟩:=hrel
        obtain ⟨c7,c5⟩:=HCp.out wr hf
        by_cases hlt6:t<n.workers.length+1
        ·have hkr:t<ds.length:=by have:=hY2.out;omega
         have y0:=row_cell hbk (over_get hkr)
         have f0:=row_frozen hbk t
         have HN4:Hid (Fr (fun b=>b=L.gw) wp (wr.setCell ⟨L.gw,t,none⟩ (.slice none 0 0))∧(wr.setCell ⟨L.gw,t,none⟩ (.slice none 0 0)).heap[L.gw]? = some (.cells (List.replicate (t+1) (Value.slice none 0 0)++ds.drop (t+1)).toArray 45 (0,0))):=
          ⟨hf.setCell (p:=⟨L.gw,t,none⟩) (Or.inr rfl) _,setCell_over hbk hkr⟩
         have ht0:(0:Int)≤(t:Int):=by omega
         have ht1:(t:Int)<(n.workers.length:Int)+1:=by omega
         clear hbk hf c5
         generalize ds[t]=xx at *
         go_wp2
         go_roundw
         case rel=>exact ⟨t+1,by omega,by go_num,HN4.out.1,HN4.out.2⟩
         case measure=>simp [intOf];omega
        ·have hte:t=n.workers.length+1:=by omega
         subst hte
         have hbk':wr.heap[L.gw]? = some (.cells (List.replicate (n.workers.length+1) (Value.slice none 0 0)).toArray 45 (0,0)):=by
          rw [hbk,List.drop_of_length_le (by have:=hY2.out;omega),List.append_nil]
         obtain ⟨av,cv,vals,p1,p2,p3,p4,p5,p6⟩:=HF2.out wr hf hbk'
         have HRo:=hide p3
         have HP6:=hide p6
         have p2':wr.cell? ⟨p,7,none⟩=some (.slice av vals.length cv):=p2
         have h63:vals.length+1≤maxLen:=by unfold maxLen;omega
         have hbytes:(vals.length+1)*24≤140737488355328:=by omega
         have hpr:p<wr.heap.size:=p5
         have hbr:base≤wr.heap.size:=p4
         clear hbk hbk' hf p1 p3 p4 p5 p6 p2 HF2 HCp
         generalize vals.length=vn at *
         obtain ⟨iS,hiS,hS0,hS1,hS2⟩:=info_parts Tryz.infoLS
         have HOw:Hid (((wr.alloc (.cells #[.slice (some ⟨L.gr,0,none⟩) (n.sources.length+1) (n.sources.length+1)] 23)).drew).ownsRow base 23 1 (.slice av vn cv) vn vals):=(HRo.out.alloc _)
         have HNw:Hid (∀ (k:Nat) (u:Value),([.slice (some ⟨L.gr,0,none⟩) (n.sources.length+1) (n.sources.length+1)]:List Value)[k]? = some u→((wr.alloc (.cells #[.slice (some ⟨L.gr,0,none⟩) (n.sources.length+1) (n.sources.length+1)] 23)).drew).cell? ((⟨wr.heap.size,0,none⟩:Addr).add k)=some u):=fun k u hu=>cell_one_new wr _ _ k u hu
         have HOn:Hid (∀ u∈([.slice (some ⟨L.gr,0,none⟩) (n.sources.length+1) (n.sources.length+1)]:List Value),u.oneCell'=true):=fun u hu=>by simp at hu;subst hu;rfl
         have HSz:Hid (base≤((wr.alloc (.cells #[.slice (some ⟨L.gr,0,none⟩) (n.sources.length+1) (n.sources.length+1)] 23)).drew).heap.size∧((wr.alloc (.cells #[.slice (some ⟨L.gr,0,none⟩) (n.sources.length+1) (n.sources.length+1)] 23)).drew).heap.size=wr.heap.size+1):=⟨by simp;omega,by simp⟩
         have HF6:Hid (∀ w2 gr gcap,w2.ownsRow base 23 1 (.slice (some ⟨gr,0,none⟩) (vn+1) gcap) (vn+1) (vals++[.slice (some ⟨L.gr,0,none⟩) (n.sources.length+1) (n.sources.length+1)])→((wr.alloc (.cells #[.slice (some ⟨L.gr,0,none⟩) (n.sources.length+1) (n.sources.length+1)] 23)).drew).grownBy w2 (Value.slice av vn cv).ownBlock→((Value.slice av vn cv).ownBlock=some gr∨gr=wr.heap.size+1)→(w2.cell? ⟨p,7,none⟩=some (.slice av vn cv)∧w2.frozen? ⟨p,7,none⟩=false)∧Last base col w p v0 c L n (w2.setCell ⟨p,7,none⟩ (.slice (some ⟨gr,0,none⟩) (vn+1) gcap))):=fun w2 gr gcap ho hg hor=>HP6.out w2 gr gcap _ (wr.heap.size+1) ho hg hor (by show wr.heap.size≤_;omega)
         clear HP6 HRo
         go_upto_region 31 with fail
         go_cut [16] from 230 (fun v16 wc=>v16=.int .i64 (((n.workers.length+1:Nat):Int))∧Last base col w p v0 c L n wc)
         case first=>
          go_wp2
          go_region_law (refine step_append_lies _ rfl (.tmp 265) (.tmp 270) 33 rfl base 23 iS (.slice none 0 0) 1 24 Tryz.underlying33 hiS hS0 hS1 hS2 rfl (by decide) (.slice av vn cv) vn vals (by simp [Act.eval]) HOw.out ⟨wr.heap.size,0,none⟩ 1 1 [.slice (some ⟨L.gr,0,none⟩) (n.sources.length+1) (n.sources.length+1)] (by simp [Act.eval]) rfl HNw.out HOn.out (by decide) h63 hbytes HSz.out.1 (wr.heap.size+1) HSz.out.2 ?_;intro gq gc w2 ho hgr hor hglt;obtain ⟨⟨yc,yf⟩,yr⟩:=HF6.out w2 gq gc ho hgr hor;have YR:=hide yr;clear ho hgr hor hglt yr)
          all_goals
           go_wp2
           go_meet
           exact ⟨rfl,YR.out⟩
         case rest=>
          obtain ⟨rfl,hLast⟩:=hcut
          clear HOw HNw HOn HSz HF6 h63 hbytes c5 c7 p2' hpr hbr
          obtain ⟨iW,hiW,hW0,hW1,hW2⟩:=info_parts Tryz.infoLW
          have c7:=hLast.c7
          obtain ⟨av2,cv2,vals2,p1,p2,p3,hbr,hpr,p6⟩:=hLast.ex
          have HRo:=hide p3
          have HP6:=hide p6
          have h63:vals2.length+1≤maxLen:=by unfold maxLen;omega
          have hbytes:(vals2.length+1)*24≤140737488355328:=by omega
          clear hLast p1 p3 p6
          generalize vals2.length=vn2 at *
          have HOw:Hid (((wc.alloc (.cells #[.slice (some ⟨L.gw,0,none⟩) (n.workers.length+1) (n.workers.length+1)] 24)).drew).ownsRow base 24 1 (.slice av2 vn2 cv2) vn2 vals2):=(HRo.out.alloc _)
          have HNw:Hid (∀ (k:Nat) (u:Value),([.slice (some ⟨L.gw,0,none⟩) (n.workers.length+1) (n.workers.length+1)]:List Value)[k]? = some u→((wc.alloc (.cells #[.slice (some ⟨L.gw,0,none⟩) (n.workers.length+1) (n.workers.length+1)] 24)).drew).cell? ((⟨wc.heap.size,0,none⟩:Addr).add k)=some u):=fun k u hu=>cell_one_new wc _ _ k u hu
          have HOn:Hid (∀ u∈([.slice (some ⟨L.gw,0,none⟩) (n.workers.length+1) (n.workers.length+1)]:List Value),u.oneCell'=true):=fun u hu=>by simp at hu;subst hu;rfl
          have HSz:Hid (base≤((wc.alloc (.cells #[.slice (some ⟨L.gw,0,none⟩) (n.workers.length+1) (n.workers.length+1)] 24)).drew).heap.size∧((wc.alloc (.cells #[.slice (some ⟨L.gw,0,none⟩) (n.workers.length+1) (n.workers.length+1)] 24)).drew).heap.size=wc.heap.size+1):=⟨by simp;omega,by simp⟩
          have HF6:Hid (∀ w2 gr gcap,w2.ownsRow base 24 1 (.slice (some ⟨gr,0,none⟩) (vn2+1) gcap) (vn2+1) (vals2++[.slice (some ⟨L.gw,0,none⟩) (n.workers.length+1) (n.workers.length+1)])→((wc.alloc (.cells #[.slice (some ⟨L.gw,0,none⟩) (n.workers.length+1) (n.workers.length+1)] 24)).drew).grownBy w2 (Value.slice av2 vn2 cv2).ownBlock→((Value.slice av2 vn2 cv2).ownBlock=some gr∨gr=wc.heap.size+1)→(w2.cell? ⟨p,6,none⟩=some (.slice av2 vn2 cv2)∧w2.frozen? ⟨p,6,none⟩=false)∧∃ col',Bk base col' (w2.setCell ⟨p,6,none⟩ (.slice (some ⟨gr,0,none⟩) (vn2+1) gcap)) p v0 (c+n.sources.length+n.workers.length+3)∧Turned base col col' w (w2.setCell ⟨p,6,none⟩ (.slice (some ⟨gr,0,none⟩) (vn2+1) gcap))):=fun w2 gr gcap ho hg hor=>HP6.out w2 gr gcap _ (wc.heap.size+1) ho hg hor (by show wc.heap.size≤_;omega)
          clear HP6 HRo
          go_wp2
          go_region_law (refine step_append_lies _ rfl (.tmp 278) (.tmp 283) 32 rfl base 24 iW (.slice none 0 0) 1 24 Tryz.underlying32 hiW hW0 hW1 hW2 rfl (by decide) (.slice av2 vn2 cv2) vn2 vals2 (by simp [Act.eval]) HOw.out ⟨wc.heap.size,0,none⟩ 1 1 [.slice (some ⟨L.gw,0,none⟩) (n.workers.length+1) (n.workers.length+1)] (by simp [Act.eval]) rfl HNw.out HOn.out (by decide) h63 hbytes HSz.out.1 (wc.heap.size+1) HSz.out.2 ?_;intro gq gc w2 ho hgr hor hglt;obtain ⟨⟨yc,yf⟩,yr⟩:=HF6.out w2 gq gc ho hgr hor;have YR:=hide yr;clear ho hgr hor hglt yr)
          all_goals
           go_wp2
           go_ret
           exact ⟨rfl,YR.out⟩
end Go.Proofs.YthfdgdfnflilfaaGreatDoor

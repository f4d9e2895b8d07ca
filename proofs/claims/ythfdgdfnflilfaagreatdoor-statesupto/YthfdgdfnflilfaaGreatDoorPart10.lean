/- Part 10: RefN3, Race2, Workers7, Race3, Workers4. -/
import Derived.Test.YthfdgdfnflilfaaGreatDoorPart9
namespace Go.Proofs.YthfdgdfnflilfaaGreatDoor
open Go.RowKit Go.Conc
set_option maxRecDepth 100000 in
set_option maxHeartbeats 1000000 in
theorem refNew_out {n:Net} {v:Value} {w:World} (hn:NetAt w v n) (hok:validB n=false) :
  Calls Tryz.prog 14 #[v] w fun e w'=>e=.returned (.pointer none)∧Below w.heap.size w w':=by
 have HNet:Hid (∀ wx,Below w.heap.size w wx→Calls Tryz.prog 26 #[v] wx fun e w'=>e=.returned (.bool false)∧Below wx.heap.size wx w'):=fun wx hx=>by
  have:=refNet_calls (hn.below hx)
  rw [netB_eq,hok] at this
  exact this
 obtain ⟨vs,vr,vw,rfl,h1,h2,h3⟩:=hn
 obtain ⟨sa,sc,rfl⟩:=h1.form
 obtain ⟨ar,cr,rfl⟩:=h2.form
 obtain ⟨aw,cw,rfl⟩:=h3.form
 clear h1 h2 h3 hok
 go_enter Tryz.func14,Tryz.ntmps14
 go_wp2_with fail
 refine (unhide HNet _ ((Below.refl _ _).alloc (Nat.le_refl _) _)).mono ?_
 rintro e w1 ⟨rfl,hb1⟩
 have HB1:Hid (Below w.heap.size w w1):=((Below.refl _ _).alloc (Nat.le_refl _) _).trans (hb1.mono (by simp))
 clear hb1 HNet
 go_wp2
 go_ret
 exact ⟨rfl,HB1.out⟩
set_option maxRecDepth 100000 in
set_option maxHeartbeats 8000000 in
theorem refNew_calls {n:Net} {v:Value} {wz w:World} (hnc:NetAt wz v n) (hwc:Below wz.heap.size wz w) (hs:ShortNet n) (hok:validB n=true) :
  Calls Tryz.prog 14 #[v] w fun e w'=>∃ q,e=.returned (.pointer (some ⟨q,0,none⟩))∧RHas wz (fun b=>b<w.heap.size) q n (initR n n.streams) w'∧Below w.heap.size w w':=by
 have hn:NetAt w v n:=hnc.below hwc
 obtain ⟨iS,hiS,hS0,hS1,hS2⟩:=info_parts Tryz.infoRS
 obtain ⟨iW,hiW,hW0,hW1,hW2⟩:=info_parts Tryz.infoRW
 obtain ⟨iI,hiI,hI0,hI1,hI2⟩:=info_parts Tryz.info3
 obtain ⟨hc1,hc2,hc3,hc4⟩:=valid_counts hok
 have HNet:Hid (∀ wx,Below w.heap.size w wx→Calls Tryz.prog 26 #[v] wx fun e w'=>e=.returned (.bool true)∧Below wx.heap.size wx w'):=fun wx hx=>by
  have:=refNet_calls (hn.below hx)
  rw [netB_eq,hok] at this
  exact this
 have HUs:Hid (∀ (s:Nat) wx,Below w.heap.size w wx→Calls Tryz.prog 27 #[v,.int .i64 1,.int .i64 s] wx fun e w'=>e=.returned (.tuple #[.int .i64 (firstUser n.workers 1 s),.int .i64 (usersN n.workers 1 s)])∧Below wx.heap.size wx w'):=fun s wx hx=>user_calls 1 s (hn.below hx)
 have HSo:Hid (∀ (s:Nat) wx,Below w.heap.size w wx→Calls Tryz.prog 28 #[v,.int .i64 s] wx fun e w'=>e=.returned (.int .i64 (sourceIx n.sources s))∧Below wx.heap.size wx w'):=fun s wx hx=>source_calls s (hn.below hx)
 have hnt:∀ wx,Below w.heap.size w wx→NetAt wx v n:=fun wx hx=>hn.below hx
 obtain ⟨vs,vr,vw,rfl,h1,h2, -⟩:=hn
 obtain ⟨vs',vr',vw',e, -, -,h3⟩:=hnc
 cases e
 obtain ⟨sa,sc,rfl, -, -,hst⟩:=h1.openD
 obtain ⟨ar,cr,rfl, -, -,hsr⟩:=h2.openD
 obtain ⟨aw,cw,rfl, -, -,hwk⟩:=h3.openD
 have HSt:Hid (∀ k,k<n.streams.length→∃ b off,sa=some ⟨b,off,none⟩∧b<w.heap.size∧∀ wx,Below w.heap.size w wx→wx.cell? ⟨b,off+k,none⟩=some (.int .i64 (n.streams.getD k 0))):=hst
 have HSr:Hid (∀ k,k<n.sources.length→∃ b off a c,ar=some ⟨b,off,none⟩∧b<w.heap.size∧(∀ wx,Below w.heap.size w wx→wx.cell? ⟨b,off+k*2+1,none⟩=some (.slice a (n.sources.getD k ⟨0,[]⟩).words.length c))∧∀ wx,Below w.heap.size w wx→IntsAt wx (.slice a (n.sources.getD k ⟨0,[]⟩).words.length c) (n.sources.getD k ⟨0,[]⟩).words):=fun k hk=>by
  obtain ⟨b,off,u,ha,hb,hu,hc⟩:=hsr k hk
  obtain ⟨a,c,rfl⟩:=hu.form
  exact ⟨b,off,a,c,ha,hb,fun wx hx=>(hc wx hx).2,fun wx hx=>hu.below hx⟩
 have HWk:Hid (∀ k,k<n.workers.length→∃ b off a c,aw=some ⟨b,off,none⟩∧b<w.heap.size∧(∀ wx,Below w.heap.size w wx→wx.cell? ⟨b,off+k,none⟩=some (.slice a (codeOf n k).length c))∧CodeAt wz (.slice a (codeOf n k).length c) (codeOf n k)):=fun k hk=>by
  obtain ⟨b,off,u,ha,hb,hu,hc⟩:=hwk k hk
  obtain ⟨a,c,rfl⟩:=hu.form
  exact ⟨b,off,a,c,ha,Nat.lt_of_lt_of_le hb hwc.size,fun wx hx=>hc wx (hwc.trans (hx.mono hwc.size)),hu⟩
 have HWd:Hid (∀ k,k<n.sources.length→(n.sources.getD k ⟨0,[]⟩).words.length≤1048576):=fun k hk=>by rw [getD_eq _ _ _ hk];exact (hs.2.2.2.1 _ (List.getElem_mem hk)).1
 obtain ⟨bx,hbx⟩:∃ bx,bx=Obj.cells #[.slice sa n.streams.length sc,.slice ar n.sources.length cr,.slice aw n.workers.length cw] 26 (0,0):=⟨_,rfl⟩
 have HWc:=hide hwc
 clear h1 h2 h3 hst hsr hwk hnt hwc
 go_enter Tryz.func14,Tryz.ntmps14
 go_wp2_with fail
 refine (unhide HNet _ ((Below.refl _ _).alloc (Nat.le_refl _) _)).mono ?_
 rintro e w1 ⟨rfl,hb1⟩
 have hsz1:w.heap.size<w1.heap.size:=by have:=hb1.size;simp at this;omega
 have HB1:Hid (Below w.heap.size w w1):=((Below.refl _ _).alloc (Nat.le_refl _) _).trans (hb1.mono (by simp))
 have HR0:Hid (RefN wz w bx w.heap.size w1.heap.size n 0 0 (fun _=>.bool false) (fun _=>.bool false) (.slice none 0 0) (.slice none 0 0) (w1.alloc (.cells #[.slice none 0 0,.slice none 0 0] 84))):=by
  refine ⟨heapOld hsz1 ?_,heapNew rfl,⟨rfl,Or.inl ⟨rfl,rfl⟩⟩,fun s hs=>by omega,fun s t _ ht=>by omega,⟨rfl,Or.inl ⟨rfl,rfl⟩⟩,fun i hi=>by omega,HB1.out.alloc HB1.out.size _,hsz1,Nat.le_refl _⟩
  rw [hb1.block _ (by simp),hbx];exact heap_alloc_new _ _
 clear hb1 HNet HB1
 go_wp2
 generalize w1.alloc (.cells #[.slice none 0 0,.slice none 0 0] 84)=w2 at *
 generalize w1.heap.size=q at *
 go_loopw [5] (fun i wr=>∃ (k:Nat) (VW:Nat→Value) (vS:Value),k≤n.streams.length∧i=.int .i64 k∧RefN wz w bx w.heap.size q n k 0 VW (fun _=>.bool false) vS (.slice none 0 0) wr) (fun i _=>n.streams.length-(intOf i).toNat)
 case atStart=>exact ⟨0,_,_,Nat.zero_le _,rfl,HR0.out⟩
 case round=>
  clear HR0
  obtain ⟨k,VW,vS,hk,rfl,hr⟩:=hrel
  have t0:=hr.box
  rw [hbx] at t0
  obtain ⟨b0, -⟩:=blk_cell (l:=[_,_,_]) t0 0 _ rfl
  obtain ⟨b1, -⟩:=blk_cell (l:=[_,_,_]) t0 1 _ rfl
  obtain ⟨b2, -⟩:=blk_cell (l:=[_,_,_]) t0 2 _ rfl
  by_cases hlt:k<n.streams.length
  ·obtain ⟨b,off,hsa,hbl,hcell⟩:=HSt.out k hlt
   have HCe:=hide hcell
   have HUs1:=hide (HUs.out k wr hr.below)
   have HR:=hide hr
   have T0:=hide t0
   have hszr:=lt_of_blk t0
   have hk0:(0:Int)≤(k:Int):=by omega
   have hk1:(k:Int)<(n.streams.length:Int):=by omega
   have HUF:Hid (decide (0≤firstUser n.workers 1 k)=used n k):=used_first n k
   subst hsa
   clear hcell hr t0 HSt HUs
   generalize firstUser n.workers 1 k=fu at *
   generalize (usersN n.workers 1 k:Int)=un at *
   go_wp2_with fail
   refine (unhide HUs1).mono ?_
   rintro e w3 ⟨rfl,hb3⟩
   have hbw3:Below w.heap.size w w3:=HR.out.below.trans (hb3.mono HR.out.below.size)
   have d0:=HCe.out w3 hbw3
   have t3:=(hb3.block _ hszr).trans T0.out
   obtain ⟨b0, -⟩:=blk_cell (l:=[_,_,_]) t3 0 _ rfl
   obtain ⟨b1, -⟩:=blk_cell (l:=[_,_,_]) t3 1 _ rfl
   obtain ⟨b2, -⟩:=blk_cell (l:=[_,_,_]) t3 2 _ rfl
   have HB3:=hide hb3
   have hsz3:w.heap.size<w3.heap.size:=by have:=hb3.size;omega
   have HBW3:=hide hbw3
   have HSo1:Hid (∀ o,Calls Tryz.prog 28 #[.agg #[.slice (some ⟨b,off,none⟩) n.streams.length sc,.slice ar n.sources.length cr,.slice aw n.workers.length cw],.int .i64 k] (w3.alloc o) fun e w'=>e=.returned (.int .i64 (sourceIx n.sources k))∧Below (w3.alloc o).heap.size (w3.alloc o) w'):=fun o=>HSo.out k _ (hbw3.alloc (by omega) o)
   clear hb3 hbw3 t3 HUs1 HSo
   have huf:=HUF.out
   have hrm:n.streams.getD k 0=n.streams.getD k 0:=rfl
   clear hrm
   generalize hrm:n.streams.getD k 0=rm at *
   have HRM:=hide hrm
   clear hrm
   go_wp2_with fail
   refine (unhide HSo1 _).mono ?_
   rintro e w4 ⟨rfl,hb4⟩
   have hsz4:w3.heap.size<w4.heap.size:=by have:=hb4.size;simp at this;omega
   have tx:w4.heap[w3.heap.size]? = some (.cells #[.bool false,.bool (used n k),.slice none 0 0,.int .i64 0,.int .i64 rm] 88 (0,0)):=by
    rw [hb4.block _ (by simp)];exact heap_alloc_new _ _
   have t4:w4.heap[w.heap.size]? = some (.cells #[.slice (some ⟨b,off,none⟩) n.streams.length sc,.slice ar n.sources.length cr,.slice aw n.workers.length cw] 26 (0,0)):=by
    rw [hb4.block _ (by simp;omega),Below.heap_alloc _ _ _ hsz3,HB3.out.block _ hszr];exact T0.out
   have hbr4:Below wr.heap.size wr w4:=(HB3.out.alloc HB3.out.size _).trans (hb4.mono (by have:=HB3.out.size;simp;omega))
   have hbw4:Below w.heap.size w w4:=HR.out.below.trans (hbr4.mono HR.out.below.size)
   have hszr3:=HB3.out.size
   have TX:=hide tx
   have T4:=hide t4
   have HBR4:=hide hbr4
   have HBW4:=hide hbw4
   clear hb4 tx t4 hbr4 hbw4 HSo1 d0 b0 b1 b2 HCe T0 HBW3 huf
   generalize hxb:w3.heap.size=xb at *
   have HIS:=hide (init0_s k hlt)
   go_upto_if 42 with fail
   go_cut [9] from 17 to 63 (fun v9 wc=>(∃ x:Int,v9=.int .i64 x)∧XAt wr xb n k wc)
   case first=>
    by_cases hsx:0≤sourceIx n.sources k
    ·obtain ⟨ks,hks⟩:=Int.eq_ofNat_of_zero_le hsx
     obtain ⟨hkl,hsd,hwd⟩:=src_words n k ks hks
     obtain ⟨b',off',a',c',har,hbl',hcell',hints⟩:=HSr.out ks hkl
     have hml:=HWd.out ks hkl
     have HXF:Hid (∀ (av:Option Addr) (cv:Nat) (w6:World),w6.ownsRow xb 3 1 (.slice av (n.sources.getD ks ⟨0,[]⟩).words.length cv) (n.sources.getD ks ⟨0,[]⟩).words.length (intRow (n.sources.getD ks ⟨0,[]⟩).words)→w6.heap[xb]? = some (.cells #[.bool true,.bool (used n k),.slice none 0 0,.int .i64 0,.int .i64 rm] 88 (0,0))→Below wr.heap.size wr w6→XAt wr xb n k (w6.setCell ⟨xb,2,none⟩ (.slice av (n.sources.getD ks ⟨0,[]⟩).words.length cv))):=fun av cv w6 ho hx6 hb6=>by
      have hx:=blk_set (l:=[_,_,_,_,_]) hx6 2 (.slice av (n.sources.getD ks ⟨0,[]⟩).words.length cv)
      have ewd:((initR n n.streams).s k).words=(n.sources.getD ks ⟨0,[]⟩).words:=by rw [HIS.out,hsd,hwd];rfl
      refine ⟨⟨av,cv,?_,?_⟩,hb6.setCell (p:=⟨xb,2,none⟩) (by show wr.heap.size≤xb;omega) _⟩
      ·rw [ewd,hsd,HRM.out];exact hx
      ·rw [ewd]
       refine own_lower (own_of_blockB ho fun g hg=>heap_setCell_other _ _ _ _ ?_) (by omega)
       obtain ⟨cur,hcu⟩:=own_blockB ho hg
       exact ne_of_types hcu hx6 (by decide)
     rw [hks]
     obtain ⟨x0,xf0⟩:=blk_cell (l:=[_,_,_,_,_]) TX.out 0 _ rfl
     have hx0:(0:Int)≤(ks:Int):=by omega
     have TY:Hid ((w4.setCell ⟨xb,0,none⟩ (.bool true)).heap[xb]? = some (.cells #[.bool true,.bool (used n k),.slice none 0 0,.int .i64 0,.int .i64 rm] 88 (0,0))):=blk_set (l:=[_,_,_,_,_]) TX.out 0 _
     have T5:Hid ((w4.setCell ⟨xb,0,none⟩ (.bool true)).heap[w.heap.size]? = some (.cells #[.slice (some ⟨b,off,none⟩) n.streams.length sc,.slice ar n.sources.length cr,.slice aw n.workers.length cw] 26 (0,0))):=(heap_setCell_other _ _ _ _ (by show w.heap.size≠xb;omega)).trans T4.out
     have HBR5:Hid (Below wr.heap.size wr (w4.setCell ⟨xb,0,none⟩ (.bool true))):=HBR4.out.setCell (p:=⟨xb,0,none⟩) (by show wr.heap.size≤xb;omega) _
     have HBW5:Hid (Below w.heap.size w (w4.setCell ⟨xb,0,none⟩ (.bool true))):=HBW4.out.setCell (p:=⟨xb,0,none⟩) (by show w.heap.size≤xb;omega) _
     have hsz5:xb<(w4.setCell ⟨xb,0,none⟩ (.bool true)).heap.size:=by simpa using hsz4
     clear TX T4 HBR4 HBW4
     go_upto_region 13 with fail
     generalize w4.setCell ⟨xb,0,none⟩ (.bool true)=w5 at *
     clear x0 xf0
     obtain ⟨x2,xf2⟩:=blk_cell (l:=[_,_,_,_,_]) TY.out 2 _ rfl
     obtain ⟨b1, -⟩:=blk_cell (l:=[_,_,_]) T5.out 1 _ rfl
     have d1:=hcell' w5 HBW5.out
     have hkx:(ks:Int)<(n.sources.length:Int):=by omega
     have hin:=hints w5.drew (HBW5.out.drew)
     have HNw:Hid (0<(n.sources.getD ks ⟨0,[]⟩).words.length→∃ ad:Addr,a'=some ad∧∀ j u,(intRow (n.sources.getD ks ⟨0,[]⟩).words)[j]? = some u→w5.drew.cell? (ad.add j)=some u):=fun h0=>by
      obtain ⟨ad,e1, -,e2⟩:=ints_cells hin h0
      exact ⟨ad,e1,e2 _ (Below.refl _ _)⟩
     have HLn:Hid ((intRow (n.sources.getD ks ⟨0,[]⟩).words).length=(n.sources.getD ks ⟨0,[]⟩).words.length*1):=by unfold Hid;rw [intRow_length,Nat.mul_one]
     have h1c:=intRow_one (n.sources.getD ks ⟨0,[]⟩).words
     have h63:(n.sources.getD ks ⟨0,[]⟩).words.length≤maxLen:=by unfold maxLen;omega
     have hby:(n.sources.getD ks ⟨0,[]⟩).words.length*8≤140737488355328:=by omega
     subst har
     clear hcell' hints hin hwd hsd hml hks hsx T5 HSr HWd
     generalize hws:intRow (n.sources.getD ks ⟨0,[]⟩).words=ws at *
     clear hws
     generalize (n.sources.getD ks ⟨0,[]⟩).words.length=len at *
     go_wp2
     refine wp_region_still_tail 8 Tryz.mixed (by kernel_rfl) ?_
     simp only [List.take_succ_cons,List.take_zero,List.drop_succ_cons,List.drop_zero]
     iterate 8 still_step
     refine wpStill_nil ?_
     show wpList _ _ _ _ _ w5.drew
     go_wp2_with (at_builtin;refine wpList_append_fresh rfl _ (.tmp 51) 22 rfl 3 iI (.int .i64 0) 1 8 Tryz.underlying22 hiI hI0 hI1 hI2 rfl (by decide) a' len c' ws rfl rfl HLn.out HNw.out h1c h63 hby ?_)
     intro av cv w6 hown hb6
     have ty6:w6.heap[xb]? = some (.cells #[.bool true,.bool (used n k),.slice none 0 0,.int .i64 0,.int .i64 rm] 88 (0,0)):=(hb6.block _ (by show xb<w5.heap.size;exact hsz5)).trans TY.out
     have HX6:=hide (HXF.out av cv w6 (own_lower hown (by show xb≤w5.heap.size;omega)) ty6 (HBR5.out.trans ⟨hb6.os,hb6.tape,hb6.output,hb6.size,fun g hg=>hb6.block g (Nat.lt_of_lt_of_le hg HBR5.out.size)⟩))
     obtain ⟨y2,yf2⟩:=blk_cell (l:=[_,_,_,_,_]) ty6 2 _ rfl
     clear hown hb6 ty6 HXF x2 xf2 b1 d1 HNw HLn h1c
     go_wp2
     go_meet
     exact ⟨⟨_,rfl⟩,HX6.out⟩
    ·have hsd:srcd n k=false:=by
      rw [srcd, ← source_none];simpa using hsx
     have hsx':sourceIx n.sources k<0:=by omega
     have HX6:Hid (XAt wr xb n k w4):=by
      have ewd:((initR n n.streams).s k).words=[]:=by rw [HIS.out,hsd];rfl
      refine ⟨⟨none,0,?_,?_⟩,HBR4.out⟩
      ·rw [ewd,hsd,HRM.out];exact TX.out
      ·rw [ewd];exact ⟨rfl,Or.inl ⟨rfl,rfl⟩⟩
     clear hsx hsd
     generalize sourceIx n.sources k=sx at *
     go_wp2
     go_meet
     exact ⟨⟨_,rfl⟩,HX6.out⟩
   case rest=>
    obtain ⟨⟨sx,rfl⟩,hX⟩:=hcut
    obtain ⟨a',c',hx1,hx2⟩:=hX.ex
    have hxb2:=hX.below
    rw [HRM.out] at hx1
    have hl5:(sCells n ((initR n n.streams).s k) k (.slice a' ((initR n n.streams).s k).words.length c'))=[.bool (srcd n k),.bool (used n k),.slice a' ((initR n n.streams).s k).words.length c',.int .i64 0,.int .i64 rm]:=by
     have hr0:((initR n n.streams).s k).read=0:=by rw [HIS.out]
     have hr1:(((initR n n.streams).s k).room:Int)=rm:=by
      have:=valid_room0 hok k hlt
      rw [HIS.out];show ((n.streams.getD k 0).toNat:Int)=rm
      rw [HRM.out] at this ⊢;omega
     unfold sCells;rw [hr0,hr1];rfl
    obtain ⟨av,cv,hv⟩:=own_slice HR.out.rowS
    subst hv
    have hrow:wc.ownsRow (q+1) 88 5 (.slice av k cv) k ((List.range k).flatMap fun s=>sCells n ((initR n n.streams).s s) s (VW s)):=own_of_blockB HR.out.rowS fun g hg=>hxb2.block g (HR.out.rowS.lt g hg).2
    have hqb:=(hxb2.block _ (lt_of_blk HR.out.blk)).trans HR.out.blk
    have hqlt:=lt_of_blk hqb
    obtain ⟨c0,f0⟩:=blk_cell (l:=[_,_]) hqb 0 _ rfl
    obtain ⟨x0, -⟩:=blk_cell (l:=[_,_,_,_,_]) hx1 0 _ rfl
    obtain ⟨x1, -⟩:=blk_cell (l:=[_,_,_,_,_]) hx1 1 _ rfl
    obtain ⟨x2, -⟩:=blk_cell (l:=[_,_,_,_,_]) hx1 2 _ rfl
    obtain ⟨x3, -⟩:=blk_cell (l:=[_,_,_,_,_]) hx1 3 _ rfl
    obtain ⟨x4, -⟩:=blk_cell (l:=[_,_,_,_,_]) hx1 4 _ rfl
    have hxl:=lt_of_blk hx1
    have h63:k+1≤maxLen:=by unfold maxLen;omega
    have hbytes:(k+1)*48≤140737488355328:=by omega
    have hq1:q+1≤wc.heap.size:=hqlt
    have HFn:Hid (∀ w6 g cap,w6.ownsRow (q+1) 88 5 (.slice (some ⟨g,0,none⟩) (k+1) cap) (k+1) ((List.range k).flatMap (fun s=>sCells n ((initR n n.streams).s s) s (VW s))++[.bool (srcd n k),.bool (used n k),.slice a' ((initR n n.streams).s k).words.length c',.int .i64 0,.int .i64 rm])→((wc.alloc (.cells #[.bool (srcd n k),.bool (used n k),.slice a' ((initR n n.streams).s k).words.length c',.int .i64 0,.int .i64 rm] 88)).drew).grownBy w6 (Value.slice av k cv).ownBlock →
      (w6.cell? ⟨q,0,none⟩=some (.slice av k cv)∧w6.frozen? ⟨q,0,none⟩=false)∧∃ VW',RefN wz w bx w.heap.size q n (k+1) 0 VW' (fun _=>.bool false) (.slice (some ⟨g,0,none⟩) (k+1) cap) (.slice none 0 0) (w6.setCell ⟨q,0,none⟩ (.slice (some ⟨g,0,none⟩) (k+1) cap))):=fun w6 g cap ho hg=>by
     rw [← hl5] at ho
     obtain ⟨r1, -,r3⟩:=HR.out.nextS (wA:=wc.drew) hxb2.drew hx2 ho hg
     have r1':=r1.trans HR.out.blk
     exact ⟨blk_cell (l:=[_,_]) r1' 0 _ rfl,_,r3⟩
    have HRo:=hide hrow
    clear hX hx1 hx2 hxb2 hl5 hrow hqb
    generalize hrS:(List.range k).flatMap (fun s=>sCells n ((initR n n.streams).s s) s (VW s))=rS at *
    clear hrS
    generalize ((initR n n.streams).s k).words.length=len at *
    have HOw:Hid (((wc.alloc (.cells #[.bool (srcd n k),.bool (used n k),.slice a' len c',.int .i64 0,.int .i64 rm] 88)).drew).ownsRow (q+1) 88 5 (.slice av k cv) k rS):=(HRo.out.alloc _)
    have HNw:Hid (∀ (j:Nat) (u:Value),([.bool (srcd n k),.bool (used n k),.slice a' len c',.int .i64 0,.int .i64 rm]:List Value)[j]? = some u→((wc.alloc (.cells #[.bool (srcd n k),.bool (used n k),.slice a' len c',.int .i64 0,.int .i64 rm] 88)).drew).cell? ((⟨wc.heap.size,0,none⟩:Addr).add j)=some u):=fun j u hu=>World.news_of_block (w:=((wc.alloc (.cells #[.bool (srcd n k),.bool (used n k),.slice a' len c',.int .i64 0,.int .i64 rm] 88)).drew)) (B:=wc.heap.size) (heap_alloc_new wc _) j u (by simpa using hu)
    have HOn:Hid (∀ u∈([.bool (srcd n k),.bool (used n k),.slice a' len c',.int .i64 0,.int .i64 rm]:List Value),u.oneCell'=true):=fun u hu=>by
     simp only [List.mem_cons,List.not_mem_nil,or_false] at hu
     rcases hu with rfl | rfl | rfl | rfl | rfl<;>rfl
    have HSz:Hid (q+1≤((wc.alloc (.cells #[.bool (srcd n k),.bool (used n k),.slice a' len c',.int .i64 0,.int .i64 rm] 88)).drew).heap.size∧((wc.alloc (.cells #[.bool (srcd n k),.bool (used n k),.slice a' len c',.int .i64 0,.int .i64 rm] 88)).drew).heap.size=wc.heap.size+1):=⟨by simp;omega,by simp⟩
    clear HRo HR HBR4 HBW4 TX T4 HIS
    go_wp2
    go_region_law (refine step_append_lies _ rfl (.tmp 58) (.tmp 60) 81 rfl (q+1) 88 iS (.agg #[.bool false,.bool false,.slice none 0 0,.int .i64 0,.int .i64 0]) 5 48 Tryz.underlying81 hiS hS0 hS1 hS2 rfl (by decide) (.slice av k cv) k rS (by simp [Act.eval]) HOw.out ⟨wc.heap.size,0,none⟩ 1 1 [.bool (srcd n k),.bool (used n k),.slice a' len c',.int .i64 0,.int .i64 rm] (by simp [Act.eval]) rfl HNw.out HOn.out (by decide) h63 hbytes HSz.out.1 (wc.heap.size+1) HSz.out.2 ?_;intro gq gc w6 ho hgr hor hglt;obtain ⟨⟨yc,yf⟩,yr⟩:=HFn.out w6 gq gc ho hgr;have YR:=hide yr;clear ho hgr hor hglt yr)
    all_goals
     go_wp2
     go_roundw
     case rel=>
      obtain ⟨VW',yr⟩:=YR.out
      exact ⟨k+1,VW',_,by omega,by go_num,yr⟩
     case measure=>simp [intOf];omega
  ·have hke:k=n.streams.length:=by omega
   subst hke
   have HR:=hide hr
   clear t0 hr HSt HSr HUs HSo HWd
   go_wp2
   clear b0 b1 b2
   go_loopw [10] (fun i wr=>∃ (j:Nat) (VC:Nat→Value) (vW:Value),j≤n.workers.length∧i=.int .i64 j∧RefN wz w bx w.heap.size q n n.streams.length j VW VC vS vW wr) (fun i _=>n.workers.length-(intOf i).toNat)
   case atStart=>exact ⟨0,_,_,Nat.zero_le _,rfl,HR.out⟩
   case round=>
    clear HR
    obtain ⟨j,VC,vW,hj,rfl,hr⟩:=hrel
    have t0:=hr.box
    rw [hbx] at t0
    obtain ⟨b2, -⟩:=blk_cell (l:=[_,_,_]) t0 2 _ rfl
    by_cases hlt2:j<n.workers.length
    ·obtain ⟨b,off,a',c',haw,hbl,hcell,hcode⟩:=HWk.out j hlt2
     have d0:=hcell wr hr.below
     obtain ⟨av,cv,hv⟩:=own_slice hr.rowW
     subst hv
     have hqlt:=lt_of_blk hr.blk
     obtain ⟨c1,f1⟩:=blk_cell (l:=[_,_]) hr.blk 1 _ rfl
     have hj0:(0:Int)≤(j:Int):=by omega
     have hj1:(j:Int)<(n.workers.length:Int):=by omega
     have h63:j+1≤maxLen:=by unfold maxLen;omega
     have hbytes:(j+1)*72≤140737488355328:=by omega
     have HFn:Hid (∀ w6 g cap,w6.ownsRow (q+1) 92 7 (.slice (some ⟨g,0,none⟩) (j+1) cap) (j+1) ((List.range j).flatMap (fun i=>wCells (VC i) ⟨0,fun _=>0,0⟩)++[.slice a' (codeOf n j).length c',.int .i64 0,.int .i64 0,.int .i64 0,.int .i64 0,.int .i64 0,.int .i64 0])→((wr.alloc (.cells #[.slice a' (codeOf n j).length c',.int .i64 0,.int .i64 0,.int .i64 0,.int .i64 0,.int .i64 0,.int .i64 0] 92)).drew).grownBy w6 (Value.slice av j cv).ownBlock →
       (w6.cell? ⟨q,1,none⟩=some (.slice av j cv)∧w6.frozen? ⟨q,1,none⟩=false)∧∃ VC',RefN wz w bx w.heap.size q n n.streams.length (j+1) VW VC' vS (.slice (some ⟨g,0,none⟩) (j+1) cap) (w6.setCell ⟨q,1,none⟩ (.slice (some ⟨g,0,none⟩) (j+1) cap))):=fun w6 g cap ho hg=>by
      obtain ⟨r1,r3⟩:=hr.nextW hcode ho hg
      have r1':=r1.trans hr.blk
      exact ⟨blk_cell (l:=[_,_]) r1' 1 _ rfl,_,r3⟩
     have HRo:=hide hr.rowW
     have hwl:=lt_of_cell d0
     have hszr:=lt_of_blk t0
     subst haw
     clear hr hcode hcell t0 HWk
     generalize hrW:(List.range j).flatMap (fun i=>wCells (VC i) ⟨0,fun _=>0,0⟩)=rW at *
     clear hrW
     generalize (codeOf n j).length=len at *
     have HOw:Hid (((wr.alloc (.cells #[.slice a' len c',.int .i64 0,.int .i64 0,.int .i64 0,.int .i64 0,.int .i64 0,.int .i64 0] 92)).drew).ownsRow (q+1) 92 7 (.slice av j cv) j rW):=(HRo.out.alloc _)
     have HNw:Hid (∀ (j:Nat) (u:Value),([.slice a' len c',.int .i64 0,.int .i64 0,.int .i64 0,.int .i64 0,.int .i64 0,.int .i64 0]:List Value)[j]? = some u→((wr.alloc (.cells #[.slice a' len c',.int .i64 0,.int .i64 0,.int .i64 0,.int .i64 0,.int .i64 0,.int .i64 0] 92)).drew).cell? ((⟨wr.heap.size,0,none⟩:Addr).add j)=some u):=fun j u hu=>World.news_of_block (w:=((wr.alloc (.cells #[.slice a' len c',.int .i64 0,.int .i64 0,.int .i64 0,.int .i64 0,.int .i64 0,.int .i64 0] 92)).drew)) (B:=wr.heap.size) (heap_alloc_new wr _) j u (by simpa using hu)
     have HOn:Hid (∀ u∈([.slice a' len c',.int .i64 0,.int .i64 0,.int .i64 0,.int .i64 0,.int .i64 0,.int .i64 0]:List Value),u.oneCell'=true):=fun u hu=>by
      simp only [List.mem_cons,List.not_mem_nil,or_false] at hu
      rcases hu with rfl | rfl | rfl | rfl | rfl | rfl | rfl<;>rfl
     have HSz:Hid (q+1≤((wr.alloc (.cells #[.slice a' len c',.int .i64 0,.int .i64 0,.int .i64 0,.int .i64 0,.int .i64 0,.int .i64 0] 92)).drew).heap.size∧((wr.alloc (.cells #[.slice a' len c',.int .i64 0,.int .i64 0,.int .i64 0,.int .i64 0,.int .i64 0,.int .i64 0] 92)).drew).heap.size=wr.heap.size+1):=⟨by simp;omega,by simp⟩
     clear HRo
     go_wp2
     go_region_law (refine step_append_lies _ rfl (.tmp 75) (.tmp 82) 82 rfl (q+1) 92 iW (.agg #[.slice none 0 0,.int .i64 0,.int .i64 0,.int .i64 0,.int .i64 0,.int .i64 0,.int .i64 0]) 7 72 Tryz.underlying82 hiW hW0 hW1 hW2 rfl (by decide) (.slice av j cv) j rW (by simp [Act.eval]) HOw.out ⟨wr.heap.size,0,none⟩ 1 1 [.slice a' len c',.int .i64 0,.int .i64 0,.int .i64 0,.int .i64 0,.int .i64 0,.int .i64 0] (by simp [Act.eval]) rfl HNw.out HOn.out (by decide) h63 hbytes HSz.out.1 (wr.heap.size+1) HSz.out.2 ?_;intro gq gc w6 ho hgr hor hglt;obtain ⟨⟨yc,yf⟩,yr⟩:=HFn.out w6 gq gc ho hgr;have YR:=hide yr;clear ho hgr hor hglt yr)
     all_goals
      go_wp2
      go_roundw
      case rel=>
       obtain ⟨VC',yr⟩:=YR.out
       exact ⟨j+1,VC',_,by omega,by go_num,yr⟩
      case measure=>simp [intOf];omega
    ·have hje:j=n.workers.length:=by omega
     subst hje
     have HFin:=hide (hr.done HWc.out hok)
     have HFb:=hide hr.below
     clear hr t0 HWk
     go_wp2
     go_ret
     exact ⟨q,rfl,HFin.out,HFb.out⟩
theorem RaceAt.below {L:Lay} {w w':World} {N:Net} {R:Rc} (h:RaceAt L w N R) (hb:Below w.heap.size w w'):RaceAt L w' N R:=by
 obtain ⟨g,cap,hv,cs,hg,hcs⟩:=h.rowW
 exact ⟨by rw [hb.block _ (lt_of_blk h.blk)];exact h.blk,h.env.below hb,⟨g,cap,hv,cs,by rw [hb.block _ (lt_of_blk hg)];exact hg,hcs⟩,fun k hk=>(h.wk k hk).below hb,h.ch,h.injS,h.injW,h.lenW,h.lenS,h.ok⟩
theorem chan_ne_cells {w:World} {a b:Nat} {c:Array Value} {s:TypeId} {f:Nat×Nat} {cap:Nat} {buf:Array Value} {cl tm:Bool} {x y:Nat} (hb:w.heap[b]? = some (.chan cap buf cl x y tm)) (ha:w.heap[a]? = some (.cells c s f)):b≠a:=fun e=>ne_of_chan ha hb e.symm
theorem RaceAt.upd {L:Lay} {w w':World} {N:Net} {R:Rc} (h:RaceAt L w N R) {k s:Nat} (hk:k<N.workers.length) (hs:s<N.streams.length) {vw':Value} {y:Wk} {m':Sm}
  (hw':WkAt w' (L.wb k) (L.VC k) (codeOf N k) y) (hst:StAt w' (L.st s) vw' (L.CH s) (srcd N s) m')
  (hvw:∀ g,vw'.ownBlock=some g→(L.VW s).ownBlock=some g∨w.heap.size≤g)
  (hf:Fr (fun x=>x=L.wb k∨x=L.st s∨(L.VW s).ownBlock=some x∨L.CH s=some x) w w') :
  RaceAt { L with VW:=fun t=>if t=s then vw' else L.VW t} w' N ⟨R.W.set k y,R.S.set s m'⟩:=by
 have hwb:=(h.wk k hk).blk
 have hsA:=h.env.at' s hs
 have hsb:=hsA.blk
 have kept:∀ z,z<w.heap.size→z≠L.wb k→z≠L.st s→(∀ g,(L.VW s).ownBlock=some g→z≠g)→(∀ c,L.CH s=some c→z≠c)→w'.heap[z]? = w.heap[z]? := fun z hz e1 e2 e3 e4=>
  hf.block z hz (fun hh=>hh.elim e1 (fun hh=>hh.elim e2 (fun hh=>hh.elim (fun hh=>e3 z hh rfl) (fun hh=>e4 z hh rfl))))
 have keptC:∀ (z:Nat) (c:Array Value) (t:TypeId) (f:Nat×Nat),w.heap[z]? = some (.cells c t f)→t≠139→t≠111→t≠3→w'.heap[z]? = w.heap[z]? := fun z c t f hz e1 e2 e3=>
  kept z (lt_of_blk hz) (ne_of_types hz hwb e1) (ne_of_types hz hsb e2)
   (fun g hg=>by obtain ⟨cur,hc⟩:=own_block hsA.own hg;exact ne_of_types hz hc e3)
   (fun c' hc'=>by obtain ⟨⟨a,r,h1⟩,_⟩:=hsA.chan c' hc';exact ne_of_chan hz h1)
 obtain ⟨⟨ga,gcap,hva,csa,hga,hcsa⟩,hsm⟩:=h.env.along
 obtain ⟨gw,wcap,hvw',csw,hgw,hcsw⟩:=h.rowW
 have other:∀ t,t<N.streams.length→t≠s→StAt w' (L.st t) (L.VW t) (L.CH t) (srcd N t) (R.s t):=fun t ht hne=>by
  have hT:=h.env.at' t ht
  obtain ⟨i1,i2,i3⟩:=h.injS t s ht hs hne
  refine hT.stays fun z hz=>?_
  rcases hz with rfl | hz | hz
  ·exact kept _ (lt_of_blk hT.blk) (ne_of_types hT.blk hwb (by decide)) i1
    (fun g hg=>by obtain ⟨cur,hc⟩:=own_block hsA.own hg;exact ne_of_types hT.blk hc (by decide))
    (fun c hc=>by obtain ⟨⟨a,r,h1⟩,_⟩:=hsA.chan c hc;exact ne_of_chan hT.blk h1)
  ·obtain ⟨cur,hcur⟩:=own_block hT.own hz
   exact kept _ (lt_of_blk hcur) (ne_of_types hcur hwb (by decide)) (ne_of_types hcur hsb (by decide))
    (fun g hg e=>by subst e;exact i2 z hz hg)
    (fun c hc=>by obtain ⟨⟨a,r,h1⟩,_⟩:=hsA.chan c hc;exact ne_of_chan hcur h1)
  ·obtain ⟨⟨a,r,h1⟩,_⟩:=hT.chan z hz
   exact kept _ (lt_of_blk h1) (chan_ne_cells h1 hwb) (chan_ne_cells h1 hsb)
    (fun g hg=>by obtain ⟨cur,hc⟩:=own_block hsA.own hg;exact chan_ne_cells h1 hc)
    (fun c hc e=>by subst e;exact i3 z hz hc)
 have hls:s<R.S.length:=by rw [h.lenS];exact hs
 have hlk:k<R.W.length:=by rw [h.lenW];exact hk
 refine ⟨?_,⟨⟨⟨ga,gcap,hva,csa,?_,hcsa⟩,hsm⟩,fun t ht=>?_⟩,⟨gw,wcap,hvw',csw,?_,hcsw⟩,fun j hj=>?_,h.ch,fun t u ht hu hne=>?_,h.injW,by simp [h.lenW],by simp [h.lenS],h.ok⟩
 ·rw [keptC _ _ _ _ h.blk (by decide) (by decide) (by decide)];exact h.blk
 ·rw [keptC _ _ _ _ hga (by decide) (by decide) (by decide)];exact hga
 ·dsimp only
  by_cases e:t=s
  ·subst e
   rw [if_pos rfl]
   have:(⟨R.W.set k y,R.S.set t m'⟩:Rc).s t=m':=getD_set_self _ _ _ _ hls
   rw [this];exact hst
  ·rw [if_neg e]
   have:(⟨R.W.set k y,R.S.set s m'⟩:Rc).s t=R.s t:=getD_set_ne _ _ _ _ _ (fun e'=>e e'.symm)
   rw [this];exact other t ht e
 ·rw [keptC _ _ _ _ hgw (by decide) (by decide) (by decide)];exact hgw
 ·by_cases e:j=k
  ·subst e
   have:(⟨R.W.set j y,R.S.set s m'⟩:Rc).w j=y:=getD_set_self _ _ _ _ hlk
   rw [this];exact hw'
  ·have:(⟨R.W.set k y,R.S.set s m'⟩:Rc).w j=R.w j:=getD_set_ne _ _ _ _ _ (fun e'=>e e'.symm)
   rw [this]
   have hJ:=h.wk j hj
   refine hJ.stays fun z hz=>?_
   rcases hz with rfl | hz
   ·exact kept _ (lt_of_blk hJ.blk) (h.injW j k hj hk e) (ne_of_types hJ.blk hsb (by decide))
     (fun g hg=>by obtain ⟨cur,hc⟩:=own_block hsA.own hg;exact ne_of_types hJ.blk hc (by decide))
     (fun c hc=>by obtain ⟨⟨a,r,h1⟩,_⟩:=hsA.chan c hc;exact ne_of_chan hJ.blk h1)
   ·obtain ⟨cur,hcur⟩:=own_block hJ.own hz
    exact keptC _ _ _ _ hcur (by decide) (by decide) (by decide)
 ·obtain ⟨i1,i2,i3⟩:=h.injS t u ht hu hne
  refine ⟨i1,fun g hg hg'=>?_,i3⟩
  dsimp only at hg hg'
  by_cases e:t=s
  ·subst e
   rw [if_pos rfl] at hg
   rw [if_neg (fun e'=>hne e'.symm)] at hg'
   rcases hvw g hg with h1 | h1
   ·exact i2 g h1 hg'
   ·obtain ⟨cur,hc⟩:=own_block (h.env.at' u hu).own hg'
    have:=lt_of_blk hc;omega
  ·rw [if_neg e] at hg
   by_cases e2:u=s
   ·subst e2
    rw [if_pos rfl] at hg'
    rcases hvw g hg' with h1 | h1
    ·exact i2 g hg h1
    ·obtain ⟨cur,hc⟩:=own_block (h.env.at' t ht).own hg
     have:=lt_of_blk hc;omega
   ·rw [if_neg e2] at hg'
    exact i2 g hg hg'
theorem RaceAt.alone {L:Lay} {w w':World} {N:Net} {R:Rc} (h:RaceAt L w N R) {k:Nat} (hk:k<N.workers.length) {y:Wk}
  (hw':WkAt w' (L.wb k) (L.VC k) (codeOf N k) y) (hf:Fr (fun x=>x=L.wb k) w w'):RaceAt L w' N ⟨R.W.set k y,R.S⟩:=by
 have hs:0<N.streams.length:=(valid_counts h.ok).1
 have hwb:=(h.wk k hk).blk
 have hS:=h.env.at' 0 hs
 have hst:StAt w' (L.st 0) (L.VW 0) (L.CH 0) (srcd N 0) (R.s 0):=hS.stays fun z hz=>by
  refine hf.block z ?_ ?_
  ·rcases hz with rfl | hz | hz
   ·exact lt_of_blk hS.blk
   ·obtain ⟨cur,hc⟩:=own_block hS.own hz;exact lt_of_blk hc
   ·obtain ⟨⟨a,r,h1⟩,_⟩:=hS.chan z hz;exact lt_of_blk h1
  ·rcases hz with rfl | hz | hz
   ·exact ne_of_types hS.blk hwb (by decide)
   ·obtain ⟨cur,hc⟩:=own_block hS.own hz;exact ne_of_types hc hwb (by decide)
   ·obtain ⟨⟨a,r,h1⟩,_⟩:=hS.chan z hz;exact chan_ne_cells h1 hwb
 have:=h.upd hk hs hw' hst (fun g hg=>Or.inl hg) (hf.mono fun x _ hx=>Or.inl hx)
 have e1:(fun t=>if t=0 then L.VW 0 else L.VW t)=L.VW:=by funext t;split<;>simp_all
 have e2:R.S.set 0 (R.s 0)=R.S:=by
  have hl:0<R.S.length:=by rw [h.lenS];exact hs
  have:R.s 0=R.S[0]:=getD_eq _ _ _ hl
  rw [this];exact List.set_getElem_self hl
 rw [e1,e2] at this
 exact this
theorem take_calls {w:World} {b:Nat} {vw:Value} {ch:Option Nat} {sourced:Bool} {m:Sm} (h:StAt w b vw ch sourced m) (hr:sourced=true∨ch≠none) :
  Calls Tryz.prog 78 #[.pointer (some ⟨b,0,none⟩)] w fun e w'=>Took w b vw ch sourced m e w':=by
 cases ch with
 | none=>
  cases sourced
  ·simp at hr
  ·exact take_src h
 | some c=>
  have:=h.nosrc c rfl
  subst this
  exact take_chan h
def StepRead (w:World) (b:Nat) (vc:Value) (code:List Ins) (x:Wk) (i:Ins) (st:Nat→Nat) (VW:Nat→Value) (CH:Nat→Option Nat) (SRC:Nat→Bool) (M:Nat→Sm) (e:Ending) (w':World):Prop:=
 (e=.returned (.int .i64 2)∧SRC i.b.toNat=false∧(M i.b.toNat).read=(M i.b.toNat).words.length∧Below w.heap.size w w') ∨
 (e=.returned (.int .i64 1)∧¬ (SRC i.b.toNat=false∧(M i.b.toNat).read=(M i.b.toNat).words.length)∧WkAt w' b vc code (nextW x i (M i.b.toNat).words[(M i.b.toNat).read]?) ∧
  StAt w' (st i.b.toNat) (VW i.b.toNat) (CH i.b.toNat) (SRC i.b.toNat) { M i.b.toNat with read:=if (M i.b.toNat).read<(M i.b.toNat).words.length then (M i.b.toNat).read+1 else (M i.b.toNat).read} ∧
  Fr (fun k=>k=b∨k=st i.b.toNat∨CH i.b.toNat=some k) w w')
set_option maxRecDepth 100000 in
set_option maxHeartbeats 2000000 in
theorem wstep_read {w:World} {b:Nat} {vc va:Value} {code:List Ins} {x:Wk} {n:Nat} {st:Nat→Nat} (hw:WkAt w b vc code x) {VW:Nat→Value} {CH:Nat→Option Nat} {SRC:Nat→Bool} {M:Nat→Sm} (he:Env w va n st VW CH SRC M) (i:Ins) (hi:code[x.place]? = some i) (hok:opsValid i code.length n=true) (ho:i.op=1) (hrd:SRC i.b.toNat=true∨CH i.b.toNat≠none) :
  Calls Tryz.prog 48 #[.pointer (some ⟨b,0,none⟩),va] w fun e w'=>StepRead w b vc code x i st VW CH SRC M e w':=by
 obtain ⟨c0,c1, -, -, -, -, -, -⟩:=hw.cells
 obtain ⟨a,cap,hvc,hcap,hcode⟩:=code_form hw.own
 have hle:=hw.le
 have hsm:=hw.small
 have hlt:x.place<code.length:=(List.getElem?_eq_some_iff.1 hi).1
 have hie:code[x.place]=i:=(List.getElem?_eq_some_iff.1 hi).2
 obtain ⟨g,ha',d0,d1,d2,d3⟩:=hcode x.place hlt
 rw [hie] at d0 d1 d2 d3
 have HE:=hide he
 obtain ⟨ga,gcap,rfl,hgl,hal⟩:=along_at he.along
 have HAL:=hide hal
 clear hal
 have HOK:=hide hok
 obtain ⟨op,ia,ib,ic⟩:=i
 dsimp only at *
 have hrg:=valid_reg hok (by dsimp only;omega)
 have hstm:=valid_stream hok (by dsimp only;omega)
 dsimp only at hrg hstm
 subst ho
 obtain ⟨hr0,hr1⟩:=hrg
 obtain ⟨ka,rfl⟩:=Int.eq_ofNat_of_zero_le hr0
 obtain ⟨hb0,hb1⟩:=hstm
 obtain ⟨kb,rfl⟩:=Int.eq_ofNat_of_zero_le hb0
 have hka:ka<4:=by omega
 have hkb:kb<n:=by omega
 simp only [Int.toNat_natCast] at hrd
 have HW:=hide hw
 have hd0:decide ((code.length:Int)≤(x.place:Int))=false:=by simp;omega
 have hp0:(0:Int)≤(x.place:Int):=by omega
 have hp1:(x.place:Int)<(code.length:Int):=by omega
 rw [hvc,ha'] at c0
 have wrp:IntKind.i64.wrap ((x.place:Int)+1)=(x.place:Int)+1:=by rw [IntKind.wrap_i64];omega
 have HLT:=hide hlt
 clear hcode hok hi hie hle hw he
 go_enter Tryz.func48,Tryz.ntmps48
 go_wp2
 refine wp_scope_ahead 3 ?_
 generalize hJ:jumpQ Tryz.prog _ _ 3=J
 have HJ:=hide hJ
 clear hJ
 go_wp2
 go_quiet (fail)
 go_wp2
 obtain ⟨w1,hw1⟩:∃ w1,w1=w.drewN nq:=⟨_,rfl⟩
 rw [← hw1]
 have hcell:∀ p,w1.cell? p=w.cell? p:=fun p=>by rw [hw1];rfl
 rw [← hcell] at c0 c1 d0 d1 d2 d3
 clear hcell
 have hbl:Below w.heap.size w w1:=by rw [hw1];exact below_drewN (Below.refl _ _) _
 clear hw1
 have n0:=World.new_ne w1 _ c0
 have n2:=World.new_ne w1 _ d0
 go_region_held3 (fun w'=>w'.cell? ⟨b,0,none⟩=some (.slice (some ⟨g,0,none⟩) code.length cap)∧w'.cell? ⟨b,1,none⟩=some (.int .i64 x.place)∧w'.cell? ⟨g,x.place*4,none⟩=some (.int .i64 1)∧w'.cell? ⟨g,x.place*4+1,none⟩=some (.int .i64 ka)∧w'.cell? ⟨g,x.place*4+2,none⟩=some (.int .i64 kb)∧w'.cell? ⟨g,x.place*4+3,none⟩=some (.int .i64 ic)) (go_keep) (fail)
 clear wrp
 have hbl2:Below w.heap.size w (w1.alloc (.cells #[.int .i64 1,.int .i64 ka,.int .i64 kb,.int .i64 ic] 44)).drew:=(hbl.alloc hbl.size _).drew
 have a0:(w1.alloc (.cells #[.int .i64 1,.int .i64 ka,.int .i64 kb,.int .i64 ic] 44)).drew.cell? ⟨w1.heap.size,0,none⟩=some (.int .i64 1):=by simp [go_sem]
 have a1:(w1.alloc (.cells #[.int .i64 1,.int .i64 ka,.int .i64 kb,.int .i64 ic] 44)).drew.cell? ⟨w1.heap.size,1,none⟩=some (.int .i64 ka):=by simp [go_sem]
 have a2:(w1.alloc (.cells #[.int .i64 1,.int .i64 ka,.int .i64 kb,.int .i64 ic] 44)).drew.cell? ⟨w1.heap.size,2,none⟩=some (.int .i64 kb):=by simp [go_sem]
 have a3:(w1.alloc (.cells #[.int .i64 1,.int .i64 ka,.int .i64 kb,.int .i64 ic] 44)).drew.cell? ⟨w1.heap.size,3,none⟩=some (.int .i64 ic):=by simp [go_sem]
 have HNE:Hid (b≠w1.heap.size):=fun e=>n0 e.symm
 have HAB:Hid ((w1.alloc (.cells #[.int .i64 1,.int .i64 ka,.int .i64 kb,.int .i64 ic] 44)).drew.heap[w1.heap.size]? = some (.cells #[.int .i64 1,.int .i64 ka,.int .i64 kb,.int .i64 ic] 44 (0,0))):=heap_alloc_new _ _
 have HS12:Hid (w1.heap.size<(w1.alloc (.cells #[.int .i64 1,.int .i64 ka,.int .i64 kb,.int .i64 ic] 44)).drew.heap.size):=by unfold Hid;simp
 generalize (w1.alloc (.cells #[.int .i64 1,.int .i64 ka,.int .i64 kb,.int .i64 ic] 44)).drew=w2 at *
 clear c0 c1 d0 d1 d2 d3 n0 n2
 have hw2:=HW.out.below hbl2
 obtain ⟨c0,c1,c2,c3,c4,c5,c6,cf⟩:=hw2.cells
 have f1:=cf 1
 have f6:=cf 6
 have HCF:=hide cf
 have HF2:Hid (Fr (fun k=>k=b) w w2):=Fr.of_below hbl2
 have HW2:=hide hw2
 clear cf hw2
 go_wp2
 refine wp_goto ?_
 show J (.goto 0) _ _
 rw [← HJ.out]
 refine ⟨_,rfl,?_⟩
 clear HJ
 generalize hJ1:jumpQ Tryz.prog _ _ 2=J1
 have HJ1:=hide hJ1
 clear hJ1
 have da:=HAL.out w2 hbl2 kb hkb
 have HT:=hide (((unhide HE).at' kb hkb).below hbl2)
 go_wp2_with fail
 refine (take_calls HT.out hrd).mono ?_
 have hsb:=HT.out.blk
 have hst2:st kb<w2.heap.size:=lt_of_blk hsb
 have nb1:b≠st kb:=ne_of_types HW2.out.blk hsb (by decide)
 have nb2:∀ c,CH kb=some c→b≠c:=fun c hc=>by
  obtain ⟨⟨s,r,h1⟩,_⟩:=HT.out.chan c hc
  exact ne_of_chan HW2.out.blk h1
 have na1:w1.heap.size≠st kb:=ne_of_types HAB.out hsb (by decide)
 have na2:∀ c,CH kb=some c→w1.heap.size≠c:=fun c hc=>by
  obtain ⟨⟨s,r,h1⟩,_⟩:=HT.out.chan c hc
  exact ne_of_chan HAB.out h1
 have no1:∀ y,vc.ownBlock=some y→y≠st kb:=fun y hy=>by
  obtain ⟨cur,h1⟩:=own_block HW2.out.own hy
  exact ne_of_types h1 hsb (by decide)
 have no2:∀ y,vc.ownBlock=some y→∀ c,CH kb=some c→y≠c:=fun y hy c hc=>by
  obtain ⟨cur,h1⟩:=own_block HW2.out.own hy
  obtain ⟨⟨s,r,h2⟩,_⟩:=HT.out.chan c hc
  exact ne_of_chan h1 h2
 have HNB:=hide (And.intro nb1 nb2)
 have HNA:=hide (And.intro na1 na2)
 have HNO:=hide (And.intro no1 no2)
 clear nb1 nb2 na1 na2 no1 no2 hst2 hsb
 rintro e w3 (⟨rfl,hlt3,hst3,hfr3,hsz3⟩ | ⟨rfl,h0,heq,q,rfl⟩ | ⟨rfl,h1,heq,q,rfl⟩)
 ·have hw3:WkAt w3 b vc code x:=HW2.out.stays fun y hy=>by
   rcases hy with rfl | hy
   ·exact hfr3.block _ (lt_of_blk HW2.out.blk) (fun h=>h.elim HNB.out.1 (fun h2=>HNB.out.2 _ h2 rfl))
   ·obtain ⟨cur,h1⟩:=own_block HW2.out.own hy
    exact hfr3.block _ (lt_of_blk h1) (fun h=>h.elim (HNO.out.1 y hy) (fun h2=>HNO.out.2 y hy _ h2 rfl))
  have hab3:w3.heap[w1.heap.size]? = some (.cells #[.int .i64 1,.int .i64 ka,.int .i64 kb,.int .i64 ic] 44 (0,0)):=by
   rw [hfr3.block _ (lt_of_blk HAB.out) (fun h=>h.elim HNA.out.1 (fun h2=>HNA.out.2 _ h2 rfl))];exact HAB.out
  have z1:w3.cell? ⟨w1.heap.size,1,none⟩=some (.int .i64 ka):=row_cell hab3 rfl
  have cr:=hw3.regCell ka hka
  have fr:=row_frozen hw3.blk (2+ka)
  have HST3:=hide hst3
  have HFR3:Hid (Fr (fun k=>k=b∨k=st kb∨CH kb=some k) w w3):=(Fr.of_below hbl2).trans hfr3 (fun y _ h=>Or.inr h)
  have HW3:=hide hw3
  have HLT3:=hide hlt3
  have HSTB:Hid (st kb≠b):=fun e=>HNB.out.1 e.symm
  have nb:b≠w1.heap.size:=HNE.out
  have hk0:(0:Int)≤(ka:Int):=by omega
  have hk1:(ka:Int)<4:=by omega
  obtain ⟨v,hv⟩:∃ v,v=(M kb).words.getD (M kb).read 0:=⟨_,rfl⟩
  rw [← hv]
  have HNX:Hid (nextW x ⟨1,ka,kb,ic⟩ (M kb).words[(M kb).read]? = ⟨x.place+1,upd x.r ka v,wrap64 (x.steps+1)⟩):=by
   unfold Hid;rw [List.getElem?_eq_getElem hlt3,hv,getD_eq _ _ _ hlt3];simp [nextW]
  clear hv hst3 hfr3 hw3 hlt3 hab3 c0 c1 c2 c3 c4 c5 c6 f1 f6 a0 a1 a2 a3 da hsz3
  go_wp2
  go_region_held3 (fun w'=>w'.cell? ⟨w1.heap.size,1,none⟩=some (.int .i64 ka)) (go_keep) (fail)
  have HW4:Hid (WkAt (w3.setCell ⟨b,2+ka,none⟩ (.int .i64 v)).drew b vc code ⟨x.place,upd x.r ka v,x.steps⟩):=(HW3.out.reg ka hka v).below ((Below.refl _ _).drew)
  have HFR4:Hid (Fr (fun k=>k=b∨k=st kb∨CH kb=some k) w (w3.setCell ⟨b,2+ka,none⟩ (.int .i64 v)).drew):=(Fr.setCell (S:=fun k=>k=b∨k=st kb∨CH kb=some k) HFR3.out (p:=⟨b,2+ka,none⟩) (Or.inr (Or.inl rfl)) _).drewN 1
  have HST4:Hid (∀ y,y≠b→(w3.setCell ⟨b,2+ka,none⟩ (.int .i64 v)).drew.heap[y]? = w3.heap[y]?):=fun y hy=>Below.heap_setCell _ _ _ _ hy
  clear cr fr z1
  generalize (w3.setCell ⟨b,2+ka,none⟩ (.int .i64 v)).drew=w4 at *
  obtain ⟨c0,c1,c2,c3,c4,c5,c6,cf⟩:=HW4.out.cells
  have f1:=cf 1
  have f6:=cf 6
  clear cf
  go_wp2
  refine wp_goto ?_
  show J1 (.goto 6) _ _
  rw [← HJ1.out]
  refine ⟨_,rfl,?_⟩
  clear HJ1
  generalize hJ2:jumpQ Tryz.prog _ _ 1=J2
  have HJ2:=hide hJ2
  clear hJ2
  go_wp2
  rw [← HJ2.out]
  refine jumpQ_ret ?_
  go_ret
  obtain ⟨q1,q2,q3⟩:=alone_end (w:=w4) (y:=nextW x ⟨1,ka,kb,ic⟩ (M kb).words[(M kb).read]?) (Fr.refl _ _) HW4.out ((x.place:Int)+1) (by rw [HNX.out];simp) (by rw [HNX.out];have:=HLT.out;dsimp only;omega) (by rw [HNX.out]) (by rw [HNX.out])
  have hne:∀ c,CH kb=some c→c≠b:=fun c hc e=>HNB.out.2 c hc e.symm
  have hall:∀ y,y≠b→((w4.setCell ⟨b,1,none⟩ (.int .i64 ((x.place:Int)+1))).setCell ⟨b,6,none⟩ (.int .i64 (wrap64 (x.steps+1)))).heap[y]? = w3.heap[y]? := fun y hy=>by
   rw [Below.heap_setCell _ _ _ _ hy,Below.heap_setCell _ _ _ _ hy];exact HST4.out y hy
  refine Or.inr ⟨rfl,fun h=>?_,q2,?_,?_⟩
  ·have h2:=h.2;have:=HLT3.out;simp only [Int.toNat_natCast] at h2;omega
  ·simp only [Int.toNat_natCast]
   rw [if_pos HLT3.out]
   refine HST3.out.stays fun y hy=>hall y ?_
   rcases hy with rfl | hy | hy
   ·exact HSTB.out
   ·obtain ⟨cur,h1⟩:=own_block HST3.out.own hy
    exact ne_of_types h1 HW3.out.blk (by decide)
   ·exact hne y hy
  ·simp only [Int.toNat_natCast]
   exact Fr.setCell (S:=fun k=>k=b∨k=st kb∨CH kb=some k) (Fr.setCell (S:=fun k=>k=b∨k=st kb∨CH kb=some k) HFR4.out (p:=⟨b,1,none⟩) (Or.inr (Or.inl rfl)) _) (p:=⟨b,6,none⟩) (Or.inr (Or.inl rfl)) _
 ·have HE0:=hide (And.intro h0 heq)
  clear h0 heq
  go_wp2
  rw [← HJ1.out]
  refine jumpQ_ret ?_
  go_ret
  refine Or.inl ⟨rfl,?_,?_,below_drewN hbl2 q⟩
  ·simpa using HE0.out.1
  ·simpa using HE0.out.2
 ·have HE0:=hide (And.intro h1 heq)
  have HNX:Hid (nextW x ⟨1,ka,kb,ic⟩ (M kb).words[(M kb).read]? = ⟨ic.toNat,x.r,wrap64 (x.steps+1)⟩):=by
   unfold Hid;rw [List.getElem?_eq_none (by omega)];simp [nextW]
  clear h1 heq
  have hpl:=valid_place HOK.out (Or.inl rfl)
  dsimp only at hpl
  go_wp2
  refine wp_goto ?_
  show J1 (.goto 4) _ _
  rw [← HJ1.out]
  refine ⟨_,rfl,?_⟩
  clear HJ1
  generalize hJ2:jumpQ Tryz.prog _ _ 1=J2
  have HJ2:=hide hJ2
  clear hJ2
  go_wp2
  go_step3
  go_wp2
  rw [← HJ2.out]
  refine jumpQ_ret ?_
  go_ret
  have HW5:=HW2.out.below (below_drewN (Below.refl w2.heap.size w2) q)
  have R:=alone_end (w:=w2.drewN q) (y:=nextW x ⟨1,ka,kb,ic⟩ (M kb).words[(M kb).read]?) (Fr.refl _ _) HW5 ic (by rw [HNX.out];dsimp only;omega) (by rw [HNX.out];dsimp only;omega) (by rw [HNX.out]) (by rw [HNX.out])
  obtain ⟨q1,q2,q3⟩:=R
  refine Or.inr ⟨rfl,fun h=>?_,q2,?_,?_⟩
  ·have h2:=h.1;have:=HE0.out.1;simp only [Int.toNat_natCast] at h2;rw [this] at h2;cases h2
  ·simp only [Int.toNat_natCast]
   rw [if_neg (by have:=HE0.out.2;omega)]
   refine (HT.out.below (below_drewN (Below.refl w2.heap.size w2) q)).stays fun y hy=>?_
   have hyb:y≠b:=by
    rcases hy with rfl | hy | hy
    ·exact fun e=>HNB.out.1 e.symm
    ·obtain ⟨cur,h1⟩:=own_block HT.out.own hy
     exact ne_of_types h1 HW2.out.blk (by decide)
    ·exact fun e=>HNB.out.2 y hy e.symm
   rw [Below.heap_setCell _ _ _ _ hyb,Below.heap_setCell _ _ _ _ hyb]
  ·simp only [Int.toNat_natCast]
   exact Fr.setCell (S:=fun k=>k=b∨k=st kb∨CH kb=some k) (Fr.setCell (S:=fun k=>k=b∨k=st kb∨CH kb=some k) ((Fr.of_below hbl2).drewN q) (p:=⟨b,1,none⟩) (Or.inr (Or.inl rfl)) _) (p:=⟨b,6,none⟩) (Or.inr (Or.inl rfl)) _
set_option maxRecDepth 100000 in
set_option maxHeartbeats 1000000 in
theorem wstep_done {w:World} {b:Nat} {vc va:Value} {code:List Ins} {x:Wk} {n:Nat} {st:Nat→Nat} (hw:WkAt w b vc code x) (ha:Along w va st n) (hi:code[x.place]? = none) :
  Calls Tryz.prog 48 #[.pointer (some ⟨b,0,none⟩),va] w fun e w'=>e=.returned (.int .i64 4)∧Below w.heap.size w w':=by
 obtain ⟨c0,c1, -, -, -, -, -, -⟩:=hw.cells
 obtain ⟨a,cap,hvc,hcap,hcode⟩:=code_form hw.own
 have hle:=hw.le
 have hsm:=hw.small
 have hge:code.length≤x.place:=by
  rcases Nat.lt_or_ge x.place code.length with h | h
  ·rw [List.getElem?_eq_getElem h] at hi;cases hi
  ·exact h
 obtain ⟨ga,gcap,rfl, -, -⟩:=along_at ha
 have hd0:decide ((code.length:Int)≤(x.place:Int))=true:=by simp;omega
 rw [hvc] at c0
 clear hcode hi hw ha hvc
 go_enter Tryz.func48,Tryz.ntmps48
 go_wp2
 refine wp_scope_ahead 0 ?_
 generalize hJ:jumpQ Tryz.prog _ _ 0=J
 have HJ:=hide hJ
 clear hJ
 go_wp2
 go_quiet (fail)
 go_wp2
 rw [← HJ.out]
 refine jumpQ_ret ?_
 go_ret
 exact ⟨rfl,below_drewN (Below.refl _ _) _⟩
def Grew (L:Lay) (N:Net) (w:World) (L':Lay):Prop:=(L'.p=L.p∧L'.vS=L.vS∧L'.vW=L.vW∧L'.wb=L.wb∧L'.st=L.st)∧(∀ b,Foot L' N b→Foot L N b∨w.heap.size≤b)
theorem Grew.refl (L:Lay) (N:Net) (w:World):Grew L N w L:=⟨⟨rfl,rfl,rfl,rfl,rfl⟩,fun _ h=>Or.inl h⟩
theorem grew_vw {L:Lay} {N:Net} {w:World} {s:Nat} {vw':Value} (hs:s<N.streams.length) (hvw:∀ g,vw'.ownBlock=some g→(L.VW s).ownBlock=some g∨w.heap.size≤g):Grew L N w { L with VW:=fun t=>if t=s then vw' else L.VW t}:=by
 refine ⟨⟨rfl,rfl,rfl,rfl,rfl⟩,fun b h=>?_⟩
 rcases h with h | h | h | ⟨t,ht,h⟩ | h
 ·exact Or.inl (Or.inl h)
 ·exact Or.inl (Or.inr (Or.inl h))
 ·exact Or.inl (Or.inr (Or.inr (Or.inl h)))
 ·rcases h with h | h | h
  ·exact Or.inl (Or.inr (Or.inr (Or.inr (Or.inl ⟨t,ht,Or.inl h⟩))))
  ·dsimp only at h
   by_cases e:t=s
   ·subst e
    rw [if_pos rfl] at h
    rcases hvw b h with h1 | h1
    ·exact Or.inl (Or.inr (Or.inr (Or.inr (Or.inl ⟨t,ht,Or.inr (Or.inl h1)⟩))))
    ·exact Or.inr h1
   ·rw [if_neg e] at h
    exact Or.inl (Or.inr (Or.inr (Or.inr (Or.inl ⟨t,ht,Or.inr (Or.inl h)⟩))))
  ·exact Or.inl (Or.inr (Or.inr (Or.inr (Or.inl ⟨t,ht,Or.inr (Or.inr h)⟩))))
 ·exact Or.inl (Or.inr (Or.inr (Or.inr (Or.inr h))))
def Steps1 (L:Lay) (w:World) (N:Net) (R:Rc) (k:Nat) (w':World):Prop:=
 (stateOf N R k≠1∧Below w.heap.size w w')∨(stateOf N R k=1∧∃ L',RaceAt L' w' N (doStep N R k)∧Grew L N w L'∧Fr (Foot L N) w w')
theorem state_of_ins {N:Net} {R:Rc} {k:Nat} {i:Ins} (hi:insAt N k (R.w k)=some i) (h1:i.op≠1) (h2:i.op≠2):stateOf N R k=1:=by
 simp only [stateOf,hi]
 rw [if_neg (fun e=>h1 e.1),if_neg (fun e=>h2 e.1)]
theorem wstep_race {L:Lay} {w:World} {N:Net} {R:Rc} (h:RaceAt L w N R) {k:Nat} (hk:k<N.workers.length) (hsm:∀ s,s<N.streams.length→(R.s s).words.length<4398046511104) :
  Calls Tryz.prog 48 #[.pointer (some ⟨L.wb k,0,none⟩),L.vS] w fun e w'=>e=.returned (.int .i64 (stateOf N R k))∧Steps1 L w N R k w':=by
 have hw:=h.wk k hk
 have hfk:∀ x,x=L.wb k→Foot L N x:=fun x hx=>Or.inr (Or.inr (Or.inr (Or.inr ⟨k,hk,Or.inl hx⟩)))
 cases hi:insAt N k (R.w k) with
 | none=>
  refine (wstep_done hw h.env.along hi).mono fun e w' hh=>?_
  have:stateOf N R k=4:=by simp [stateOf,hi]
  exact ⟨by rw [hh.1,this];rfl,Or.inl ⟨by omega,hh.2⟩⟩
 | some i=>
  have hm:i∈codeOf N k:=List.mem_of_getElem? hi
  have hv:=valid_ins h.ok hk hm
  have hop:=valid_op hv
  have hds:=doStep_some hi
  have al:i.op≠1→i.op≠2→∀ e w',Alone w (L.wb k) (L.VC k) (codeOf N k) (nextW (R.w k) i none) e w'→e=.returned (.int .i64 (stateOf N R k))∧Steps1 L w N R k w':=by
   intro o1 o2 e w' hh
   have hs1:=state_of_ins hi o1 o2
   refine ⟨by rw [hh.1,hs1];rfl,Or.inr ⟨hs1,L,?_,Grew.refl _ _ _,hh.2.2.mono fun x _ hx=>hfk x hx⟩⟩
   rw [hds,nextW_congr _ _ _ none o1]
   have e2:nextS R (R.w k) i=R.S:=by simp [nextS,o1,o2]
   rw [e2]
   exact h.alone hk hh.2.1 hh.2.2
  by_cases o1:i.op=1
  ·have hb:=valid_stream hv (Or.inl o1)
   have hs:i.b.toNat<N.streams.length:=by omega
   refine (wstep_read hw h.env i hi hv o1 ((h.codeOk hk).rd i hm o1)).mono fun e w' hh=>?_
   rcases hh with ⟨h1,h2,h3,h4⟩ | ⟨h1,h2,h3,h4,h5⟩
   ·have:stateOf N R k=2:=by simp only [stateOf,hi];rw [if_pos ⟨o1,h2,h3⟩]
    exact ⟨by rw [h1,this];rfl,Or.inl ⟨by omega,h4⟩⟩
   ·have hs1:stateOf N R k=1:=by
     simp only [stateOf,hi];rw [if_neg (fun e=>h2 e.2),if_neg (fun e=>by omega)]
    refine ⟨by rw [h1,hs1];rfl,Or.inr ⟨hs1,_,?_,grew_vw hs (fun g hg=>Or.inl hg),?_⟩⟩
    ·rw [hds]
     have e2:nextS R (R.w k) i=R.S.set i.b.toNat { R.s i.b.toNat with read:=if (R.s i.b.toNat).read<(R.s i.b.toNat).words.length then (R.s i.b.toNat).read+1 else (R.s i.b.toNat).read}:=by simp [nextS,o1]
     rw [e2]
     refine h.upd hk hs h3 h4 (fun g hg=>Or.inl hg) (h5.mono fun x _ hx=>?_)
     rcases hx with hx | hx | hx
     ·exact Or.inl hx
     ·exact Or.inr (Or.inl hx)
     ·exact Or.inr (Or.inr (Or.inr hx))
    ·refine h5.mono fun x _ hx=>?_
     rcases hx with hx | hx | hx
     ·exact hfk x hx
     ·exact Or.inr (Or.inr (Or.inr (Or.inl ⟨_,hs,Or.inl hx⟩)))
     ·exact Or.inr (Or.inr (Or.inr (Or.inl ⟨_,hs,Or.inr (Or.inr hx)⟩)))
  by_cases o2:i.op=2
  ·have hb:=valid_stream hv (Or.inr o2)
   have hs:i.b.toNat<N.streams.length:=by omega
   have hq:=(h.codeOk hk).wr i hm o2
   have hue:=h.ch _ hs hq
   have fin:∀ e w',StepWrite w (L.wb k) (L.VC k) (codeOf N k) (R.w k) i L.st L.VW L.CH R.s e w'→e=.returned (.int .i64 (stateOf N R k))∧Steps1 L w N R k w':=by
    intro e w' hh
    rcases hh with ⟨h1,h2,h3,h4⟩ | ⟨h1,h2,h3,vw',h4,h5,h6⟩
    ·have hu:used N i.b.toNat=true:=hue.1 (by cases hc:L.CH i.b.toNat with | none=>exact absurd hc h2 | some c=>rfl)
     have:stateOf N R k=3:=by simp only [stateOf,hi];rw [if_neg (fun e=>by omega),if_pos ⟨o2,hu,h3⟩]
     exact ⟨by rw [h1,this];rfl,Or.inl ⟨by omega,h4⟩⟩
    ·have hs1:stateOf N R k=1:=by
      simp only [stateOf,hi]
      rw [if_neg (fun e=>by omega),if_neg]
      rintro ⟨_,e1,e2⟩
      refine h2 ⟨fun hc=>?_,e2⟩
      have:=hue.2 e1
      rw [hc] at this;cases this
     refine ⟨by rw [h1,hs1];rfl,Or.inr ⟨hs1,_,?_,grew_vw hs h4,?_⟩⟩
     ·rw [hds,nextW_congr _ _ _ none o1]
      have e2:nextS R (R.w k) i=R.S.set i.b.toNat { R.s i.b.toNat with words:=(R.s i.b.toNat).words++[(R.w k).r i.a.toNat]}:=by simp [nextS,o2]
      rw [e2]
      rw [← hq] at h5
      exact h.upd hk hs h3 h5 h4 h6
     ·refine h6.mono fun x _ hx=>?_
      rcases hx with hx | hx | hx | hx
      ·exact hfk x hx
      ·exact Or.inr (Or.inr (Or.inr (Or.inl ⟨_,hs,Or.inl hx⟩)))
      ·exact Or.inr (Or.inr (Or.inr (Or.inl ⟨_,hs,Or.inr (Or.inl hx)⟩)))
      ·exact Or.inr (Or.inr (Or.inr (Or.inl ⟨_,hs,Or.inr (Or.inr hx)⟩)))
   by_cases hf:L.CH i.b.toNat≠none∧(R.s i.b.toNat).room≤(R.s i.b.toNat).words.length-(R.s i.b.toNat).read
   ·exact (wstep_write_no hw h.env i hi hv o2 hq (hsm _ hs) hf).mono fin
   ·exact (wstep_write_yes hw h.env i hi hv o2 hq (hsm _ hs) hf).mono fin
  by_cases o3:i.op=3
  ·exact (wstep_set hw h.env.along i hi hv o3).mono (al o1 o2)
  by_cases o8:i.op=8
  ·by_cases hz:(R.w k).r i.a.toNat=0
   ·exact (wstep_if_no hw h.env.along i hi hv o8 hz).mono (al o1 o2)
   ·exact (wstep_if_yes hw h.env.along i hi hv o8 hz).mono (al o1 o2)
  by_cases o9:i.op=9
  ·exact (wstep_goto hw h.env.along i hi hv o9).mono (al o1 o2)
  ·exact (wstep_alu hw h.env.along i hi hv (by omega)).mono (al o1 o2)
def lookVal (x:Wk) (s:Int):Value:=.agg #[.int .i64 x.place,.int .i64 (x.r 0),.int .i64 (x.r 1),.int .i64 (x.r 2),.int .i64 (x.r 3),.int .i64 x.steps,.int .i64 s]
theorem below_set7 {w w1:World} (h:Below w.heap.size w w1) (v0 v1 v2 v3 v4 v5 v6:Value) :
  Below w.heap.size w (((((((w1.setCell ⟨w.heap.size,0,none⟩ v0).setCell ⟨w.heap.size,1,none⟩ v1).setCell ⟨w.heap.size,2,none⟩ v2).setCell ⟨w.heap.size,3,none⟩ v3).setCell ⟨w.heap.size,4,none⟩ v4).setCell ⟨w.heap.size,5,none⟩ v5).setCell ⟨w.heap.size,6,none⟩ v6):=
 have h0:=Below.setCell (p:=⟨w.heap.size,0,none⟩) h (Nat.le_refl _) v0
 have h1:=Below.setCell (p:=⟨w.heap.size,1,none⟩) h0 (Nat.le_refl _) v1
 have h2:=Below.setCell (p:=⟨w.heap.size,2,none⟩) h1 (Nat.le_refl _) v2
 have h3:=Below.setCell (p:=⟨w.heap.size,3,none⟩) h2 (Nat.le_refl _) v3
 have h4:=Below.setCell (p:=⟨w.heap.size,4,none⟩) h3 (Nat.le_refl _) v4
 have h5:=Below.setCell (p:=⟨w.heap.size,5,none⟩) h4 (Nat.le_refl _) v5
 Below.setCell (p:=⟨w.heap.size,6,none⟩) h5 (Nat.le_refl _) v6
set_option maxRecDepth 100000 in
set_option maxHeartbeats 600000 in
theorem wlook_calls {w:World} {b:Nat} {vc va:Value} {code:List Ins} {x:Wk} {n:Nat} {st:Nat→Nat} {VW:Nat→Value} {CH:Nat→Option Nat} {SRC:Nat→Bool} {M:Nat→Sm}
  (hw:WkAt w b vc code x) (he:Env w va n st VW CH SRC M) (hc:CodeOk code n CH SRC) :
  Calls Tryz.prog 85 #[.pointer (some ⟨b,0,none⟩),va] w fun e w'=>e=.returned (lookVal x (stateL code x CH SRC M))∧Below w.heap.size w w':=by
 obtain ⟨ga,gcap,hva, -, -⟩:=along_at he.along
 have hblk:∀ wx,Below w.heap.size w wx→wx.cell? ⟨b,1,none⟩=some (.int .i64 x.place)∧wx.cell? ⟨b,2,none⟩=some (.int .i64 (x.r 0))∧wx.cell? ⟨b,3,none⟩=some (.int .i64 (x.r 1))∧wx.cell? ⟨b,4,none⟩=some (.int .i64 (x.r 2))∧wx.cell? ⟨b,5,none⟩=some (.int .i64 (x.r 3))∧wx.cell? ⟨b,6,none⟩=some (.int .i64 x.steps):=fun wx hx=>
  let h:=(hw.below hx).cells; ⟨h.2.1,h.2.2.1,h.2.2.2.1,h.2.2.2.2.1,h.2.2.2.2.2.1,h.2.2.2.2.2.2.1⟩
 have hbs:b<w.heap.size:=lt_of_blk hw.blk
 obtain ⟨c1,c2,c3,c4,c5,c6⟩:=hblk w (Below.refl _ _)
 have HS:Hid (∀ wx,Below (w.heap.size+1) (w.alloc (.cells #[.int .i64 0,.int .i64 0,.int .i64 0,.int .i64 0,.int .i64 0,.int .i64 0,.int .i64 0] 123)) wx→Calls Tryz.prog 87 #[.pointer (some ⟨b,0,none⟩),va] wx fun e w'=>e=.returned (.int .i64 (stateL code x CH SRC M)) ∧
   (w'.cell? ⟨b,1,none⟩=some (.int .i64 x.place)∧w'.cell? ⟨b,2,none⟩=some (.int .i64 (x.r 0))∧w'.cell? ⟨b,3,none⟩=some (.int .i64 (x.r 1))∧w'.cell? ⟨b,4,none⟩=some (.int .i64 (x.r 2))∧w'.cell? ⟨b,5,none⟩=some (.int .i64 (x.r 3))∧w'.cell? ⟨b,6,none⟩=some (.int .i64 x.steps)) ∧
   w'.heap[w.heap.size]? = some (.cells #[.int .i64 0,.int .i64 0,.int .i64 0,.int .i64 0,.int .i64 0,.int .i64 0,.int .i64 0] 123 (0,0)) ∧
   Below w.heap.size w w'):=fun wx hx=>(wstate_calls (hw.below (below_box hx)) (he.below (below_box hx)) hc).mono fun e w' h=>by
  have hx':=hx.trans (h.2.mono (by have:=hx.size;simpa using this))
  refine ⟨h.1,hblk w' (below_box hx'),?_,below_box hx'⟩
  rw [hx'.block _ (by omega)]
  exact heap_alloc_new _ _
 clear hblk hw he hc
 subst hva
 obtain ⟨p,hp⟩:∃ p:Int,p=x.place:=⟨_,rfl⟩
 have HV:Hid (lookVal x (stateL code x CH SRC M)=.agg #[.int .i64 x.place,.int .i64 (x.r 0),.int .i64 (x.r 1),.int .i64 (x.r 2),.int .i64 (x.r 3),.int .i64 x.steps,.int .i64 (stateL code x CH SRC M)]):=rfl
 generalize (stateL code x CH SRC M:Int)=sv at *
 generalize x.r 0=r0 at *
 generalize x.r 1=r1 at *
 generalize x.r 2=r2 at *
 generalize x.r 3=r3 at *
 generalize x.steps=sp at *
 have n0:=World.new_ne w _ c1
 go_enter Tryz.func85,Tryz.ntmps85
 go_wp2
 have hb0:Below (w.heap.size+1) (w.alloc (.cells #[.int .i64 0,.int .i64 0,.int .i64 0,.int .i64 0,.int .i64 0,.int .i64 0,.int .i64 0] 123)) (w.alloc (.cells #[.int .i64 0,.int .i64 0,.int .i64 0,.int .i64 0,.int .i64 0,.int .i64 0,.int .i64 0] 123)):=Below.refl _ _
 go_region_held3 (fun w'=>w'.cell? ⟨b,1,none⟩=some (.int .i64 x.place)∧w'.cell? ⟨b,2,none⟩=some (.int .i64 r0)∧w'.cell? ⟨b,3,none⟩=some (.int .i64 r1)∧w'.cell? ⟨b,4,none⟩=some (.int .i64 r2)∧w'.cell? ⟨b,5,none⟩=some (.int .i64 r3)∧w'.cell? ⟨b,6,none⟩=some (.int .i64 sp)) (go_keep)
  ((go_at_call 87;refine (unhide HS _ ?_).mono ?_; (repeat (first | exact hb0 | apply Below.drew | apply below_drewN));rintro e w1 ⟨rfl,⟨s1,s2,s3,s4,s5,s6⟩,t0,hb1⟩;have z0:=blk_cell t0 0 _ rfl;have z1:=blk_cell t0 1 _ rfl;have z2:=blk_cell t0 2 _ rfl;have z3:=blk_cell t0 3 _ rfl;have z4:=blk_cell t0 4 _ rfl;have z5:=blk_cell t0 5 _ rfl;have z6:=blk_cell t0 6 _ rfl))
 go_wp2
 refine bodyPost_ret (v:=.agg #[.int .i64 x.place,.int .i64 r0,.int .i64 r1,.int .i64 r2,.int .i64 r3,.int .i64 sp,.int .i64 sv]) ?_ rfl ⟨by rw [HV.out],?_⟩
 ·simp [results,Tryz.results85,go_sem,z0,z1,z2,z3,z4,z5,z6]
 ·exact below_set7 hb1 _ _ _ _ _ _ _
end Go.Proofs.YthfdgdfnflilfaaGreatDoor

/- Part 41: RefG2, RefF. -/
import Derived.Deep.Cut
import Derived.Deep.LoopGhost
import Derived.Test.YthfdgdfnflilfaaGreatDoorPart36
namespace Go.Proofs.YthfdgdfnflilfaaGreatDoor
open Go.RowKit Go.Conc
set_option maxRecDepth 100000 in
set_option maxHeartbeats 4000000 in
theorem refGrow_calls {L:RLay} {w:World} {N:Net} {R:Rc} (h:RefAt L w N R) (hco:RCodes L w N) (hro:RoomR N R) :
  Calls Tryz.prog 36 #[.pointer (some ⟨L.p,0,none⟩)] w fun e w'=>∃ a b o,Grows N R a b o∧e=.returned (.tuple #[.int .i64 a,.int .i64 b])∧RStep L w N (o.elim R (growS R)) w':=by
 have hv:=h.ok
 obtain ⟨-,hs8, -,hw6⟩:=valid_counts h.ok
 obtain ⟨ds,hd,hd2⟩:=h.rowS
 have HRo:=hide hro
 have HH:Hid (∀ wx,Below w.heap.size w wx→RefAt L wx N R):=fun wx hx=>h.below hx
 have HSt:Hid (∀ wx (k:Nat),k<N.workers.length→Below w.heap.size w wx→Calls Tryz.prog 63 #[.pointer (some ⟨L.p,0,none⟩),.int .i64 k] wx fun e w'=>e=.returned (.int .i64 (stateOf N R k))∧Below w.heap.size w w'):=fun wx k hk hx=>(refState_calls (h.below hx) k hk).mono fun e w' ⟨q1,q2⟩=>⟨q1,hx.trans (q2.mono hx.size)⟩
 have HNo:Hid (∀ wx,Below w.heap.size w wx→RStep L w N R wx):=fun wx hx=>RStep.of_below h hx
 have HGr:Hid (∀ wx (s:Nat),s<N.streams.length→Below w.heap.size w wx→(wx.cell? ⟨L.gS,s*5+4,none⟩=some (.int .i64 ((R.s s).room:Int))∧wx.frozen? ⟨L.gS,s*5+4,none⟩=false)∧RStep L w N (growS R s) (wx.setCell ⟨L.gS,s*5+4,none⟩ (.int .i64 (((R.s s).room:Int)+1)))):=fun wx s hs hx=>by
  have hg:wx.heap[L.gS]? = some (.cells ds.toArray 88 (0,0)):=(hx.block _ (lt_of_blk hd)).trans hd
  refine ⟨⟨(h.below hx).sc hs 4 _ (by decide) rfl,row_frozen hg _⟩,RStep.grow h hco hs hd hd2 (Fr.setCell (S:=fun b=>b=L.gS) (Fr.of_below hx) (p:=⟨L.gS,s*5+4,none⟩) (Or.inr rfl) _) ?_⟩
  have:=blk_set hg (s*5+4) (.int .i64 (((R.s s).room:Int)+1))
  simpa using this
 have HV:=hide hv
 obtain ⟨p0, -⟩:=blk_cell (l:=[_,_]) h.blk 0 _ rfl
 obtain ⟨p1, -⟩:=blk_cell (l:=[_,_]) h.blk 1 _ rfl
 clear h hco hro hd hd2 hv
 go_enter Tryz.func36,Tryz.ntmps36
 go_wp2
 go_loopw [4,5,6,7] (fun lv i _ _ wr=>∃ (k:Nat) (o:Option Nat),k≤N.workers.length∧i=.int .i64 k∧Below w.heap.size w wr∧goesB N R k=false∧LeastAt N R k o∧((o=none∧lv=.int .i64 (-1))∨∃ t:Nat,o=some t∧lv=.int .i64 t)) (fun _ i _ _ _=>N.workers.length-(intOf i).toNat)
 case atStart=>exact ⟨0,none,Nat.zero_le _,rfl,Below.refl _ _,rfl,(fun s=>rfl),Or.inl ⟨rfl,rfl⟩⟩
 case round=>
  obtain ⟨k,o,hk,rfl,hb,hgo,hle,hlv⟩:=hrel
  clear p0 p1
  have hR:=HH.out _ hb
  obtain ⟨p0, -⟩:=blk_cell (l:=[_,_]) hR.blk 0 _ rfl
  obtain ⟨p1, -⟩:=blk_cell (l:=[_,_]) hR.blk 1 _ rfl
  by_cases hlt:k<N.workers.length
  ·have HC:=hide (HSt.out wr k hlt hb)
   have HNx:Hid (stateOf N R k≠1→goesB N R (k+1)=false):=fun e=>by rw [goes_succ,hgo];simpa using e
   have HG1:Hid (stateOf N R k=1→Grows N R 0 3 none):=fun e=>Grows.goes (range_any_of hlt (by rw [e];rfl))
   have HLe:=hide hle
   have hk0:(0:Int)≤(k:Int):=by omega
   have hk1:(k:Int)<(N.workers.length:Int):=by omega
   by_cases h1:stateOf N R k=1
   ·have HG:=hide (HG1.out h1)
    rw [h1] at HC
    clear hR hgo hle HNx HG1 HLe hb
    go_wp2_with fail
    refine (unhide HC).mono ?_
    rintro e w1 ⟨rfl,hb1⟩
    have HR1:=hide (HNo.out w1 hb1)
    clear hb1 HC p0 p1
    rcases hlv with ⟨rfl,rfl⟩ | ⟨t,rfl,rfl⟩
    ·go_wp2
     go_ret2
     exact ⟨0,3,none,HG.out,rfl,HR1.out⟩
    ·go_wp2
     go_ret2
     exact ⟨0,3,none,HG.out,rfl,HR1.out⟩
   ·have hg1:=HNx.out h1
    by_cases h3:stateOf N R k=3
    ·obtain ⟨i,s,hi,his,hss,hwn⟩:=state3_ins HV.out hlt h3
     obtain ⟨iop,ia,ib,ic⟩:=i
     dsimp only at his
     subst his
     rw [h3] at HC
     clear hR hgo hle HNx HG1 hb h1
     go_wp2_with fail
     refine (unhide HC).mono ?_
     rintro e w1 ⟨rfl,hb1⟩
     have hR1:=HH.out w1 hb1
     clear p0 p1 HC
     obtain ⟨p0, -⟩:=blk_cell (l:=[_,_]) hR1.blk 0 _ rfl
     obtain ⟨p1, -⟩:=blk_cell (l:=[_,_]) hR1.blk 1 _ rfl
     have x0:w1.cell? ⟨L.gW,k*7,none⟩=some (L.VC k):=hR1.wc hlt 0 _ (by decide) rfl
     have x1:=hR1.wc hlt 1 _ (by decide) rfl
     obtain ⟨ca,cc,hvc,hc63,hccap,hcells⟩:=(hR1.code k hlt).openD
     rw [hvc] at x0
     have hpl:(R.w k).place<(codeOf N k).length:=(List.getElem?_eq_some_iff.1 hi).1
     have hgi:(codeOf N k).getD (R.w k).place ⟨0,0,0,0⟩=⟨iop,ia,s,ic⟩:=by rw [getD_eq _ _ _ hpl];exact (List.getElem?_eq_some_iff.1 hi).2
     obtain ⟨cb,co,rfl,hcb,hcell⟩:=hcells _ hpl
     obtain ⟨d0,d1,d2,d3⟩:=hcell w1 (Below.refl _ _)
     rw [hgi] at d2
     dsimp only at d2
     have hp0:(0:Int)≤((R.w k).place:Int):=by omega
     have hp1:((R.w k).place:Int)<((codeOf N k).length:Int):=by omega
     have r4:=hR1.sc hss 4 _ (by decide) rfl
     have hs0:(0:Int)≤(s:Int):=by omega
     have hs1:(s:Int)<(N.streams.length:Int):=by omega
     have HB1:Hid (∀ q,Below w.heap.size w (w1.drewN q)):=fun q=>below_drewN hb1 q
     have HR1:=hide hR1
     clear hcells hcell hgi hvc hi d0 d1 d3 hb1 hR1
     rcases hlv with ⟨rfl,rfl⟩ | ⟨t,rfl,rfl⟩
     ·have HL2:Hid (LeastAt N R (k+1) (some s)):=HLe.out.take hwn (fun t e=>by cases e)
      clear hwn HLe
      go_wp2
      go_quiet (fail)
      go_wp2
      go_quiet (fail)
      go_wp2
      go_roundw
      case rel=>exact ⟨k+1,some s,by omega,by go_num,HB1.out _,hg1,HL2.out,Or.inr ⟨s,rfl,rfl⟩⟩
      case measure=>simp [intOf];omega
     ·have htl:t<N.streams.length:=HLe.out.lt HV.out (by omega)
      have r4t:=HR1.out.sc htl 4 _ (by decide) rfl
      have ht0:(0:Int)≤(t:Int):=by omega
      have ht1:(t:Int)<(N.streams.length:Int):=by omega
      have htn:decide ((t:Int)<0)=false:=by simp
      by_cases q1:(R.s s).room<(R.s t).room
      ·have q1':decide (((R.s s).room:Int)<((R.s t).room:Int))=true:=by simpa using q1
       have n1:¬ (R.s t).room≤(R.s s).room:=by omega
       have HL2:Hid (LeastAt N R (k+1) (some s)):=HLe.out.take hwn (fun t' e=>by cases e;exact Or.inl q1)
       clear hwn HLe HR1 q1
       go_wp2
       go_quiet (fail)
       go_wp2
       have HB2:Hid (∀ q,Below w.heap.size w ((w1.drewN nq).drewN q)):=fun q=>below_drewN (HB1.out nq) q
       have hcell:∀ a,(w1.drewN nq).cell? a=w1.cell? a:=fun _=>rfl
       rw [← hcell] at p0 r4 r4t
       clear hcell p1 x0 x1 d2 HB1
       generalize w1.drewN nq=w2 at *
       refine wp_region_still_tail 44 Tryz.mixed (by kernel_rfl) ?_
       simp only [List.take_succ_cons,List.take_zero,List.drop_succ_cons,List.drop_zero]
       iterate 44 still_step
       refine wpStill_nil ?_
       show wpList _ _ _ _ _ w2.drew
       go_wp2
       go_roundw
       case rel=>exact ⟨k+1,some s,by omega,by go_num,HB2.out 1,hg1,HL2.out,Or.inr ⟨s,rfl,rfl⟩⟩
       case measure=>simp [intOf];omega
      ·have q1':decide (((R.s s).room:Int)<((R.s t).room:Int))=false:=by simpa using q1
       have n1:(R.s t).room≤(R.s s).room:=by omega
       by_cases q2:(R.s s).room=(R.s t).room
       ·have q2':(((R.s s).room:Int) == ((R.s t).room:Int))=true:=by rw [beq_iff_eq];omega
        have n2:((R.s s).room=(R.s t).room)=True:=eq_true q2
        by_cases q3:s<t
        ·have q3':decide ((s:Int)<(t:Int))=true:=by simpa using q3
         have n3:s<t:=q3
         have HL2:Hid (LeastAt N R (k+1) (some s)):=HLe.out.take hwn (fun t' e=>by cases e;exact Or.inr ⟨q2,q3⟩)
         clear q2 q3
         clear hwn HLe HR1 q1
         go_wp2
         go_quiet (fail)
         go_wp2
         have HB2:Hid (∀ q,Below w.heap.size w ((w1.drewN nq).drewN q)):=fun q=>below_drewN (HB1.out nq) q
         have hcell:∀ a,(w1.drewN nq).cell? a=w1.cell? a:=fun _=>rfl
         rw [← hcell] at p0 r4 r4t
         clear hcell p1 x0 x1 d2 HB1
         generalize w1.drewN nq=w2 at *
         refine wp_region_still_tail 44 Tryz.mixed (by kernel_rfl) ?_
         simp only [List.take_succ_cons,List.take_zero,List.drop_succ_cons,List.drop_zero]
         iterate 44 still_step
         refine wpStill_nil ?_
         show wpList _ _ _ _ _ w2.drew
         go_wp2
         go_roundw
         case rel=>exact ⟨k+1,some s,by omega,by go_num,HB2.out 1,hg1,HL2.out,Or.inr ⟨s,rfl,rfl⟩⟩
         case measure=>simp [intOf];omega
        ·have q3':decide ((s:Int)<(t:Int))=false:=by simpa using q3
         have n3:t≤s:=by omega
         have HL2:Hid (LeastAt N R (k+1) (some t)):=HLe.out.stay hwn (by omega)
         clear q2 q3
         clear hwn HLe HR1 q1
         go_wp2
         go_quiet (fail)
         go_wp2
         have HB2:Hid (∀ q,Below w.heap.size w ((w1.drewN nq).drewN q)):=fun q=>below_drewN (HB1.out nq) q
         have hcell:∀ a,(w1.drewN nq).cell? a=w1.cell? a:=fun _=>rfl
         rw [← hcell] at p0 r4 r4t
         clear hcell p1 x0 x1 d2 HB1
         generalize w1.drewN nq=w2 at *
         refine wp_region_still_tail 44 Tryz.mixed (by kernel_rfl) ?_
         simp only [List.take_succ_cons,List.take_zero,List.drop_succ_cons,List.drop_zero]
         iterate 44 still_step
         refine wpStill_nil ?_
         show wpList _ _ _ _ _ w2.drew
         go_wp2
         go_roundw
         case rel=>exact ⟨k+1,some t,by omega,by go_num,HB2.out 1,hg1,HL2.out,Or.inr ⟨t,rfl,rfl⟩⟩
         case measure=>simp [intOf];omega
       ·have q2':(((R.s s).room:Int) == ((R.s t).room:Int))=false:=by rw [beq_eq_false_iff_ne];omega
        have HL2:Hid (LeastAt N R (k+1) (some t)):=HLe.out.stay hwn (by omega)
        clear hwn HLe HR1 q1
        go_wp2
        go_quiet (fail)
        go_wp2
        have HB2:Hid (∀ q,Below w.heap.size w ((w1.drewN nq).drewN q)):=fun q=>below_drewN (HB1.out nq) q
        have hcell:∀ a,(w1.drewN nq).cell? a=w1.cell? a:=fun _=>rfl
        rw [← hcell] at p0 r4 r4t
        clear hcell p1 x0 x1 d2 HB1
        generalize w1.drewN nq=w2 at *
        refine wp_region_still_tail 44 Tryz.mixed (by kernel_rfl) ?_
        simp only [List.take_succ_cons,List.take_zero,List.drop_succ_cons,List.drop_zero]
        iterate 44 still_step
        refine wpStill_nil ?_
        show wpList _ _ _ _ _ w2.drew
        go_wp2
        go_roundw
        case rel=>exact ⟨k+1,some t,by omega,by go_num,HB2.out 1,hg1,HL2.out,Or.inr ⟨t,rfl,rfl⟩⟩
        case measure=>simp [intOf];omega
    ·have HL2:Hid (LeastAt N R (k+1) o):=HLe.out.skip h3
     have e1:(((stateOf N R k:Nat):Int) == 1)=false:=by rw [beq_eq_false_iff_ne];omega
     have e3:(((stateOf N R k:Nat):Int) == 3)=false:=by rw [beq_eq_false_iff_ne];omega
     generalize stateOf N R k=st at *
     clear hR hgo hle HNx HG1 hb h1 h3 HLe
     go_wp2_with fail
     refine (unhide HC).mono ?_
     rintro e w1 ⟨rfl,hb1⟩
     have HB1:=hide hb1
     clear hb1 HC p0 p1
     go_wp2
     go_roundw
     case rel=>exact ⟨k+1,o,by omega,by go_num,HB1.out,hg1,HL2.out,hlv⟩
     case measure=>simp [intOf];omega
  ·have hke:k=N.workers.length:=by omega
   have hk1:¬ (k:Int)<(N.workers.length:Int):=by omega
   subst hke
   rcases hlv with ⟨rfl,rfl⟩ | ⟨t,rfl,rfl⟩
   ·have HG:Hid (Grows N R 0 3 none):=Grows.none (fun s _=>hle s)
    have HR1:=hide (HNo.out wr hb)
    clear hR hgo hle hb
    go_wp2
    go_ret2
    exact ⟨0,3,none,HG.out,rfl,HR1.out⟩
   ·have htl:t<N.streams.length:=hle.lt HV.out (Nat.le_refl _)
    have ht:=hle.tight HV.out
    have hrm:=HRo.out t htl
    obtain ⟨⟨r4,f4⟩,hgr⟩:=HGr.out wr t htl hb
    have HG2:=hide hgr
    have HR1:=hide (HNo.out wr hb)
    have ht0:(0:Int)≤(t:Int):=by omega
    have ht1:(t:Int)<(N.streams.length:Int):=by omega
    have htn:¬ (t:Int)<0:=by omega
    by_cases h40:(R.s t).room=40
    ·have HG:Hid (Grows N R 0 4 none):=Grows.full hgo ht h40
     have q:(40:Int)≤((R.s t).room:Int):=by omega
     clear hR hgo hle hb ht hgr h40 hrm
     go_wp2
     go_ret2
     exact ⟨0,4,none,HG.out,rfl,HR1.out⟩
    ·have HG:Hid (Grows N R t 0 (some t)):=Grows.grows hgo ht (by omega)
     have q:¬ (40:Int)≤((R.s t).room:Int):=by omega
     clear hR hgo hle hb ht hgr h40
     go_wp2
     go_ret2
     exact ⟨t,0,some t,HG.out,rfl,HG2.out⟩
theorem rhas_grow {wz:World} {A:Nat→Prop} {p:Nat} {N:Net} {R:Rc} {w:World} (h:RHas wz A p N R w) (hro:RoomR N R) (hz:Below wz.heap.size wz w) (hA:∀ b,b<wz.heap.size→A b) :
  Calls Tryz.prog 36 #[.pointer (some ⟨p,0,none⟩)] w fun e w'=>∃ a b o,Grows N R a b o∧e=.returned (.tuple #[.int .i64 a,.int .i64 b])∧RHas wz A p N (o.elim R (growS R)) w'∧Keeps A w w':=by
 obtain ⟨L,rfl,h2,h3,h4⟩:=h.ex
 exact (refGrow_calls h2 (RHas.codes h3 h4 hz hA) hro).mono fun e w' ⟨a,b,o,q1,q2,q3⟩=>⟨a,b,o,q1,q2,RHas.went h3 h4 h.lt q3⟩
theorem first_some {N:Net} {S:Rc} {n j:Nat} (hj:j<n) (h1:stateOf N S j=1) (h0:∀ i,i<j→stateOf N S i≠1):firstGo N S n=some j:=by
 unfold firstGo
 rw [List.find?_range_eq_some]
 exact ⟨by simp [h1],List.mem_range.2 hj,fun i hi=>by simp [h0 i hi]⟩
theorem first_none {N:Net} {S:Rc} {n:Nat} (h0:∀ i,i<n→stateOf N S i≠1):firstGo N S n=none:=by
 unfold firstGo
 rw [List.find?_range_eq_none]
 exact fun i hi=>by simp [h0 i hi]
structure RWn (wz:World) (A:Nat→Prop) (p:Nat) (N:Net) (w:World) (S:Rc) (wr:World):Prop where
 has:RHas wz A p N S wr
 keeps:Keeps A w wr
theorem RWn.wzm {wz:World} {A:Nat→Prop} {p:Nat} {N:Net} {w:World} {S:Rc} {wr:World} (h:RWn wz A p N w S wr) (hz:Below wz.heap.size wz w) (hA:∀ b,b<wz.heap.size→A b):Below wz.heap.size wz wr:=hz.trans (h.keeps.below hz.size hA)
theorem RWn.row {wz:World} {A:Nat→Prop} {p:Nat} {N:Net} {w:World} {S:Rc} {wr:World} (h:RWn wz A p N w S wr):∃ g c,wr.cell? ⟨p,1,none⟩=some (.slice (some ⟨g,0,none⟩) N.workers.length c):=by
 obtain ⟨L,rfl,h2, -, -⟩:=h.has.ex
 exact ⟨_,_,(blk_cell (l:=[_,_]) h2.blk 1 _ rfl).1⟩
set_option maxHeartbeats 1000000 in
theorem refFlow_out {p:Nat} {w:World} (most:Int) (h:most<0∨100000<most) :
  Calls Tryz.prog 39 #[.pointer (some ⟨p,0,none⟩),.int .i64 most] w fun e w'=>e=.returned (.tuple #[.int .i64 0,.int .i64 2])∧w'=w:=by
 by_cases h0:most<0
 ·have h0':decide (most<0)=true:=by simpa using h0
  go_enter Tryz.func39,Tryz.ntmps39
  go_wp2
  go_ret2
  exact ⟨rfl,rfl⟩
 ·have h1:100000<most:=h.resolve_left h0
  have h0':decide (most<0)=false:=by simpa using h0
  have h1':decide (100000<most)=true:=by simpa using h1
  go_enter Tryz.func39,Tryz.ntmps39
  go_wp2
  go_ret2
  exact ⟨rfl,rfl⟩
set_option maxRecDepth 100000 in
set_option maxHeartbeats 4000000 in
theorem rhas_flow {wz:World} {A:Nat→Prop} {p:Nat} {N:Net} {R:Rc} {w:World} (h:RHas wz A p N R w) (hlen:R.S.length=N.streams.length) (hv:validB N=true) (hro:RoomR N R) (hw:∀ s,s<N.streams.length→(R.s s).words.length+100000<4398046511104) (hz:Below wz.heap.size wz w) (hA:∀ b,b<wz.heap.size→A b) (m:Nat) (hm:m≤100000) :
  Calls Tryz.prog 39 #[.pointer (some ⟨p,0,none⟩),.int .i64 m] w fun e w'=>∃ (d:Nat) (b:Int) (S:Rc),FlowEnd N R m d b S∧e=.returned (.tuple #[.int .i64 (d:Nat),.int .i64 b])∧RHas wz A p N S w'∧Keeps A w w':=by
 obtain ⟨-, -, -,hw6⟩:=valid_counts hv
 have HSt:Hid (∀ d wx S (k:Nat),Held N R d S→d≤100000→k<N.workers.length→RWn wz A p N w S wx→Calls Tryz.prog 61 #[.pointer (some ⟨p,0,none⟩),.int .i64 k] wx fun e w'=>e=.returned (.int .i64 (stateOf N S k))∧RWn wz A p N w (stepR N S k) w'):=fun d wx S k hh hd hk hq=>
  (rhas_step hq.has k hk (fun s hs=>by have:=hh.words s hs;have:=hw s hs;omega) (hq.wzm hz hA) hA).mono fun e w' ⟨q1,q2,q3⟩=>⟨q1,q2,hq.keeps.trans q3⟩
 have HG:Hid (∀ d wx S,Held N R d S→RWn wz A p N w S wx→Calls Tryz.prog 36 #[.pointer (some ⟨p,0,none⟩)] wx fun e w'=>∃ a b,e=.returned (.tuple #[.int .i64 a,.int .i64 b])∧((Grows N S a b none∧RWn wz A p N w S w')∨(∃ t,b=0∧Grows N S a b (some t)∧RWn wz A p N w (growS S t) w'))):=fun d wx S hh hq=>
  (rhas_grow hq.has hh.room (hq.wzm hz hA) hA).mono fun e w' ⟨a,b,o,q1,q2,q3,q4⟩=>by
   refine ⟨a,b,q2,?_⟩
   cases o with
   | none=>exact Or.inl ⟨q1,q3,hq.keeps.trans q4⟩
   | some t=>exact Or.inr ⟨t,(grows_ok q1).2.1,q1,q3,hq.keeps.trans q4⟩
 have HRo:Hid (∀ S wx,RWn wz A p N w S wx→∃ g c,wx.cell? ⟨p,1,none⟩=some (.slice (some ⟨g,0,none⟩) N.workers.length c)):=fun S wx hq=>hq.row
 have HH0:Hid (Held N R 0 R):=⟨hlen,hro,fun s hs=>Nat.le_refl _⟩
 have HW0:Hid (RWn wz A p N w R w):=⟨h,Fr.refl _ _⟩
 have HEnd:Hid (∀ S wx,RWn wz A p N w S wx→RHas wz A p N S wx∧Keeps A w wx):=fun S wx hq=>⟨hq.has,hq.keeps⟩
 have h0':decide ((m:Int)<0)=false:=by simp
 have h1':decide ((100000:Int)<(m:Int))=false:=by simp;omega
 clear hw hro h hlen hv hz hA
 generalize RWn wz A p N w=Wn at *
 go_enter Tryz.func39,Tryz.ntmps39
 go_wp2
 clear h0' h1'
 go_loopg [6,7,8,9,10,11] (m+slack N R) (fun g n _ _ _ _ _ wr=>∃ (d:Nat) (S:Rc),n=.int .i64 d∧d≤m∧g=(m-d)+slack N S∧FlowTo N m R d S∧Held N R d S∧Wn S wr)
 case atStart=>exact ⟨0,R,rfl,Nat.zero_le _,by omega,.refl,HH0.out,HW0.out⟩
 case round=>
  obtain ⟨d,S,rfl,hd,hg,hft,hhe,hwn⟩:=hrel
  have HD:=hide hg
  have HT:=hide hft
  have HE:=hide hhe
  have HWn:=hide hwn
  clear hg hft hhe hwn HH0 HW0
  by_cases hlt:d<m
  ·have hlt':(d:Int)<(m:Int):=by omega
   go_wp2
   go_loopw [7,8,9] (fun did wv _ wr=>∃ j:Nat,j≤N.workers.length∧wv=.int .i64 j∧((did=.bool false∧(∀ i,i<j→stateOf N S i≠1)∧Wn S wr)∨(did=.bool true∧∃ k,firstGo N S N.workers.length=some k∧Wn (doStep N S k) wr))) (fun _ wv _ _=>N.workers.length-(intOf wv).toNat)
   case atStart=>exact ⟨0,Nat.zero_le _,rfl,Or.inl ⟨rfl,(fun i hi=>by omega),HWn.out⟩⟩
   case round=>
    clear HWn
    obtain ⟨j,hj,rfl,hcase⟩:=hrel
    rcases hcase with ⟨rfl,hno,hwn⟩ | ⟨rfl,k,hfi,hwn⟩
    ·obtain ⟨g,c,p1⟩:=HRo.out S wr hwn
     by_cases hjl:j<N.workers.length
     ·have HC:=hide (HSt.out d wr S j HE.out (by omega) hjl hwn)
      have hj1:(j:Int)<(N.workers.length:Int):=by omega
      have HNo:=hide hno
      clear hno hwn
      by_cases h1:stateOf N S j=1
      ·rw [stepR,if_pos h1,h1] at HC
       have HFi:=hide (first_some hjl h1 HNo.out)
       clear h1 HNo
       go_wp2_with fail
       refine (unhide HC).mono ?_
       rintro e w1 ⟨rfl,hw1⟩
       have HW1:=hide hw1
       clear hw1 HC
       go_wp2
       go_roundw
       case rel=>exact ⟨j+1,by omega,by go_num,Or.inr ⟨rfl,j,HFi.out,HW1.out⟩⟩
       case measure=>simp [intOf];omega
      ·rw [stepR,if_neg h1] at HC
       have HN2:Hid (∀ i,i<j+1→stateOf N S i≠1):=fun i hi=>by
        rcases Nat.lt_or_ge i j with h2 | h2
        ·exact HNo.out i h2
        ·have:i=j:=by omega
         subst this;exact h1
       have q:(((stateOf N S j:Nat):Int) == 1)=false:=by rw [beq_eq_false_iff_ne];omega
       generalize stateOf N S j=st at *
       clear h1 HNo
       go_wp2_with fail
       refine (unhide HC).mono ?_
       rintro e w1 ⟨rfl,hw1⟩
       have HW1:=hide hw1
       clear hw1 HC
       go_wp2
       go_roundw
       case rel=>exact ⟨j+1,by omega,by go_num,Or.inl ⟨rfl,HN2.out,HW1.out⟩⟩
       case measure=>simp [intOf];omega
     ·have hje:j=N.workers.length:=by omega
      have hj1:¬ (j:Int)<(N.workers.length:Int):=by omega
      have HFi:Hid (firstGo N S N.workers.length=none):=first_none (fun i hi=>hno i (by omega))
      have HG1:=hide (HG.out d wr S HE.out hwn)
      clear hno hwn HG hje
      go_wp2_with fail
      refine (unhide HG1).mono ?_
      rintro e w2 ⟨a,b,rfl,⟨hgr,hw2⟩ | ⟨t,rfl,hgr,hw2⟩⟩
      ·have hb:(b != 0)=true:=by rcases grows_err hgr with rfl | rfl<;>rfl
       have HGr:=hide hgr
       have HW2:=hide (HEnd.out S w2 hw2)
       clear hgr hw2
       go_wp2
       go_ret2
       exact ⟨d,b,S,⟨HT.out,Or.inr ⟨hlt,HFi.out,a,HGr.out⟩⟩,rfl,HW2.out⟩
      ·obtain ⟨ha, -,htl,htr⟩:=grows_ok hgr
       subst ha
       have HGr:=hide hgr
       have HSl:=hide (slack_grow HE.out.len htl htr)
       have HHe:=hide (HE.out.grow htl htr)
       have HW2:=hide hw2
       clear hgr htl htr hw2
       go_wp2
       go_roundg ((m-d)+slack N (growS S t))
       case measure=>have:=HD.out;have:=HSl.out;omega
       case rel=>exact ⟨d,growS S t,rfl,hd,rfl,.tail HT.out (.grow hlt HFi.out HGr.out),HHe.out,HW2.out⟩
    ·obtain ⟨g,c,p1⟩:=HRo.out (doStep N S k) wr hwn
     have HFi:=hide hfi
     have HSl:=hide (slack_step (k:=k) HE.out.len)
     have HHe:=hide (HE.out.step (k:=k))
     have HW2:=hide hwn
     clear hfi hwn
     by_cases hjl:j<N.workers.length
     ·have hj1:(j:Int)<(N.workers.length:Int):=by omega
      go_wp2
      go_roundg ((m-(d+1))+slack N (doStep N S k))
      case measure=>have:=HD.out;have:=HSl.out;omega
      case rel=>exact ⟨d+1,doStep N S k,by go_num,by omega,rfl,.tail HT.out (.step hlt HFi.out),HHe.out,HW2.out⟩
     ·have hj1:¬ (j:Int)<(N.workers.length:Int):=by omega
      go_wp2
      go_roundg ((m-(d+1))+slack N (doStep N S k))
      case measure=>have:=HD.out;have:=HSl.out;omega
      case rel=>exact ⟨d+1,doStep N S k,by go_num,by omega,rfl,.tail HT.out (.step hlt HFi.out),HHe.out,HW2.out⟩
  ·have e:d=m:=by omega
   have HW2:=hide (HEnd.out S wr HWn.out)
   clear HWn
   subst e
   go_wp2
   go_ret2
   exact ⟨d,0,S,⟨HT.out,Or.inl ⟨rfl,rfl⟩⟩,rfl,HW2.out⟩
end Go.Proofs.YthfdgdfnflilfaaGreatDoor

/- Part 14: Workers7. -/
import Derived.Test.YthfdgdfnflilfaaGreatDoorPart10
namespace Go.Proofs.YthfdgdfnflilfaaGreatDoor
open Go.RowKit Go.Conc
theorem take_calls {w:World} {b:Nat} {vw:Value} {ch:Option Nat} {sourced:Bool} {m:Sm} (h:StAt w b vw ch sourced m) (hr:sourced=true∨ch≠none) :
  Calls Tryz.prog 78 #[.pointer (some ⟨b,0,none⟩)] w fun e w'=>Took w b vw ch sourced m e w':=by
 cases ch with
 | none=>
  cases sourced
  ·simp at hr
  ·exact take_src h
 | some c=>
  have:=h.nosrc c rfl
  subst this
  exact take_chan h
def StepRead (w:World) (b:Nat) (vc:Value) (code:List Ins) (x:Wk) (i:Ins) (st:Nat→Nat) (VW:Nat→Value) (CH:Nat→Option Nat) (SRC:Nat→Bool) (M:Nat→Sm) (e:Ending) (w':World):Prop:=
 (e=.returned (.int .i64 2)∧SRC i.b.toNat=false∧(M i.b.toNat).read=(M i.b.toNat).words.length∧Below w.heap.size w w') ∨
 (e=.returned (.int .i64 1)∧¬ (SRC i.b.toNat=false∧(M i.b.toNat).read=(M i.b.toNat).words.length)∧WkAt w' b vc code (nextW x i (M i.b.toNat).words[(M i.b.toNat).read]?) ∧
  StAt w' (st i.b.toNat) (VW i.b.toNat) (CH i.b.toNat) (SRC i.b.toNat) { M i.b.toNat with read:=if (M i.b.toNat).read<(M i.b.toNat).words.length then (M i.b.toNat).read+1 else (M i.b.toNat).read} ∧
  Fr (fun k=>k=b∨k=st i.b.toNat∨CH i.b.toNat=some k) w w')
set_option maxRecDepth 100000 in
set_option maxHeartbeats 2000000 in
theorem wstep_read {w:World} {b:Nat} {vc va:Value} {code:List Ins} {x:Wk} {n:Nat} {st:Nat→Nat} (hw:WkAt w b vc code x) {VW:Nat→Value} {CH:Nat→Option Nat} {SRC:Nat→Bool} {M:Nat→Sm} (he:Env w va n st VW CH SRC M) (i:Ins) (hi:code[x.place]? = some i) (hok:opsValid i code.length n=true) (ho:i.op=1) (hrd:SRC i.b.toNat=true∨CH i.b.toNat≠none) :
  Calls Tryz.prog 48 #[.pointer (some ⟨b,0,none⟩),va] w fun e w'=>StepRead w b vc code x i st VW CH SRC M e w':=by
 obtain ⟨c0,c1, -, -, -, -, -, -⟩:=hw.cells
 obtain ⟨a,cap,hvc,hcap,hcode⟩:=code_form hw.own
 have hle:=hw.le
 have hsm:=hw.small
 have hlt:x.place<code.length:=(List.getElem?_eq_some_iff.1 hi).1
 have hie:code[x.place]=i:=(List.getElem?_eq_some_iff.1 hi).2
 obtain ⟨g,ha',d0,d1,d2,d3⟩:=hcode x.place hlt
 rw [hie] at d0 d1 d2 d3
 have HE:=hide he
 obtain ⟨ga,gcap,rfl,hgl,hal⟩:=along_at he.along
 have HAL:=hide hal
 clear hal
 have HOK:=hide hok
 obtain ⟨op,ia,ib,ic⟩:=i
 dsimp only at *
 have hrg:=valid_reg hok (by dsimp only;omega)
 have hstm:=valid_stream hok (by dsimp only;omega)
 dsimp only at hrg hstm
 subst ho
 obtain ⟨hr0,hr1⟩:=hrg
 obtain ⟨ka,rfl⟩:=Int.eq_ofNat_of_zero_le hr0
 obtain ⟨hb0,hb1⟩:=hstm
 obtain ⟨kb,rfl⟩:=Int.eq_ofNat_of_zero_le hb0
 have hka:ka<4:=by omega
 have hkb:kb<n:=by omega
 simp only [Int.toNat_natCast] at hrd
 have HW:=hide hw
 have hd0:decide ((code.length:Int)≤(x.place:Int))=false:=by simp;omega
 have hp0:(0:Int)≤(x.place:Int):=by omega
 have hp1:(x.place:Int)<(code.length:Int):=by omega
 rw [hvc,ha'] at c0
 have wrp:IntKind.i64.wrap ((x.place:Int)+1)=(x.place:Int)+1:=by rw [IntKind.wrap_i64];omega
 have HLT:=hide hlt
 clear hcode hok hi hie hle hw he
 go_enter Tryz.func48,Tryz.ntmps48
 go_wp2
 refine wp_scope_ahead 3 ?_
 generalize hJ:jumpQ Tryz.prog _ _ 3=J
 have HJ:=hide hJ
 clear hJ
 go_wp2
 go_quiet (fail)
 go_wp2
 obtain ⟨w1,hw1⟩:∃ w1,w1=w.drewN nq:=⟨_,rfl⟩
 rw [← hw1]
 have hcell:∀ p,w1.cell? p=w.cell? p:=fun p=>by rw [hw1];rfl
 rw [← hcell] at c0 c1 d0 d1 d2 d3
 clear hcell
 have hbl:Below w.heap.size w w1:=by rw [hw1];exact below_drewN (Below.refl _ _) _
 clear hw1
 have n0:=World.new_ne w1 _ c0
 have n2:=World.new_ne w1 _ d0
 go_region_held3 (fun w'=>w'.cell? ⟨b,0,none⟩=some (.slice (some ⟨g,0,none⟩) code.length cap)∧w'.cell? ⟨b,1,none⟩=some (.int .i64 x.place)∧w'.cell? ⟨g,x.place*4,none⟩=some (.int .i64 1)∧w'.cell? ⟨g,x.place*4+1,none⟩=some (.int .i64 ka)∧w'.cell? ⟨g,x.place*4+2,none⟩=some (.int .i64 kb)∧w'.cell? ⟨g,x.place*4+3,none⟩=some (.int .i64 ic)) (go_keep) (fail)
 clear wrp
 have hbl2:Below w.heap.size w (w1.alloc (.cells #[.int .i64 1,.int .i64 ka,.int .i64 kb,.int .i64 ic] 44)).drew:=(hbl.alloc hbl.size _).drew
 have a0:(w1.alloc (.cells #[.int .i64 1,.int .i64 ka,.int .i64 kb,.int .i64 ic] 44)).drew.cell? ⟨w1.heap.size,0,none⟩=some (.int .i64 1):=by simp [go_sem]
 have a1:(w1.alloc (.cells #[.int .i64 1,.int .i64 ka,.int .i64 kb,.int .i64 ic] 44)).drew.cell? ⟨w1.heap.size,1,none⟩=some (.int .i64 ka):=by simp [go_sem]
 have a2:(w1.alloc (.cells #[.int .i64 1,.int .i64 ka,.int .i64 kb,.int .i64 ic] 44)).drew.cell? ⟨w1.heap.size,2,none⟩=some (.int .i64 kb):=by simp [go_sem]
 have a3:(w1.alloc (.cells #[.int .i64 1,.int .i64 ka,.int .i64 kb,.int .i64 ic] 44)).drew.cell? ⟨w1.heap.size,3,none⟩=some (.int .i64 ic):=by simp [go_sem]
 have HNE:Hid (b≠w1.heap.size):=fun e=>n0 e.symm
 have HAB:Hid ((w1.alloc (.cells #[.int .i64 1,.int .i64 ka,.int .i64 kb,.int .i64 ic] 44)).drew.heap[w1.heap.size]? = some (.cells #[.int .i64 1,.int .i64 ka,.int .i64 kb,.int .i64 ic] 44 (0,0))):=heap_alloc_new _ _
 have HS12:Hid (w1.heap.size<(w1.alloc (.cells #[.int .i64 1,.int .i64 ka,.int .i64 kb,.int .i64 ic] 44)).drew.heap.size):=by unfold Hid;simp
 generalize (w1.alloc (.cells #[.int .i64 1,.int .i64 ka,.int .i64 kb,.int .i64 ic] 44)).drew=w2 at *
 clear c0 c1 d0 d1 d2 d3 n0 n2
 have hw2:=HW.out.below hbl2
 obtain ⟨c0,c1,c2,c3,c4,c5,c6,cf⟩:=hw2.cells
 have f1:=cf 1
 have f6:=cf 6
 have HCF:=hide cf
 have HF2:Hid (Fr (fun k=>k=b) w w2):=Fr.of_below hbl2
 have HW2:=hide hw2
 clear cf hw2
 go_wp2
 refine wp_goto ?_
 show J (.goto 0) _ _
 rw [← HJ.out]
 refine ⟨_,rfl,?_⟩
 clear HJ
 generalize hJ1:jumpQ Tryz.prog _ _ 2=J1
 have HJ1:=hide hJ1
 clear hJ1
 have da:=HAL.out w2 hbl2 kb hkb
 have HT:=hide (((unhide HE).at' kb hkb).below hbl2)
 go_wp2_with fail
 refine (take_calls HT.out hrd).mono ?_
 have hsb:=HT.out.blk
 have hst2:st kb<w2.heap.size:=lt_of_blk hsb
 have nb1:b≠st kb:=ne_of_types HW2.out.blk hsb (by decide)
 have nb2:∀ c,CH kb=some c→b≠c:=fun c hc=>by
  obtain ⟨⟨s,r,h1⟩,_⟩:=HT.out.chan c hc
  exact ne_of_chan HW2.out.blk h1
 have na1:w1.heap.size≠st kb:=ne_of_types HAB.out hsb (by decide)
 have na2:∀ c,CH kb=some c→w1.heap.size≠c:=fun c hc=>by
  obtain ⟨⟨s,r,h1⟩,_⟩:=HT.out.chan c hc
  exact ne_of_chan HAB.out h1
 have no1:∀ y,vc.ownBlock=some y→y≠st kb:=fun y hy=>by
  obtain ⟨cur,h1⟩:=own_block HW2.out.own hy
  exact ne_of_types h1 hsb (by decide)
 have no2:∀ y,vc.ownBlock=some y→∀ c,CH kb=some c→y≠c:=fun y hy c hc=>by
  obtain ⟨cur,h1⟩:=own_block HW2.out.own hy
  obtain ⟨⟨s,r,h2⟩,_⟩:=HT.out.chan c hc
  exact ne_of_chan h1 h2
 have HNB:=hide (And.intro nb1 nb2)
 have HNA:=hide (And.intro na1 na2)
 have HNO:=hide (And.intro no1 no2)
 clear nb1 nb2 na1 na2 no1 no2 hst2 hsb
 rintro e w3 (⟨rfl,hlt3,hst3,hfr3,hsz3⟩ | ⟨rfl,h0,heq,q,rfl⟩ | ⟨rfl,h1,heq,q,rfl⟩)
 ·have hw3:WkAt w3 b vc code x:=HW2.out.stays fun y hy=>by
   rcases hy with rfl | hy
   ·exact hfr3.block _ (lt_of_blk HW2.out.blk) (fun h=>h.elim HNB.out.1 (fun h2=>HNB.out.2 _ h2 rfl))
   ·obtain ⟨cur,h1⟩:=own_block HW2.out.own hy
    exact hfr3.block _ (lt_of_blk h1) (fun h=>h.elim (HNO.out.1 y hy) (fun h2=>HNO.out.2 y hy _ h2 rfl))
  have hab3:w3.heap[w1.heap.size]? = some (.cells #[.int .i64 1,.int .i64 ka,.int .i64 kb,.int .i64 ic] 44 (0,0)):=by
   rw [hfr3.block _ (lt_of_blk HAB.out) (fun h=>h.elim HNA.out.1 (fun h2=>HNA.out.2 _ h2 rfl))];exact HAB.out
  have z1:w3.cell? ⟨w1.heap.size,1,none⟩=some (.int .i64 ka):=row_cell hab3 rfl
  have cr:=hw3.regCell ka hka
  have fr:=row_frozen hw3.blk (2+ka)
  have HST3:=hide hst3
  have HFR3:Hid (Fr (fun k=>k=b∨k=st kb∨CH kb=some k) w w3):=(Fr.of_below hbl2).trans hfr3 (fun y _ h=>Or.inr h)
  have HW3:=hide hw3
  have HLT3:=hide hlt3
  have HSTB:Hid (st kb≠b):=fun e=>HNB.out.1 e.symm
  have nb:b≠w1.heap.size:=HNE.out
  have hk0:(0:Int)≤(ka:Int):=by omega
  have hk1:(ka:Int)<4:=by omega
  obtain ⟨v,hv⟩:∃ v,v=(M kb).words.getD (M kb).read 0:=⟨_,rfl⟩
  rw [← hv]
  have HNX:Hid (nextW x ⟨1,ka,kb,ic⟩ (M kb).words[(M kb).read]? = ⟨x.place+1,upd x.r ka v,wrap64 (x.steps+1)⟩):=by
   unfold Hid;rw [List.getElem?_eq_getElem hlt3,hv,getD_eq _ _ _ hlt3];simp [nextW]
  clear hv hst3 hfr3 hw3 hlt3 hab3 c0 c1 c2 c3 c4 c5 c6 f1 f6 a0 a1 a2 a3 da hsz3
  go_wp2
  go_region_held3 (fun w'=>w'.cell? ⟨w1.heap.size,1,none⟩=some (.int .i64 ka)) (go_keep) (fail)
  have HW4:Hid (WkAt (w3.setCell ⟨b,2+ka,none⟩ (.int .i64 v)).drew b vc code ⟨x.place,upd x.r ka v,x.steps⟩):=(HW3.out.reg ka hka v).below ((Below.refl _ _).drew)
  have HFR4:Hid (Fr (fun k=>k=b∨k=st kb∨CH kb=some k) w (w3.setCell ⟨b,2+ka,none⟩ (.int .i64 v)).drew):=(Fr.setCell (S:=fun k=>k=b∨k=st kb∨CH kb=some k) HFR3.out (p:=⟨b,2+ka,none⟩) (Or.inr (Or.inl rfl)) _).drewN 1
  have HST4:Hid (∀ y,y≠b→(w3.setCell ⟨b,2+ka,none⟩ (.int .i64 v)).drew.heap[y]? = w3.heap[y]?):=fun y hy=>Below.heap_setCell _ _ _ _ hy
  clear cr fr z1
  generalize (w3.setCell ⟨b,2+ka,none⟩ (.int .i64 v)).drew=w4 at *
  obtain ⟨c0,c1,c2,c3,c4,c5,c6,cf⟩:=HW4.out.cells
  have f1:=cf 1
  have f6:=cf 6
  clear cf
  go_wp2
  refine wp_goto ?_
  show J1 (.goto 6) _ _
  rw [← HJ1.out]
  refine ⟨_,rfl,?_⟩
  clear HJ1
  generalize hJ2:jumpQ Tryz.prog _ _ 1=J2
  have HJ2:=hide hJ2
  clear hJ2
  go_wp2
  rw [← HJ2.out]
  refine jumpQ_ret ?_
  go_ret
  obtain ⟨q1,q2,q3⟩:=alone_end (w:=w4) (y:=nextW x ⟨1,ka,kb,ic⟩ (M kb).words[(M kb).read]?) (Fr.refl _ _) HW4.out ((x.place:Int)+1) (by rw [HNX.out];simp) (by rw [HNX.out];have:=HLT.out;dsimp only;omega) (by rw [HNX.out]) (by rw [HNX.out])
  have hne:∀ c,CH kb=some c→c≠b:=fun c hc e=>HNB.out.2 c hc e.symm
  have hall:∀ y,y≠b→((w4.setCell ⟨b,1,none⟩ (.int .i64 ((x.place:Int)+1))).setCell ⟨b,6,none⟩ (.int .i64 (wrap64 (x.steps+1)))).heap[y]? = w3.heap[y]? := fun y hy=>by
   rw [Below.heap_setCell _ _ _ _ hy,Below.heap_setCell _ _ _ _ hy];exact HST4.out y hy
  refine Or.inr ⟨rfl,fun h=>?_,q2,?_,?_⟩
  ·have h2:=h.2;have:=HLT3.out;simp only [Int.toNat_natCast] at h2;omega
  ·simp only [Int.toNat_natCast]
   rw [if_pos HLT3.out]
   refine HST3.out.stays fun y hy=>hall y ?_
   rcases hy with rfl | hy | hy
   ·exact HSTB.out
   ·obtain ⟨cur,h1⟩:=own_block HST3.out.own hy
    exact ne_of_types h1 HW3.out.blk (by decide)
   ·exact hne y hy
  ·simp only [Int.toNat_natCast]
   exact Fr.setCell (S:=fun k=>k=b∨k=st kb∨CH kb=some k) (Fr.setCell (S:=fun k=>k=b∨k=st kb∨CH kb=some k) HFR4.out (p:=⟨b,1,none⟩) (Or.inr (Or.inl rfl)) _) (p:=⟨b,6,none⟩) (Or.inr (Or.inl rfl)) _
 ·have HE0:=hide (And.intro h0 heq)
  clear h0 heq
  go_wp2
  rw [← HJ1.out]
  refine jumpQ_ret ?_
  go_ret
  refine Or.inl ⟨rfl,?_,?_,below_drewN hbl2 q⟩
  ·simpa using HE0.out.1
  ·simpa using HE0.out.2
 ·have HE0:=hide (And.intro h1 heq)
  have HNX:Hid (nextW x ⟨1,ka,kb,ic⟩ (M kb).words[(M kb).read]? = ⟨ic.toNat,x.r,wrap64 (x.steps+1)⟩):=by
   unfold Hid;rw [List.getElem?_eq_none (by omega)];simp [nextW]
  clear h1 heq
  have hpl:=valid_place HOK.out (Or.inl rfl)
  dsimp only at hpl
  go_wp2
  refine wp_goto ?_
  show J1 (.goto 4) _ _
  rw [← HJ1.out]
  refine ⟨_,rfl,?_⟩
  clear HJ1
  generalize hJ2:jumpQ Tryz.prog _ _ 1=J2
  have HJ2:=hide hJ2
  clear hJ2
  go_wp2
  go_step3
  go_wp2
  rw [← HJ2.out]
  refine jumpQ_ret ?_
  go_ret
  have HW5:=HW2.out.below (below_drewN (Below.refl w2.heap.size w2) q)
  have R:=alone_end (w:=w2.drewN q) (y:=nextW x ⟨1,ka,kb,ic⟩ (M kb).words[(M kb).read]?) (Fr.refl _ _) HW5 ic (by rw [HNX.out];dsimp only;omega) (by rw [HNX.out];dsimp only;omega) (by rw [HNX.out]) (by rw [HNX.out])
  obtain ⟨q1,q2,q3⟩:=R
  refine Or.inr ⟨rfl,fun h=>?_,q2,?_,?_⟩
  ·have h2:=h.1;have:=HE0.out.1;simp only [Int.toNat_natCast] at h2;rw [this] at h2;cases h2
  ·simp only [Int.toNat_natCast]
   rw [if_neg (by have:=HE0.out.2;omega)]
   refine (HT.out.below (below_drewN (Below.refl w2.heap.size w2) q)).stays fun y hy=>?_
   have hyb:y≠b:=by
    rcases hy with rfl | hy | hy
    ·exact fun e=>HNB.out.1 e.symm
    ·obtain ⟨cur,h1⟩:=own_block HT.out.own hy
     exact ne_of_types h1 HW2.out.blk (by decide)
    ·exact fun e=>HNB.out.2 y hy e.symm
   rw [Below.heap_setCell _ _ _ _ hyb,Below.heap_setCell _ _ _ _ hyb]
  ·simp only [Int.toNat_natCast]
   exact Fr.setCell (S:=fun k=>k=b∨k=st kb∨CH kb=some k) (Fr.setCell (S:=fun k=>k=b∨k=st kb∨CH kb=some k) ((Fr.of_below hbl2).drewN q) (p:=⟨b,1,none⟩) (Or.inr (Or.inl rfl)) _) (p:=⟨b,6,none⟩) (Or.inr (Or.inl rfl)) _
end Go.Proofs.YthfdgdfnflilfaaGreatDoor

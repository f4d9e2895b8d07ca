/- Part 4: Workers3, Workers5, Workers6, Streams6, Workers8, Model2. -/
import Derived.WalkMore
import Derived.StillTailTactics
import Derived.Test.YthfdgdfnflilfaaGreatDoorPart3
namespace Go.Proofs.YthfdgdfnflilfaaGreatDoor
open Go.RowKit Go.Conc
def jumpQ (P:Program) (c:Code) (Q:Exit→Act→World→Prop):Nat→Exit→Act→World→Prop
 | 0,e,a,w=>match e with
  | .goto _=>False
  | e=>Q e a w
 | n+1,e,a,w=>match e with
  | .goto l=>∃ rest,findLabel c l=some rest∧rest.wp P (jumpQ P c Q n) a w
  | e=>Q e a w
theorem jumpQ_ret {P:Program} {c:Code} {Q:Exit→Act→World→Prop} {n:Nat} {a:Act} {w:World} (h:Q .ret a w):jumpQ P c Q n .ret a w:=by
 cases n<;>exact h
theorem scope_key {P:Program} {c:Code} {Q:Exit→Act→World→Prop} (b:Frame) (k:List Item) (cs:List Frame):∀ n (x:Code) (a:Act) (w:World),x.wp P (jumpQ P c Q n) a w →
  ∃ e a' w',Q e a' w'∧Arrives P (lone (b.at a (.code x::.inScope c::k)) cs w) b k cs e a' w'
 | 0,x,a,w,h=>by
  obtain ⟨e,a1,w1,hq,harr⟩:=h b (.inScope c::k) cs
  cases e with
  | normal=>exact ⟨.normal,a1,w1,hq,Steps.trans harr (.one step_inScope)⟩
  | exit id=>exact ⟨.exit id,a1,w1,hq,fun k' hk=>harr k' (by simp [exitTo,hk])⟩
  | goto l=>exact hq.elim
  | ret=>exact ⟨_,a1,w1,hq,harr⟩
  | panic ch=>exact ⟨_,a1,w1,hq,harr⟩
  | outgrown=>exact ⟨_,a1,w1,hq,harr⟩
 | n+1,x,a,w,h=>by
  obtain ⟨e,a1,w1,hq,harr⟩:=h b (.inScope c::k) cs
  cases e with
  | normal=>exact ⟨.normal,a1,w1,hq,Steps.trans harr (.one step_inScope)⟩
  | exit id=>exact ⟨.exit id,a1,w1,hq,fun k' hk=>harr k' (by simp [exitTo,hk])⟩
  | goto l=>
   obtain ⟨rest,hf,hr⟩:=hq
   obtain ⟨e2,a2,w2,hq2,harr2⟩:=scope_key b k cs n rest a1 w1 hr
   exact ⟨e2,a2,w2,hq2,.of_steps (harr _ (by simp [gotoIn,hf])) harr2⟩
  | ret=>exact ⟨_,a1,w1,hq,harr⟩
  | panic ch=>exact ⟨_,a1,w1,hq,harr⟩
  | outgrown=>exact ⟨_,a1,w1,hq,harr⟩
theorem wp_scope_ahead {P:Program} {c:Code} {Q:Exit→Act→World→Prop} {a:Act} {w:World} (n:Nat) (h:c.wp P (jumpQ P c Q n) a w):(Code.scope c).wp P Q a w:=by
 intro b k cs
 obtain ⟨e,a1,w1,hq,harr⟩:=scope_key b k cs n c a w h
 exact ⟨e,a1,w1,hq,.of_steps (.one step_scope) harr⟩
set_option maxRecDepth 100000 in
set_option maxHeartbeats 2000000 in
theorem needsRoom_calls {w:World} {b:Nat} {vc va:Value} {code:List Ins} {x:Wk} {n:Nat} {st:Nat→Nat} {VW:Nat→Value} {CH:Nat→Option Nat} {SRC:Nat→Bool} {M:Nat→Sm}
  (hw:WkAt w b vc code x) (he:Env w va n st VW CH SRC M) (hc:CodeOk code n CH SRC) :
  Calls Tryz.prog 95 #[.pointer (some ⟨b,0,none⟩),va] w fun e w'=>
   ((stateL code x CH SRC M=3∧∃ i,code[x.place]? = some i∧e=.returned (.tuple #[.int .i64 i.b,.bool true]))∨(stateL code x CH SRC M≠3∧e=.returned (.tuple #[.int .i64 0,.bool false])))∧Below w.heap.size w w':=by
 have HS:=hide (wstate_calls hw he hc)
 by_cases h3:stateL code x CH SRC M=3
 ·have hlt:x.place<code.length:=by
   rcases Nat.lt_or_ge x.place code.length with h | h
   ·exact h
   ·simp only [stateL] at h3;rw [List.getElem?_eq_none h] at h3;cases h3
  obtain ⟨a,cap,hvc,hcap,hcode⟩:=code_form hw.own
  have hwb:∀ wx,Below w.heap.size w wx→wx.cell? ⟨b,0,none⟩=some vc∧wx.cell? ⟨b,1,none⟩=some (.int .i64 x.place):=fun wx hx=>⟨(hw.below hx).cells.1,(hw.below hx).cells.2.1⟩
  obtain ⟨g,ha,d0,d1,d2,d3⟩:=hcode x.place hlt
  have HW:=hide hwb
  have HD:Hid (∀ wx,Below w.heap.size w wx→wx.cell? ⟨g,x.place*4+2,none⟩=some (.int .i64 code[x.place].b)):=fun wx hx=>(hx.cell (p:=⟨g,_,none⟩) (lt_of_cell d2)).trans d2
  have HI:Hid (code[x.place]? = some code[x.place]):=List.getElem?_eq_getElem hlt
  have hsm:=hw.small
  have H3:=hide h3
  rw [h3] at HS
  have hp0:(0:Int)≤(x.place:Int):=by omega
  have hp1:(x.place:Int)<(code.length:Int):=by omega
  obtain ⟨ga,gcap,rfl, -, -⟩:=along_at he.along
  subst ha
  subst hvc
  generalize code[x.place]=ins at *
  obtain ⟨op,ia,ib,ic⟩:=ins
  dsimp only at *
  clear hcode d0 d1 d2 d3 hwb h3 hw he hc hlt
  go_enter Tryz.func95,Tryz.ntmps95
  go_wp2_with fail
  refine (unhide HS).mono ?_
  rintro e w1 ⟨rfl,hb1⟩
  obtain ⟨c0,c1⟩:=HW.out w1 hb1
  have d2:=HD.out w1 hb1
  go_wp2
  go_quiet (fail)
  go_wp2
  go_ret2
  exact ⟨Or.inl ⟨H3.out,_,HI.out,rfl⟩,below_drewN hb1 _⟩
 ·have H3:=hide h3
  have hbb:((stateL code x CH SRC M:Int) != 3)=true:=by simp;omega
  generalize stateL code x CH SRC M=s at *
  obtain ⟨ga,gcap,rfl, -, -⟩:=along_at he.along
  clear hw he hc
  go_enter Tryz.func95,Tryz.ntmps95
  go_wp2_with fail
  refine (unhide HS).mono ?_
  rintro e w1 ⟨rfl,hb1⟩
  go_wp2
  go_ret2
  exact ⟨Or.inr ⟨H3.out,rfl⟩,hb1⟩
def Alone (w:World) (b:Nat) (vc:Value) (code:List Ins) (y:Wk) (e:Ending) (w':World):Prop:=
 e=.returned (.int .i64 1)∧WkAt w' b vc code y∧Fr (fun k=>k=b) w w'
theorem alone_end {w w2:World} {b:Nat} {vc:Value} {code:List Ins} {x y:Wk} (hf:Fr (fun k=>k=b) w w2) (h:WkAt w2 b vc code x) (p:Int) (hp:(y.place:Int)=p) (hple:y.place≤code.length) (hr:y.r=x.r) (hs:y.steps=wrap64 (x.steps+1)) :
  Alone w b vc code y (.returned (.int .i64 1)) ((w2.setCell ⟨b,1,none⟩ (.int .i64 p)).setCell ⟨b,6,none⟩ (.int .i64 (wrap64 (x.steps+1)))):=by
 refine ⟨rfl,⟨?_,?_,hple,h.small⟩,?_⟩
 ·have h1:=blk_set h.blk 1 (.int .i64 p)
  have h2:=blk_set h1 6 (.int .i64 (wrap64 (x.steps+1)))
  rw [hr,hs,hp]
  simpa using h2
 ·refine own_of_block h.own fun g hg=>?_
  rw [Below.heap_setCell _ _ _ _ (h.ne_own hg),Below.heap_setCell _ _ _ _ (h.ne_own hg)]
 ·exact Fr.setCell (S:=fun k=>k=b) (Fr.setCell (S:=fun k=>k=b) hf (p:=⟨b,1,none⟩) (Or.inr rfl) _) (p:=⟨b,6,none⟩) (Or.inr rfl) _
theorem WkAt.reg {w:World} {b:Nat} {vc:Value} {code:List Ins} {x:Wk} (h:WkAt w b vc code x) (k:Nat) (hk:k<4) (v:Int):WkAt (w.setCell ⟨b,2+k,none⟩ (.int .i64 v)) b vc code ⟨x.place,upd x.r k v,x.steps⟩:=by
 refine ⟨?_,?_,h.le,h.small⟩
 ·have h1:=blk_set h.blk (2+k) (.int .i64 v)
  rw [h1]
  congr 2
  rcases (show k=0∨k=1∨k=2∨k=3 by omega) with rfl | rfl | rfl | rfl<;>simp [upd]
 ·exact own_of_block h.own fun g hg=>Below.heap_setCell _ _ _ _ (h.ne_own hg)
theorem WkAt.regCell {w:World} {b:Nat} {vc:Value} {code:List Ins} {x:Wk} (h:WkAt w b vc code x) (k:Nat) (hk:k<4):w.cell? ⟨b,2+k,none⟩=some (.int .i64 (x.r k)):=by
 rcases (show k=0∨k=1∨k=2∨k=3 by omega) with rfl | rfl | rfl | rfl
 ·exact row_cell h.blk rfl
 ·exact row_cell h.blk rfl
 ·exact row_cell h.blk rfl
 ·exact row_cell h.blk rfl
set_option maxRecDepth 100000 in
set_option maxHeartbeats 2000000 in
theorem wstep_goto {w:World} {b:Nat} {vc va:Value} {code:List Ins} {x:Wk} {n:Nat} {st:Nat→Nat} (hw:WkAt w b vc code x) (ha:Along w va st n) (i:Ins) (hi:code[x.place]? = some i) (hok:opsValid i code.length n=true) (ho:i.op=9) :
  Calls Tryz.prog 48 #[.pointer (some ⟨b,0,none⟩),va] w fun e w'=>Alone w b vc code (nextW x i none) e w':=by
 obtain ⟨c0,c1, -, -, -, -, -, -⟩:=hw.cells
 obtain ⟨a,cap,hvc,hcap,hcode⟩:=code_form hw.own
 have hle:=hw.le
 have hsm:=hw.small
 have hlt:x.place<code.length:=(List.getElem?_eq_some_iff.1 hi).1
 have hie:code[x.place]=i:=(List.getElem?_eq_some_iff.1 hi).2
 obtain ⟨g,ha',d0,d1,d2,d3⟩:=hcode x.place hlt
 rw [hie] at d0 d1 d2 d3
 obtain ⟨ga,gcap,rfl, -, -⟩:=along_at ha
 have HOK:=hide hok
 obtain ⟨op,ia,ib,ic⟩:=i
 dsimp only at *
 have hpl:=valid_place hok (Or.inr (Or.inr ho))
 dsimp only at hpl
 subst ho
 have HW:=hide hw
 have hd0:decide ((code.length:Int)≤(x.place:Int))=false:=by simp;omega
 have hp0:(0:Int)≤(x.place:Int):=by omega
 have hp1:(x.place:Int)<(code.length:Int):=by omega
 rw [hvc,ha'] at c0
 have wrp:IntKind.i64.wrap ((x.place:Int)+1)=(x.place:Int)+1:=by rw [IntKind.wrap_i64];omega
 clear hcode hok hi hie hle hw ha
 go_enter Tryz.func48,Tryz.ntmps48
 go_wp2
 refine wp_scope_ahead 3 ?_
 generalize hJ:jumpQ Tryz.prog _ _ 3=J
 have HJ:=hide hJ
 clear hJ
 go_wp2
 go_quiet (fail)
 go_wp2
 obtain ⟨w1,hw1⟩:∃ w1,w1=w.drewN nq:=⟨_,rfl⟩
 rw [← hw1]
 have hcell:∀ p,w1.cell? p=w.cell? p:=fun p=>by rw [hw1];rfl
 rw [← hcell] at c0 c1 d0 d1 d2 d3
 clear hcell
 have hbl:Below w.heap.size w w1:=by rw [hw1];exact below_drewN (Below.refl _ _) _
 clear hw1
 have n0:=World.new_ne w1 _ c0
 have n2:=World.new_ne w1 _ d0
 go_region_held3 (fun w'=>w'.cell? ⟨b,0,none⟩=some (.slice (some ⟨g,0,none⟩) code.length cap)∧w'.cell? ⟨b,1,none⟩=some (.int .i64 x.place)∧w'.cell? ⟨g,x.place*4,none⟩=some (.int .i64 9)∧w'.cell? ⟨g,x.place*4+1,none⟩=some (.int .i64 ia)∧w'.cell? ⟨g,x.place*4+2,none⟩=some (.int .i64 ib)∧w'.cell? ⟨g,x.place*4+3,none⟩=some (.int .i64 ic)) (go_keep) (fail)
 clear wrp
 have hbl2:Below w.heap.size w (w1.alloc (.cells #[.int .i64 9,.int .i64 ia,.int .i64 ib,.int .i64 ic] 44)).drew:=(hbl.alloc hbl.size _).drew
 have a0:(w1.alloc (.cells #[.int .i64 9,.int .i64 ia,.int .i64 ib,.int .i64 ic] 44)).drew.cell? ⟨w1.heap.size,0,none⟩=some (.int .i64 9):=by simp [go_sem]
 have a1:(w1.alloc (.cells #[.int .i64 9,.int .i64 ia,.int .i64 ib,.int .i64 ic] 44)).drew.cell? ⟨w1.heap.size,1,none⟩=some (.int .i64 ia):=by simp [go_sem]
 have a2:(w1.alloc (.cells #[.int .i64 9,.int .i64 ia,.int .i64 ib,.int .i64 ic] 44)).drew.cell? ⟨w1.heap.size,2,none⟩=some (.int .i64 ib):=by simp [go_sem]
 have a3:(w1.alloc (.cells #[.int .i64 9,.int .i64 ia,.int .i64 ib,.int .i64 ic] 44)).drew.cell? ⟨w1.heap.size,3,none⟩=some (.int .i64 ic):=by simp [go_sem]
 have HNE:Hid (b≠w1.heap.size):=fun e=>n0 e.symm
 generalize (w1.alloc (.cells #[.int .i64 9,.int .i64 ia,.int .i64 ib,.int .i64 ic] 44)).drew=w2 at *
 clear c0 c1 d0 d1 d2 d3 n0 n2
 have hw2:=HW.out.below hbl2
 obtain ⟨c0,c1,c2,c3,c4,c5,c6,cf⟩:=hw2.cells
 have f1:=cf 1
 have f6:=cf 6
 have HCF:=hide cf
 have HF2:Hid (Fr (fun k=>k=b) w w2):=Fr.of_below hbl2
 have HW2:=hide hw2
 clear cf hw2
 go_wp2
 refine wp_goto ?_
 show J (.goto 4) _ _
 rw [← HJ.out]
 refine ⟨_,rfl,?_⟩
 clear HJ
 generalize hJ1:jumpQ Tryz.prog _ _ 2=J1
 have HJ1:=hide hJ1
 clear hJ1
 go_wp2
 go_step3
 go_wp2
 rw [← HJ1.out]
 refine jumpQ_ret ?_
 go_ret
 exact alone_end (y:=nextW x ⟨9,ia,ib,ic⟩ none) HF2.out HW2.out ic (by simp [nextW];omega) (by simp [nextW];omega) (by simp [nextW]) (by simp [nextW])
set_option maxRecDepth 100000 in
set_option maxHeartbeats 2000000 in
theorem wstep_if_no {w:World} {b:Nat} {vc va:Value} {code:List Ins} {x:Wk} {n:Nat} {st:Nat→Nat} (hw:WkAt w b vc code x) (ha:Along w va st n) (i:Ins) (hi:code[x.place]? = some i) (hok:opsValid i code.length n=true) (ho:i.op=8) (hz:x.r i.a.toNat=0) :
  Calls Tryz.prog 48 #[.pointer (some ⟨b,0,none⟩),va] w fun e w'=>Alone w b vc code (nextW x i none) e w':=by
 obtain ⟨c0,c1, -, -, -, -, -, -⟩:=hw.cells
 obtain ⟨a,cap,hvc,hcap,hcode⟩:=code_form hw.own
 have hle:=hw.le
 have hsm:=hw.small
 have hlt:x.place<code.length:=(List.getElem?_eq_some_iff.1 hi).1
 have hie:code[x.place]=i:=(List.getElem?_eq_some_iff.1 hi).2
 obtain ⟨g,ha',d0,d1,d2,d3⟩:=hcode x.place hlt
 rw [hie] at d0 d1 d2 d3
 obtain ⟨ga,gcap,rfl, -, -⟩:=along_at ha
 have HOK:=hide hok
 obtain ⟨op,ia,ib,ic⟩:=i
 dsimp only at *
 have hpl:=valid_place hok (Or.inr (Or.inl ho))
 have hrg:=valid_reg hok (by dsimp only;omega)
 dsimp only at hpl hrg
 subst ho
 obtain ⟨hr0,hr1⟩:=hrg
 obtain ⟨ka,rfl⟩:=Int.eq_ofNat_of_zero_le hr0
 have hka:ka<4:=by omega
 simp only [Int.toNat_natCast] at hz
 have HZ:=hide hz
 clear hz
 have HW:=hide hw
 have hd0:decide ((code.length:Int)≤(x.place:Int))=false:=by simp;omega
 have hp0:(0:Int)≤(x.place:Int):=by omega
 have hp1:(x.place:Int)<(code.length:Int):=by omega
 rw [hvc,ha'] at c0
 have wrp:IntKind.i64.wrap ((x.place:Int)+1)=(x.place:Int)+1:=by rw [IntKind.wrap_i64];omega
 clear hcode hok hi hie hle hw ha
 go_enter Tryz.func48,Tryz.ntmps48
 go_wp2
 refine wp_scope_ahead 3 ?_
 generalize hJ:jumpQ Tryz.prog _ _ 3=J
 have HJ:=hide hJ
 clear hJ
 go_wp2
 go_quiet (fail)
 go_wp2
 obtain ⟨w1,hw1⟩:∃ w1,w1=w.drewN nq:=⟨_,rfl⟩
 rw [← hw1]
 have hcell:∀ p,w1.cell? p=w.cell? p:=fun p=>by rw [hw1];rfl
 rw [← hcell] at c0 c1 d0 d1 d2 d3
 clear hcell
 have hbl:Below w.heap.size w w1:=by rw [hw1];exact below_drewN (Below.refl _ _) _
 clear hw1
 have n0:=World.new_ne w1 _ c0
 have n2:=World.new_ne w1 _ d0
 go_region_held3 (fun w'=>w'.cell? ⟨b,0,none⟩=some (.slice (some ⟨g,0,none⟩) code.length cap)∧w'.cell? ⟨b,1,none⟩=some (.int .i64 x.place)∧w'.cell? ⟨g,x.place*4,none⟩=some (.int .i64 8)∧w'.cell? ⟨g,x.place*4+1,none⟩=some (.int .i64 ka)∧w'.cell? ⟨g,x.place*4+2,none⟩=some (.int .i64 ib)∧w'.cell? ⟨g,x.place*4+3,none⟩=some (.int .i64 ic)) (go_keep) (fail)
 clear wrp
 have hbl2:Below w.heap.size w (w1.alloc (.cells #[.int .i64 8,.int .i64 ka,.int .i64 ib,.int .i64 ic] 44)).drew:=(hbl.alloc hbl.size _).drew
 have a0:(w1.alloc (.cells #[.int .i64 8,.int .i64 ka,.int .i64 ib,.int .i64 ic] 44)).drew.cell? ⟨w1.heap.size,0,none⟩=some (.int .i64 8):=by simp [go_sem]
 have a1:(w1.alloc (.cells #[.int .i64 8,.int .i64 ka,.int .i64 ib,.int .i64 ic] 44)).drew.cell? ⟨w1.heap.size,1,none⟩=some (.int .i64 ka):=by simp [go_sem]
 have a2:(w1.alloc (.cells #[.int .i64 8,.int .i64 ka,.int .i64 ib,.int .i64 ic] 44)).drew.cell? ⟨w1.heap.size,2,none⟩=some (.int .i64 ib):=by simp [go_sem]
 have a3:(w1.alloc (.cells #[.int .i64 8,.int .i64 ka,.int .i64 ib,.int .i64 ic] 44)).drew.cell? ⟨w1.heap.size,3,none⟩=some (.int .i64 ic):=by simp [go_sem]
 have HNE:Hid (b≠w1.heap.size):=fun e=>n0 e.symm
 generalize (w1.alloc (.cells #[.int .i64 8,.int .i64 ka,.int .i64 ib,.int .i64 ic] 44)).drew=w2 at *
 clear c0 c1 d0 d1 d2 d3 n0 n2
 have hw2:=HW.out.below hbl2
 obtain ⟨c0,c1,c2,c3,c4,c5,c6,cf⟩:=hw2.cells
 have f1:=cf 1
 have f6:=cf 6
 have HCF:=hide cf
 have HF2:Hid (Fr (fun k=>k=b) w w2):=Fr.of_below hbl2
 have HW2:=hide hw2
 clear cf hw2
 go_wp2
 refine wp_goto ?_
 show J (.goto 3) _ _
 rw [← HJ.out]
 refine ⟨_,rfl,?_⟩
 clear HJ
 generalize hJ1:jumpQ Tryz.prog _ _ 2=J1
 have HJ1:=hide hJ1
 clear hJ1
 have cr:=HW2.out.regCell ka hka
 rw [HZ.out] at cr
 have hk0:(0:Int)≤(ka:Int):=by omega
 have hk1:(ka:Int)<4:=by omega
 go_wp2
 go_quiet (fail)
 obtain ⟨w3,hw3⟩:∃ w3,w3=w2.drewN nq:=⟨_,rfl⟩
 rw [← hw3]
 have hbl3:Below w2.heap.size w2 w3:=by rw [hw3];exact below_drewN (Below.refl _ _) _
 have hw3':=HW2.out.below hbl3
 have HF3:Hid (Fr (fun k=>k=b) w w3):=by unfold Hid;rw [hw3];exact HF2.out.drewN _
 have hcell:∀ p,w3.cell? p=w2.cell? p:=fun p=>by rw [hw3];rfl
 rw [← hcell] at a3
 clear hcell hw3 cr c0 c1 c2 c3 c4 c5 c6 f1 f6 a0 a1 a2
 obtain ⟨c0,c1,c2,c3,c4,c5,c6,cf⟩:=hw3'.cells
 have f1:=cf 1
 have f6:=cf 6
 have HW3:=hide hw3'
 clear cf hw3'
 go_wp2
 refine wp_goto ?_
 show J1 (.goto 6) _ _
 rw [← HJ1.out]
 refine ⟨_,rfl,?_⟩
 clear HJ1
 generalize hJ2:jumpQ Tryz.prog _ _ 1=J2
 have HJ2:=hide hJ2
 clear hJ2
 go_wp2
 rw [← HJ2.out]
 refine jumpQ_ret ?_
 go_ret
 exact alone_end (y:=nextW x ⟨8,ka,ib,ic⟩ none) HF3.out HW3.out _ (by simp [nextW,HZ.out]) (by simp [nextW,HZ.out];omega) (by simp [nextW]) (by simp [nextW])
set_option maxRecDepth 100000 in
set_option maxHeartbeats 2000000 in
theorem wstep_if_yes {w:World} {b:Nat} {vc va:Value} {code:List Ins} {x:Wk} {n:Nat} {st:Nat→Nat} (hw:WkAt w b vc code x) (ha:Along w va st n) (i:Ins) (hi:code[x.place]? = some i) (hok:opsValid i code.length n=true) (ho:i.op=8) (hz:x.r i.a.toNat≠0) :
  Calls Tryz.prog 48 #[.pointer (some ⟨b,0,none⟩),va] w fun e w'=>Alone w b vc code (nextW x i none) e w':=by
 obtain ⟨c0,c1, -, -, -, -, -, -⟩:=hw.cells
 obtain ⟨a,cap,hvc,hcap,hcode⟩:=code_form hw.own
 have hle:=hw.le
 have hsm:=hw.small
 have hlt:x.place<code.length:=(List.getElem?_eq_some_iff.1 hi).1
 have hie:code[x.place]=i:=(List.getElem?_eq_some_iff.1 hi).2
 obtain ⟨g,ha',d0,d1,d2,d3⟩:=hcode x.place hlt
 rw [hie] at d0 d1 d2 d3
 obtain ⟨ga,gcap,rfl, -, -⟩:=along_at ha
 have HOK:=hide hok
 obtain ⟨op,ia,ib,ic⟩:=i
 dsimp only at *
 have hpl:=valid_place hok (Or.inr (Or.inl ho))
 have hrg:=valid_reg hok (by dsimp only;omega)
 dsimp only at hpl hrg
 subst ho
 obtain ⟨hr0,hr1⟩:=hrg
 obtain ⟨ka,rfl⟩:=Int.eq_ofNat_of_zero_le hr0
 have hka:ka<4:=by omega
 simp only [Int.toNat_natCast] at hz
 have hzz:((x.r ka) == 0)=false:=by simpa using hz
 have HZ:=hide hz
 clear hz
 have HW:=hide hw
 have hd0:decide ((code.length:Int)≤(x.place:Int))=false:=by simp;omega
 have hp0:(0:Int)≤(x.place:Int):=by omega
 have hp1:(x.place:Int)<(code.length:Int):=by omega
 rw [hvc,ha'] at c0
 have wrp:IntKind.i64.wrap ((x.place:Int)+1)=(x.place:Int)+1:=by rw [IntKind.wrap_i64];omega
 clear hcode hok hi hie hle hw ha
 go_enter Tryz.func48,Tryz.ntmps48
 go_wp2
 refine wp_scope_ahead 3 ?_
 generalize hJ:jumpQ Tryz.prog _ _ 3=J
 have HJ:=hide hJ
 clear hJ
 go_wp2
 go_quiet (fail)
 go_wp2
 obtain ⟨w1,hw1⟩:∃ w1,w1=w.drewN nq:=⟨_,rfl⟩
 rw [← hw1]
 have hcell:∀ p,w1.cell? p=w.cell? p:=fun p=>by rw [hw1];rfl
 rw [← hcell] at c0 c1 d0 d1 d2 d3
 clear hcell
 have hbl:Below w.heap.size w w1:=by rw [hw1];exact below_drewN (Below.refl _ _) _
 clear hw1
 have n0:=World.new_ne w1 _ c0
 have n2:=World.new_ne w1 _ d0
 go_region_held3 (fun w'=>w'.cell? ⟨b,0,none⟩=some (.slice (some ⟨g,0,none⟩) code.length cap)∧w'.cell? ⟨b,1,none⟩=some (.int .i64 x.place)∧w'.cell? ⟨g,x.place*4,none⟩=some (.int .i64 8)∧w'.cell? ⟨g,x.place*4+1,none⟩=some (.int .i64 ka)∧w'.cell? ⟨g,x.place*4+2,none⟩=some (.int .i64 ib)∧w'.cell? ⟨g,x.place*4+3,none⟩=some (.int .i64 ic)) (go_keep) (fail)
 clear wrp
 have hbl2:Below w.heap.size w (w1.alloc (.cells #[.int .i64 8,.int .i64 ka,.int .i64 ib,.int .i64 ic] 44)).drew:=(hbl.alloc hbl.size _).drew
 have a0:(w1.alloc (.cells #[.int .i64 8,.int .i64 ka,.int .i64 ib,.int .i64 ic] 44)).drew.cell? ⟨w1.heap.size,0,none⟩=some (.int .i64 8):=by simp [go_sem]
 have a1:(w1.alloc (.cells #[.int .i64 8,.int .i64 ka,.int .i64 ib,.int .i64 ic] 44)).drew.cell? ⟨w1.heap.size,1,none⟩=some (.int .i64 ka):=by simp [go_sem]
 have a2:(w1.alloc (.cells #[.int .i64 8,.int .i64 ka,.int .i64 ib,.int .i64 ic] 44)).drew.cell? ⟨w1.heap.size,2,none⟩=some (.int .i64 ib):=by simp [go_sem]
 have a3:(w1.alloc (.cells #[.int .i64 8,.int .i64 ka,.int .i64 ib,.int .i64 ic] 44)).drew.cell? ⟨w1.heap.size,3,none⟩=some (.int .i64 ic):=by simp [go_sem]
 have HNE:Hid (b≠w1.heap.size):=fun e=>n0 e.symm
 generalize (w1.alloc (.cells #[.int .i64 8,.int .i64 ka,.int .i64 ib,.int .i64 ic] 44)).drew=w2 at *
 clear c0 c1 d0 d1 d2 d3 n0 n2
 have hw2:=HW.out.below hbl2
 obtain ⟨c0,c1,c2,c3,c4,c5,c6,cf⟩:=hw2.cells
 have f1:=cf 1
 have f6:=cf 6
 have HCF:=hide cf
 have HF2:Hid (Fr (fun k=>k=b) w w2):=Fr.of_below hbl2
 have HW2:=hide hw2
 clear cf hw2
 go_wp2
 refine wp_goto ?_
 show J (.goto 3) _ _
 rw [← HJ.out]
 refine ⟨_,rfl,?_⟩
 clear HJ
 generalize hJ1:jumpQ Tryz.prog _ _ 2=J1
 have HJ1:=hide hJ1
 clear hJ1
 have cr:=HW2.out.regCell ka hka
 have hk0:(0:Int)≤(ka:Int):=by omega
 have hk1:(ka:Int)<4:=by omega
 go_wp2
 go_quiet (fail)
 obtain ⟨w3,hw3⟩:∃ w3,w3=w2.drewN nq:=⟨_,rfl⟩
 rw [← hw3]
 have hbl3:Below w2.heap.size w2 w3:=by rw [hw3];exact below_drewN (Below.refl _ _) _
 have hw3':=HW2.out.below hbl3
 have HF3:Hid (Fr (fun k=>k=b) w w3):=by unfold Hid;rw [hw3];exact HF2.out.drewN _
 have hcell:∀ p,w3.cell? p=w2.cell? p:=fun p=>by rw [hw3];rfl
 rw [← hcell] at a3
 clear hcell hw3 cr c0 c1 c2 c3 c4 c5 c6 f1 f6 a0 a1 a2
 obtain ⟨c0,c1,c2,c3,c4,c5,c6,cf⟩:=hw3'.cells
 have f1:=cf 1
 have f6:=cf 6
 have HW3:=hide hw3'
 clear cf hw3'
 go_wp2
 go_step3
 go_wp2
 go_step3
 go_wp2
 rw [← HJ1.out]
 refine jumpQ_ret ?_
 go_ret
 exact alone_end (y:=nextW x ⟨8,ka,ib,ic⟩ none) HF3.out HW3.out ic (by simp [nextW,HZ.out];omega) (by simp [nextW,HZ.out];omega) (by simp [nextW]) (by simp [nextW])
set_option maxRecDepth 100000 in
set_option maxHeartbeats 2000000 in
theorem wstep_set {w:World} {b:Nat} {vc va:Value} {code:List Ins} {x:Wk} {n:Nat} {st:Nat→Nat} (hw:WkAt w b vc code x) (ha:Along w va st n) (i:Ins) (hi:code[x.place]? = some i) (hok:opsValid i code.length n=true) (ho:i.op=3) :
  Calls Tryz.prog 48 #[.pointer (some ⟨b,0,none⟩),va] w fun e w'=>Alone w b vc code (nextW x i none) e w':=by
 obtain ⟨c0,c1, -, -, -, -, -, -⟩:=hw.cells
 obtain ⟨a,cap,hvc,hcap,hcode⟩:=code_form hw.own
 have hle:=hw.le
 have hsm:=hw.small
 have hlt:x.place<code.length:=(List.getElem?_eq_some_iff.1 hi).1
 have hie:code[x.place]=i:=(List.getElem?_eq_some_iff.1 hi).2
 obtain ⟨g,ha',d0,d1,d2,d3⟩:=hcode x.place hlt
 rw [hie] at d0 d1 d2 d3
 obtain ⟨ga,gcap,rfl, -, -⟩:=along_at ha
 have HOK:=hide hok
 obtain ⟨op,ia,ib,ic⟩:=i
 dsimp only at *
 have hrg:=valid_reg hok (by dsimp only;omega)
 dsimp only at hrg
 subst ho
 obtain ⟨hr0,hr1⟩:=hrg
 obtain ⟨ka,rfl⟩:=Int.eq_ofNat_of_zero_le hr0
 have hka:ka<4:=by omega
 have HW:=hide hw
 have hd0:decide ((code.length:Int)≤(x.place:Int))=false:=by simp;omega
 have hp0:(0:Int)≤(x.place:Int):=by omega
 have hp1:(x.place:Int)<(code.length:Int):=by omega
 rw [hvc,ha'] at c0
 have wrp:IntKind.i64.wrap ((x.place:Int)+1)=(x.place:Int)+1:=by rw [IntKind.wrap_i64];omega
 clear hcode hok hi hie hle hw ha
 go_enter Tryz.func48,Tryz.ntmps48
 go_wp2
 refine wp_scope_ahead 3 ?_
 generalize hJ:jumpQ Tryz.prog _ _ 3=J
 have HJ:=hide hJ
 clear hJ
 go_wp2
 go_quiet (fail)
 go_wp2
 obtain ⟨w1,hw1⟩:∃ w1,w1=w.drewN nq:=⟨_,rfl⟩
 rw [← hw1]
 have hcell:∀ p,w1.cell? p=w.cell? p:=fun p=>by rw [hw1];rfl
 rw [← hcell] at c0 c1 d0 d1 d2 d3
 clear hcell
 have hbl:Below w.heap.size w w1:=by rw [hw1];exact below_drewN (Below.refl _ _) _
 clear hw1
 have n0:=World.new_ne w1 _ c0
 have n2:=World.new_ne w1 _ d0
 go_region_held3 (fun w'=>w'.cell? ⟨b,0,none⟩=some (.slice (some ⟨g,0,none⟩) code.length cap)∧w'.cell? ⟨b,1,none⟩=some (.int .i64 x.place)∧w'.cell? ⟨g,x.place*4,none⟩=some (.int .i64 3)∧w'.cell? ⟨g,x.place*4+1,none⟩=some (.int .i64 ka)∧w'.cell? ⟨g,x.place*4+2,none⟩=some (.int .i64 ib)∧w'.cell? ⟨g,x.place*4+3,none⟩=some (.int .i64 ic)) (go_keep) (fail)
 clear wrp
 have hbl2:Below w.heap.size w (w1.alloc (.cells #[.int .i64 3,.int .i64 ka,.int .i64 ib,.int .i64 ic] 44)).drew:=(hbl.alloc hbl.size _).drew
 have a0:(w1.alloc (.cells #[.int .i64 3,.int .i64 ka,.int .i64 ib,.int .i64 ic] 44)).drew.cell? ⟨w1.heap.size,0,none⟩=some (.int .i64 3):=by simp [go_sem]
 have a1:(w1.alloc (.cells #[.int .i64 3,.int .i64 ka,.int .i64 ib,.int .i64 ic] 44)).drew.cell? ⟨w1.heap.size,1,none⟩=some (.int .i64 ka):=by simp [go_sem]
 have a2:(w1.alloc (.cells #[.int .i64 3,.int .i64 ka,.int .i64 ib,.int .i64 ic] 44)).drew.cell? ⟨w1.heap.size,2,none⟩=some (.int .i64 ib):=by simp [go_sem]
 have a3:(w1.alloc (.cells #[.int .i64 3,.int .i64 ka,.int .i64 ib,.int .i64 ic] 44)).drew.cell? ⟨w1.heap.size,3,none⟩=some (.int .i64 ic):=by simp [go_sem]
 have HNE:Hid (b≠w1.heap.size):=fun e=>n0 e.symm
 generalize (w1.alloc (.cells #[.int .i64 3,.int .i64 ka,.int .i64 ib,.int .i64 ic] 44)).drew=w2 at *
 clear c0 c1 d0 d1 d2 d3 n0 n2
 have hw2:=HW.out.below hbl2
 obtain ⟨c0,c1,c2,c3,c4,c5,c6,cf⟩:=hw2.cells
 have f1:=cf 1
 have f6:=cf 6
 have HCF:=hide cf
 have HF2:Hid (Fr (fun k=>k=b) w w2):=Fr.of_below hbl2
 have HW2:=hide hw2
 clear cf hw2
 go_wp2
 refine wp_goto ?_
 show J (.goto 2) _ _
 rw [← HJ.out]
 refine ⟨_,rfl,?_⟩
 clear HJ
 generalize hJ1:jumpQ Tryz.prog _ _ 2=J1
 have HJ1:=hide hJ1
 clear hJ1
 have cr:=HW2.out.regCell ka hka
 have fr:=HCF.out (2+ka)
 have hk0:(0:Int)≤(ka:Int):=by omega
 have hk1:(ka:Int)<4:=by omega
 have nb:b≠w1.heap.size:=HNE.out
 go_wp2
 go_region_held3 (fun w'=>w'.cell? ⟨w1.heap.size,1,none⟩=some (.int .i64 ka)∧w'.cell? ⟨w1.heap.size,3,none⟩=some (.int .i64 ic)) (go_keep) (fail)
 have HW3:=hide (HW2.out.reg ka hka ic)
 have HF3:Hid (Fr (fun k=>k=b) w (w2.setCell ⟨b,2+ka,none⟩ (.int .i64 ic)).drew):=(Fr.setCell (S:=fun k=>k=b) HF2.out (p:=⟨b,2+ka,none⟩) (Or.inr rfl) _).drewN 1
 have HW3':Hid (WkAt (w2.setCell ⟨b,2+ka,none⟩ (.int .i64 ic)).drew b vc code ⟨x.place,upd x.r ka ic,x.steps⟩):=HW3.out.below ((Below.refl _ _).drew)
 clear c0 c1 c2 c3 c4 c5 c6 f1 f6 a0 a1 a2 a3 cr fr HW3
 generalize (w2.setCell ⟨b,2+ka,none⟩ (.int .i64 ic)).drew=w3 at *
 obtain ⟨c0,c1,c2,c3,c4,c5,c6,cf⟩:=HW3'.out.cells
 have f1:=cf 1
 have f6:=cf 6
 clear cf
 go_wp2
 refine wp_goto ?_
 show J1 (.goto 6) _ _
 rw [← HJ1.out]
 refine ⟨_,rfl,?_⟩
 clear HJ1
 generalize hJ2:jumpQ Tryz.prog _ _ 1=J2
 have HJ2:=hide hJ2
 clear hJ2
 go_wp2
 rw [← HJ2.out]
 refine jumpQ_ret ?_
 go_ret
 exact alone_end (y:=nextW x ⟨3,ka,ib,ic⟩ none) HF3.out HW3'.out _ (by simp [nextW]) (by simp [nextW];omega) (by simp [nextW]) (by simp [nextW])
set_option maxRecDepth 100000 in
theorem Tryz.mixed:Tryz.prog.follows .mixedOrders=true:=by kernel_rfl
set_option maxRecDepth 100000 in
set_option maxHeartbeats 2000000 in
theorem wstep_alu {w:World} {b:Nat} {vc va:Value} {code:List Ins} {x:Wk} {n:Nat} {st:Nat→Nat} (hw:WkAt w b vc code x) (ha:Along w va st n) (i:Ins) (hi:code[x.place]? = some i) (hok:opsValid i code.length n=true) (ho:i.op=4∨i.op=5∨i.op=6∨i.op=7) :
  Calls Tryz.prog 48 #[.pointer (some ⟨b,0,none⟩),va] w fun e w'=>Alone w b vc code (nextW x i none) e w':=by
 obtain ⟨c0,c1, -, -, -, -, -, -⟩:=hw.cells
 obtain ⟨a,cap,hvc,hcap,hcode⟩:=code_form hw.own
 have hle:=hw.le
 have hsm:=hw.small
 have hlt:x.place<code.length:=(List.getElem?_eq_some_iff.1 hi).1
 have hie:code[x.place]=i:=(List.getElem?_eq_some_iff.1 hi).2
 obtain ⟨g,ha',d0,d1,d2,d3⟩:=hcode x.place hlt
 rw [hie] at d0 d1 d2 d3
 obtain ⟨ga,gcap,rfl, -, -⟩:=along_at ha
 have HOK:=hide hok
 obtain ⟨op,ia,ib,ic⟩:=i
 dsimp only at *
 have hrg:=valid_reg hok (by dsimp only;omega)
 have hal:=valid_alu hok ho
 dsimp only at hrg hal
 obtain ⟨hr0,hr1⟩:=hrg
 obtain ⟨ka,rfl⟩:=Int.eq_ofNat_of_zero_le hr0
 obtain ⟨⟨hb0,hb1⟩,hc0,hc1⟩:=hal
 obtain ⟨kb,rfl⟩:=Int.eq_ofNat_of_zero_le hb0
 obtain ⟨kc,rfl⟩:=Int.eq_ofNat_of_zero_le hc0
 have hka:ka<4:=by omega
 have hkb:kb<4:=by omega
 have hkc:kc<4:=by omega
 have q1:(op == 1)=false:=by simp;omega
 have q2:(op == 2)=false:=by simp;omega
 have q3:(op == 3)=false:=by simp;omega
 have q8:(op == 8)=false:=by simp;omega
 have q9:(op == 9)=false:=by simp;omega
 have HO:=hide ho
 have HNX:Hid (nextW x ⟨op,ka,kb,kc⟩ none=⟨x.place+1,upd x.r ka (alu op (x.r kb) (x.r kc)),wrap64 (x.steps+1)⟩):=by
  have e1:¬ op=1:=by omega
  have e2:¬ op=2:=by omega
  have e3:¬ op=3:=by omega
  have e8:¬ op=8:=by omega
  have e9:¬ op=9:=by omega
  unfold Hid;simp [nextW,e1,e2,e3,e8,e9]
 clear ho
 have HW:=hide hw
 have hd0:decide ((code.length:Int)≤(x.place:Int))=false:=by simp;omega
 have hp0:(0:Int)≤(x.place:Int):=by omega
 have hp1:(x.place:Int)<(code.length:Int):=by omega
 rw [hvc,ha'] at c0
 have wrp:IntKind.i64.wrap ((x.place:Int)+1)=(x.place:Int)+1:=by rw [IntKind.wrap_i64];omega
 clear hcode hok hi hie hle hw ha
 go_enter Tryz.func48,Tryz.ntmps48
 go_wp2
 refine wp_scope_ahead 3 ?_
 generalize hJ:jumpQ Tryz.prog _ _ 3=J
 have HJ:=hide hJ
 clear hJ
 go_wp2
 go_quiet (fail)
 go_wp2
 obtain ⟨w1,hw1⟩:∃ w1,w1=w.drewN nq:=⟨_,rfl⟩
 rw [← hw1]
 have hcell:∀ p,w1.cell? p=w.cell? p:=fun p=>by rw [hw1];rfl
 rw [← hcell] at c0 c1 d0 d1 d2 d3
 clear hcell
 have hbl:Below w.heap.size w w1:=by rw [hw1];exact below_drewN (Below.refl _ _) _
 clear hw1
 have n0:=World.new_ne w1 _ c0
 have n2:=World.new_ne w1 _ d0
 go_region_held3 (fun w'=>w'.cell? ⟨b,0,none⟩=some (.slice (some ⟨g,0,none⟩) code.length cap)∧w'.cell? ⟨b,1,none⟩=some (.int .i64 x.place)∧w'.cell? ⟨g,x.place*4,none⟩=some (.int .i64 op)∧w'.cell? ⟨g,x.place*4+1,none⟩=some (.int .i64 ka)∧w'.cell? ⟨g,x.place*4+2,none⟩=some (.int .i64 kb)∧w'.cell? ⟨g,x.place*4+3,none⟩=some (.int .i64 kc)) (go_keep) (fail)
 clear wrp
 have hbl2:Below w.heap.size w (w1.alloc (.cells #[.int .i64 op,.int .i64 ka,.int .i64 kb,.int .i64 kc] 44)).drew:=(hbl.alloc hbl.size _).drew
 have a0:(w1.alloc (.cells #[.int .i64 op,.int .i64 ka,.int .i64 kb,.int .i64 kc] 44)).drew.cell? ⟨w1.heap.size,0,none⟩=some (.int .i64 op):=by simp [go_sem]
 have a1:(w1.alloc (.cells #[.int .i64 op,.int .i64 ka,.int .i64 kb,.int .i64 kc] 44)).drew.cell? ⟨w1.heap.size,1,none⟩=some (.int .i64 ka):=by simp [go_sem]
 have a2:(w1.alloc (.cells #[.int .i64 op,.int .i64 ka,.int .i64 kb,.int .i64 kc] 44)).drew.cell? ⟨w1.heap.size,2,none⟩=some (.int .i64 kb):=by simp [go_sem]
 have a3:(w1.alloc (.cells #[.int .i64 op,.int .i64 ka,.int .i64 kb,.int .i64 kc] 44)).drew.cell? ⟨w1.heap.size,3,none⟩=some (.int .i64 kc):=by simp [go_sem]
 have HNE:Hid (b≠w1.heap.size):=fun e=>n0 e.symm
 generalize (w1.alloc (.cells #[.int .i64 op,.int .i64 ka,.int .i64 kb,.int .i64 kc] 44)).drew=w2 at *
 clear c0 c1 d0 d1 d2 d3 n0 n2
 have hw2:=HW.out.below hbl2
 obtain ⟨c0,c1,c2,c3,c4,c5,c6,cf⟩:=hw2.cells
 have f1:=cf 1
 have f6:=cf 6
 have HCF:=hide cf
 have HF2:Hid (Fr (fun k=>k=b) w w2):=Fr.of_below hbl2
 have HW2:=hide hw2
 clear cf hw2
 go_wp2
 refine wp_goto ?_
 show J (.goto 5) _ _
 rw [← HJ.out]
 refine ⟨_,rfl,?_⟩
 clear HJ
 generalize hJ1:jumpQ Tryz.prog _ _ 2=J1
 have HJ1:=hide hJ1
 clear hJ1
 have cb:=HW2.out.regCell kb hkb
 have cc:=HW2.out.regCell kc hkc
 have hkb0:(0:Int)≤(kb:Int):=by omega
 have hkb1:(kb:Int)<4:=by omega
 have hkc0:(0:Int)≤(kc:Int):=by omega
 have hkc1:(kc:Int)<4:=by omega
 obtain ⟨xb,hxb⟩:∃ xb,xb=x.r kb:=⟨_,rfl⟩
 obtain ⟨xc,hxc⟩:∃ xc,xc=x.r kc:=⟨_,rfl⟩
 rw [← hxb] at cb
 rw [← hxc] at cc
 rw [← hxb, ← hxc] at HNX
 clear hxb hxc
 have HR:Hid (∀ wx:World,Calls Tryz.prog 80 #[.int .i64 op,.int .i64 xb,.int .i64 xc] wx fun e w'=>e=.returned (.int .i64 (alu op xb xc))∧w'=wx):=fun wx=>reckoned_calls op xb xc wx HO.out
 generalize alu op xb xc=v at *
 have cr:=HW2.out.regCell ka hka
 have fr:=HCF.out (2+ka)
 have hk0:(0:Int)≤(ka:Int):=by omega
 have hk1:(ka:Int)<4:=by omega
 have nb:b≠w1.heap.size:=HNE.out
 go_wp2
 refine wp_region_still_tail 23 Tryz.mixed (by kernel_rfl) ?_
 simp only [List.take_succ_cons,List.take_zero,List.drop_succ_cons,List.drop_zero]
 iterate 19 still_step
 still_call (unhide HR _)
 iterate 3 still_step
 refine wpStill_nil ?_
 show wpList _ _ _ _ _ w2.drew
 go_wp2
 have HW3:=hide (HW2.out.reg ka hka v)
 have HF3:Hid (Fr (fun k=>k=b) w (w2.setCell ⟨b,2+ka,none⟩ (.int .i64 v)).drew):=(Fr.setCell (S:=fun k=>k=b) HF2.out (p:=⟨b,2+ka,none⟩) (Or.inr rfl) _).drewN 1
 have HW3':Hid (WkAt (w2.setCell ⟨b,2+ka,none⟩ (.int .i64 v)).drew b vc code ⟨x.place,upd x.r ka v,x.steps⟩):=HW3.out.below ((Below.refl _ _).drew)
 clear c0 c1 c2 c3 c4 c5 c6 f1 f6 a0 a1 a2 a3 cr fr HW3 cb cc
 generalize (w2.setCell ⟨b,2+ka,none⟩ (.int .i64 v)).drew=w3 at *
 obtain ⟨c0,c1,c2,c3,c4,c5,c6,cf⟩:=HW3'.out.cells
 have f1:=cf 1
 have f6:=cf 6
 clear cf
 go_wp2
 refine wp_goto ?_
 show J1 (.goto 6) _ _
 rw [← HJ1.out]
 refine ⟨_,rfl,?_⟩
 clear HJ1
 generalize hJ2:jumpQ Tryz.prog _ _ 1=J2
 have HJ2:=hide hJ2
 clear hJ2
 go_wp2
 rw [← HJ2.out]
 refine jumpQ_ret ?_
 go_ret
 exact alone_end (y:=nextW x ⟨op,ka,kb,kc⟩ none) HF3.out HW3'.out _ (by rw [HNX.out];simp) (by rw [HNX.out];dsimp only;omega) (by rw [HNX.out]) (by rw [HNX.out])
def histOf (sourced:Bool) (m:Sm):List Int:=if sourced then m.words.take m.read else m.words
theorem own_cells {w:World} {a:Option Addr} {cap:Nat} {l:List Int} (h:w.ownsRow 0 3 1 (.slice a l.length cap) l.length (intRow l)) (k:Nat) (hk:k≤l.length) (h0:0<k) :
  ∃ g,a=some ⟨g,0,none⟩∧∀ wr:World,wr.heap[g]? = w.heap[g]? → ∀ j u,(intRow (l.take k))[j]? = some u→wr.cell? ((⟨g,0,none⟩:Addr).add j)=some u:=by
 rcases h.2 with ⟨h3,h4⟩ | ⟨g,cap',cur,hv,hg,hh,hn,hm,hs,ht⟩
 ·omega
 ·cases hv
  refine ⟨g,rfl,fun wr hwr j u hj=>?_⟩
  have hj':j<k:=by
   have:=(List.getElem?_eq_some_iff.1 hj).1
   simp [intRow] at this;omega
  rw [addr_add,Nat.zero_add,cell_of_row wr g j cur 3 (0,0) (by rw [hwr];exact hh)]
  have e:(intRow l)[j]? = some u:=by
   rw [← hj];simp only [intRow,List.map_take]
   rw [List.getElem?_take_of_lt hj']
  rw [← ht,List.getElem?_take_of_lt (by omega)] at e
  simpa using e
set_option maxRecDepth 100000 in
set_option maxHeartbeats 1000000 in
theorem shistory_calls {w:World} {b:Nat} {vw:Value} {ch:Option Nat} {sourced:Bool} {m:Sm} (h:StAt w b vw ch sourced m) :
  Calls Tryz.prog 21 #[.pointer (some ⟨b,0,none⟩)] w fun e w'=>∃ a' c',e=.returned (.slice a' (histOf sourced m).length c') ∧
   w'.ownsRow w.heap.size 3 1 (.slice a' (histOf sourced m).length c') (histOf sourced m).length (intRow (histOf sourced m))∧Below w.heap.size w w':=by
 obtain ⟨c0,c1,c2,c3,cf⟩:=h.cells
 obtain ⟨i0,hi,hz0,hz1,hz2⟩:=info_parts Tryz.info3
 obtain ⟨a,cap,rfl,hcap, -⟩:=own_form h.own
 have HO:=hide h.own
 have hsm:=h.small
 have hle:=h.le
 clear c3 cf h
 cases sourced with
 | false=>
  have HN:Hid (0<m.words.length→∃ ad:Addr,a=some ad∧∀ j u,(intRow m.words)[j]? = some u→w.cell? (ad.add j)=some u):=fun h0=>by
   obtain ⟨g,hg,hx⟩:=own_cells HO.out _ (Nat.le_refl _) h0
   refine ⟨⟨g,0,none⟩,hg,fun j u hj=>hx w rfl j u ?_⟩
   rw [List.take_length];exact hj
  have hl:(intRow m.words).length=m.words.length*1:=by rw [intRow_length];omega
  have h1:=intRow_one m.words
  have HP:Hid (∀ (a':Option Addr) (c':Nat) (w':World),w'.ownsRow w.heap.size 3 1 (.slice a' m.words.length c') m.words.length (intRow m.words)→w'.ownsRow w.heap.size 3 1 (.slice a' (histOf false m).length c') (histOf false m).length (intRow (histOf false m))):=fun _ _ _ hx=>hx
  have e:(histOf false m).length=m.words.length:=rfl
  simp only [e] at HP ⊢
  clear e HO
  generalize m.words.length=n at *
  generalize intRow m.words=ws at *
  generalize intRow (histOf false m)=hs at *
  have h63:n≤maxLen:=by unfold maxLen;omega
  have hby:n*8≤140737488355328:=by omega
  have HL:=hide hl
  clear hl
  go_enter Tryz.func21,Tryz.ntmps21
  go_wp2_with (at_builtin;refine wpList_append_fresh rfl _ (.tmp 20) 22 rfl 3 i0 (.int .i64 0) 1 8 Tryz.underlying22 hi hz0 hz1 hz2 rfl (by decide) a n cap ws rfl rfl HL.out HN.out h1 h63 hby ?_)
  intro a' c' w' hown hb
  have HR:=hide (HP.out _ _ _ hown)
  have HB:=hide hb
  clear hown hb
  go_wp2
  go_ret
  exact ⟨_,_,rfl,HR.out,HB.out⟩
 | true=>
  obtain ⟨n,hn⟩:∃ n,n=m.read:=⟨_,rfl⟩
  have HN:Hid (∀ wr:World,(∀ g,g<w.heap.size→wr.heap[g]? = w.heap[g]?)→0<m.read→∃ ad:Addr,a=some ad∧∀ j u,(intRow (m.words.take m.read))[j]? = some u→wr.cell? (ad.add j)=some u):=fun wr hwr h0=>by
   obtain ⟨g,hg,hx⟩:=own_cells HO.out _ hle h0
   refine ⟨⟨g,0,none⟩,hg,fun j u hj=>hx wr (hwr g ?_) j u hj⟩
   obtain ⟨cur,hc⟩:=own_block HO.out (g:=g) (by rw [hg];rfl)
   exact lt_of_blk hc
  have hA:a=none∧cap=0∧m.read=0∧m.words.length=0∨∃ g,a=some ⟨g,0,none⟩:=by
   rcases HO.out.2 with ⟨h3,h4⟩ | ⟨g,cap',cur,hv,hg,hh,hn,hm,hs,ht⟩
   ·simp only [Value.slice.injEq] at h3;exact Or.inl ⟨h3.1,h3.2.2,by omega,h4⟩
   ·cases hv;exact Or.inr ⟨g,rfl⟩
  have hl:(intRow (m.words.take m.read)).length=m.read*1:=by rw [intRow_length];simp;omega
  have h1:=intRow_one (m.words.take m.read)
  have e:(histOf true m).length=m.read:=by simp [histOf];omega
  have HP:Hid (∀ (a':Option Addr) (c':Nat) (w':World),w'.ownsRow w.heap.size 3 1 (.slice a' m.read c') m.read (intRow (m.words.take m.read))→w'.ownsRow w.heap.size 3 1 (.slice a' (histOf true m).length c') (histOf true m).length (intRow (histOf true m))):=fun _ _ _ hx=>by rw [e];exact hx
  simp only [e] at HP ⊢
  rw [if_pos rfl] at c2
  clear e HO hn
  generalize intRow (m.words.take m.read)=ws at *
  generalize intRow (histOf true m)=hs at *
  generalize m.read=n at *
  generalize m.words.length=ln at *
  have h63:n≤maxLen:=by unfold maxLen;omega
  have hby:n*8≤140737488355328:=by omega
  have HL:=hide hl
  clear hl
  have hn0:(0:Int)≤(n:Int):=by omega
  have hnc:(n:Int)≤(cap:Int):=by omega
  rcases hA with ⟨rfl,rfl,rfl,rfl⟩ | ⟨g,rfl⟩
  ·go_enter Tryz.func21,Tryz.ntmps21
   go_wp2
   refine wp_region_still_tail 9 Tryz.mixed (by kernel_rfl) ?_
   simp only [List.take_succ_cons,List.take_zero,List.drop_succ_cons,List.drop_zero]
   iterate 9 still_step
   refine wpStill_nil ?_
   show wpList _ _ _ _ _ w.drew
   go_wp2_with (at_builtin;refine wpList_append_fresh rfl _ (.tmp 15) 22 rfl 3 i0 (.int .i64 0) 1 8 Tryz.underlying22 hi hz0 hz1 hz2 rfl (by decide) none 0 0 ws rfl rfl HL.out (HN.out w.drew (fun _ _=>rfl)) h1 h63 hby ?_)
   intro a' c' w' hown hb
   have HR:=hide (HP.out _ _ _ hown)
   have HB:Hid (Below w.heap.size w w'):=⟨hb.os,hb.tape,hb.output,hb.size,hb.block⟩
   clear hown hb
   go_wp2
   go_ret
   exact ⟨_,_,rfl,HR.out,HB.out⟩
  ·go_enter Tryz.func21,Tryz.ntmps21
   go_wp2
   refine wp_region_still_tail 9 Tryz.mixed (by kernel_rfl) ?_
   simp only [List.take_succ_cons,List.take_zero,List.drop_succ_cons,List.drop_zero]
   iterate 9 still_step
   refine wpStill_nil ?_
   show wpList _ _ _ _ _ w.drew
   go_wp2_with (at_builtin;refine wpList_append_fresh rfl _ (.tmp 15) 22 rfl 3 i0 (.int .i64 0) 1 8 Tryz.underlying22 hi hz0 hz1 hz2 rfl (by decide) (some ⟨g,0,none⟩) n cap ws rfl rfl HL.out (HN.out w.drew (fun _ _=>rfl)) h1 h63 hby ?_)
   intro a' c' w' hown hb
   have HR:=hide (HP.out _ _ _ hown)
   have HB:Hid (Below w.heap.size w w'):=⟨hb.os,hb.tape,hb.output,hb.size,hb.block⟩
   clear hown hb
   go_wp2
   go_ret
   exact ⟨_,_,rfl,HR.out,HB.out⟩
def StepWrite (w:World) (b:Nat) (vc:Value) (code:List Ins) (x:Wk) (i:Ins) (st:Nat→Nat) (VW:Nat→Value) (CH:Nat→Option Nat) (M:Nat→Sm) (e:Ending) (w':World):Prop:=
 (e=.returned (.int .i64 3)∧CH i.b.toNat≠none∧(M i.b.toNat).room≤(M i.b.toNat).words.length-(M i.b.toNat).read∧Below w.heap.size w w') ∨
 (e=.returned (.int .i64 1)∧¬ (CH i.b.toNat≠none∧(M i.b.toNat).room≤(M i.b.toNat).words.length-(M i.b.toNat).read)∧WkAt w' b vc code (nextW x i none) ∧
  ∃ vw',(∀ g,vw'.ownBlock=some g→(VW i.b.toNat).ownBlock=some g∨w.heap.size≤g) ∧
  StAt w' (st i.b.toNat) vw' (CH i.b.toNat) false { M i.b.toNat with words:=(M i.b.toNat).words++[x.r i.a.toNat]} ∧
  Fr (fun k=>k=b∨k=st i.b.toNat∨(VW i.b.toNat).ownBlock=some k∨CH i.b.toNat=some k) w w')
theorem put_calls {w:World} {b:Nat} {vw:Value} {ch:Option Nat} {m:Sm} (x:Int) (h:StAt w b vw ch false m) (hsm:m.words.length<4398046511104) :
  Calls Tryz.prog 79 #[.pointer (some ⟨b,0,none⟩),.int .i64 x] w fun e w'=>Puts w b vw ch m x e w':=by
 cases ch with
 | none=>exact put_none x h hsm
 | some c=>exact put_some x h hsm
set_option maxRecDepth 100000 in
set_option maxHeartbeats 2000000 in
theorem wstep_write_no {w:World} {b:Nat} {vc va:Value} {code:List Ins} {x:Wk} {n:Nat} {st:Nat→Nat} (hw:WkAt w b vc code x) {VW:Nat→Value} {CH:Nat→Option Nat} {SRC:Nat→Bool} {M:Nat→Sm} (he:Env w va n st VW CH SRC M) (i:Ins) (hi:code[x.place]? = some i) (hok:opsValid i code.length n=true) (ho:i.op=2) (hsrc:SRC i.b.toNat=false) (hsm2:(M i.b.toNat).words.length<4398046511104) (hcs:CH i.b.toNat≠none∧(M i.b.toNat).room≤(M i.b.toNat).words.length-(M i.b.toNat).read) :
  Calls Tryz.prog 48 #[.pointer (some ⟨b,0,none⟩),va] w fun e w'=>StepWrite w b vc code x i st VW CH M e w':=by
 obtain ⟨c0,c1, -, -, -, -, -, -⟩:=hw.cells
 obtain ⟨a,cap,hvc,hcap,hcode⟩:=code_form hw.own
 have hle:=hw.le
 have hsm:=hw.small
 have hlt:x.place<code.length:=(List.getElem?_eq_some_iff.1 hi).1
 have hie:code[x.place]=i:=(List.getElem?_eq_some_iff.1 hi).2
 obtain ⟨g,ha',d0,d1,d2,d3⟩:=hcode x.place hlt
 rw [hie] at d0 d1 d2 d3
 have HE:=hide he
 obtain ⟨ga,gcap,rfl,hgl,hal⟩:=along_at he.along
 have HAL:=hide hal
 clear hal
 have HOK:=hide hok
 obtain ⟨op,ia,ib,ic⟩:=i
 dsimp only at *
 have hrg:=valid_reg hok (by dsimp only;omega)
 have hstm:=valid_stream hok (by dsimp only;omega)
 dsimp only at hrg hstm
 subst ho
 obtain ⟨hr0,hr1⟩:=hrg
 obtain ⟨ka,rfl⟩:=Int.eq_ofNat_of_zero_le hr0
 obtain ⟨hb0,hb1⟩:=hstm
 obtain ⟨kb,rfl⟩:=Int.eq_ofNat_of_zero_le hb0
 have hka:ka<4:=by omega
 have hkb:kb<n:=by omega
 simp only [Int.toNat_natCast] at hsrc hsm2 hcs
 have HCS:=hide hcs
 clear hcs
 have HW:=hide hw
 have hd0:decide ((code.length:Int)≤(x.place:Int))=false:=by simp;omega
 have hp0:(0:Int)≤(x.place:Int):=by omega
 have hp1:(x.place:Int)<(code.length:Int):=by omega
 rw [hvc,ha'] at c0
 have wrp:IntKind.i64.wrap ((x.place:Int)+1)=(x.place:Int)+1:=by rw [IntKind.wrap_i64];omega
 have HLT:=hide hlt
 clear hcode hok hi hie hle hw he
 go_enter Tryz.func48,Tryz.ntmps48
 go_wp2
 refine wp_scope_ahead 3 ?_
 generalize hJ:jumpQ Tryz.prog _ _ 3=J
 have HJ:=hide hJ
 clear hJ
 go_wp2
 go_quiet (fail)
 go_wp2
 obtain ⟨w1,hw1⟩:∃ w1,w1=w.drewN nq:=⟨_,rfl⟩
 rw [← hw1]
 have hcell:∀ p,w1.cell? p=w.cell? p:=fun p=>by rw [hw1];rfl
 rw [← hcell] at c0 c1 d0 d1 d2 d3
 clear hcell
 have hbl:Below w.heap.size w w1:=by rw [hw1];exact below_drewN (Below.refl _ _) _
 clear hw1
 have n0:=World.new_ne w1 _ c0
 have n2:=World.new_ne w1 _ d0
 go_region_held3 (fun w'=>w'.cell? ⟨b,0,none⟩=some (.slice (some ⟨g,0,none⟩) code.length cap)∧w'.cell? ⟨b,1,none⟩=some (.int .i64 x.place)∧w'.cell? ⟨g,x.place*4,none⟩=some (.int .i64 2)∧w'.cell? ⟨g,x.place*4+1,none⟩=some (.int .i64 ka)∧w'.cell? ⟨g,x.place*4+2,none⟩=some (.int .i64 kb)∧w'.cell? ⟨g,x.place*4+3,none⟩=some (.int .i64 ic)) (go_keep) (fail)
 clear wrp
 have hbl2:Below w.heap.size w (w1.alloc (.cells #[.int .i64 2,.int .i64 ka,.int .i64 kb,.int .i64 ic] 44)).drew:=(hbl.alloc hbl.size _).drew
 have a0:(w1.alloc (.cells #[.int .i64 2,.int .i64 ka,.int .i64 kb,.int .i64 ic] 44)).drew.cell? ⟨w1.heap.size,0,none⟩=some (.int .i64 2):=by simp [go_sem]
 have a1:(w1.alloc (.cells #[.int .i64 2,.int .i64 ka,.int .i64 kb,.int .i64 ic] 44)).drew.cell? ⟨w1.heap.size,1,none⟩=some (.int .i64 ka):=by simp [go_sem]
 have a2:(w1.alloc (.cells #[.int .i64 2,.int .i64 ka,.int .i64 kb,.int .i64 ic] 44)).drew.cell? ⟨w1.heap.size,2,none⟩=some (.int .i64 kb):=by simp [go_sem]
 have a3:(w1.alloc (.cells #[.int .i64 2,.int .i64 ka,.int .i64 kb,.int .i64 ic] 44)).drew.cell? ⟨w1.heap.size,3,none⟩=some (.int .i64 ic):=by simp [go_sem]
 have HNE:Hid (b≠w1.heap.size):=fun e=>n0 e.symm
 have HAB:Hid ((w1.alloc (.cells #[.int .i64 2,.int .i64 ka,.int .i64 kb,.int .i64 ic] 44)).drew.heap[w1.heap.size]? = some (.cells #[.int .i64 2,.int .i64 ka,.int .i64 kb,.int .i64 ic] 44 (0,0))):=heap_alloc_new _ _
 have HS12:Hid (w1.heap.size<(w1.alloc (.cells #[.int .i64 2,.int .i64 ka,.int .i64 kb,.int .i64 ic] 44)).drew.heap.size):=by unfold Hid;simp
 generalize (w1.alloc (.cells #[.int .i64 2,.int .i64 ka,.int .i64 kb,.int .i64 ic] 44)).drew=w2 at *
 clear c0 c1 d0 d1 d2 d3 n0 n2
 have hw2:=HW.out.below hbl2
 obtain ⟨c0,c1,c2,c3,c4,c5,c6,cf⟩:=hw2.cells
 have f1:=cf 1
 have f6:=cf 6
 have HCF:=hide cf
 have HF2:Hid (Fr (fun k=>k=b) w w2):=Fr.of_below hbl2
 have HW2:=hide hw2
 clear cf hw2
 go_wp2
 refine wp_goto ?_
 show J (.goto 1) _ _
 rw [← HJ.out]
 refine ⟨_,rfl,?_⟩
 clear HJ
 generalize hJ1:jumpQ Tryz.prog _ _ 2=J1
 have HJ1:=hide hJ1
 clear hJ1
 have da:=HAL.out w2 hbl2 kb hkb
 have HT:=hide (((unhide HE).at' kb hkb).below hbl2)
 rw [hsrc] at HT
 have cr:=HW2.out.regCell ka hka
 have hk0:(0:Int)≤(ka:Int):=by omega
 have hk1:(ka:Int)<4:=by omega
 have hkb0:(0:Int)≤(kb:Int):=by omega
 have hkb1:(kb:Int)<(n:Int):=by omega
 obtain ⟨v,hv⟩:∃ v,v=x.r ka:=⟨_,rfl⟩
 rw [← hv] at cr
 have HVV:=hide hv
 clear hv
 have HP:Hid (∀ wx,Below w2.heap.size w2 wx→Calls Tryz.prog 79 #[.pointer (some ⟨st kb,0,none⟩),.int .i64 v] wx fun e w'=>e=.returned (.bool false)∧w'=wx):=fun wx hx=>
  (put_calls v (HT.out.below hx) hsm2).mono fun e w' h=>by
   rcases h with ⟨_,h1,_⟩ | ⟨h1,_,_,h2⟩
   ·exact absurd (h1 HCS.out.1) (by have:=HCS.out.2;omega)
   ·exact ⟨h1,h2⟩
 go_wp2
 go_region_held3 (fun w'=>w'.cell? ⟨w1.heap.size,1,none⟩=some (.int .i64 ka)∧w'.cell? ⟨w1.heap.size,2,none⟩=some (.int .i64 kb)∧w'.cell? ⟨ga,kb,none⟩=some (.pointer (some ⟨st kb,0,none⟩))∧w'.cell? ⟨b,2+ka,none⟩=some (.int .i64 v)) (go_keep) ((go_at_call 79;refine (unhide HP _ ?_).mono ?_; (repeat (first | exact Below.refl _ _ | apply Below.drew | apply below_drewN));rintro e w3 ⟨rfl,rfl⟩))
 go_wp2
 rw [← HJ1.out]
 refine jumpQ_ret ?_
 go_ret
 refine Or.inl ⟨rfl,?_,?_,hbl2.drew⟩
 ·simpa using HCS.out.1
 ·simpa using HCS.out.2
set_option maxRecDepth 100000 in
set_option maxHeartbeats 2000000 in
theorem wstep_write_yes {w:World} {b:Nat} {vc va:Value} {code:List Ins} {x:Wk} {n:Nat} {st:Nat→Nat} (hw:WkAt w b vc code x) {VW:Nat→Value} {CH:Nat→Option Nat} {SRC:Nat→Bool} {M:Nat→Sm} (he:Env w va n st VW CH SRC M) (i:Ins) (hi:code[x.place]? = some i) (hok:opsValid i code.length n=true) (ho:i.op=2) (hsrc:SRC i.b.toNat=false) (hsm2:(M i.b.toNat).words.length<4398046511104) (hcs:¬ (CH i.b.toNat≠none∧(M i.b.toNat).room≤(M i.b.toNat).words.length-(M i.b.toNat).read)) :
  Calls Tryz.prog 48 #[.pointer (some ⟨b,0,none⟩),va] w fun e w'=>StepWrite w b vc code x i st VW CH M e w':=by
 obtain ⟨c0,c1, -, -, -, -, -, -⟩:=hw.cells
 obtain ⟨a,cap,hvc,hcap,hcode⟩:=code_form hw.own
 have hle:=hw.le
 have hsm:=hw.small
 have hlt:x.place<code.length:=(List.getElem?_eq_some_iff.1 hi).1
 have hie:code[x.place]=i:=(List.getElem?_eq_some_iff.1 hi).2
 obtain ⟨g,ha',d0,d1,d2,d3⟩:=hcode x.place hlt
 rw [hie] at d0 d1 d2 d3
 have HE:=hide he
 obtain ⟨ga,gcap,rfl,hgl,hal⟩:=along_at he.along
 have HAL:=hide hal
 clear hal
 have HOK:=hide hok
 obtain ⟨op,ia,ib,ic⟩:=i
 dsimp only at *
 have hrg:=valid_reg hok (by dsimp only;omega)
 have hstm:=valid_stream hok (by dsimp only;omega)
 dsimp only at hrg hstm
 subst ho
 obtain ⟨hr0,hr1⟩:=hrg
 obtain ⟨ka,rfl⟩:=Int.eq_ofNat_of_zero_le hr0
 obtain ⟨hb0,hb1⟩:=hstm
 obtain ⟨kb,rfl⟩:=Int.eq_ofNat_of_zero_le hb0
 have hka:ka<4:=by omega
 have hkb:kb<n:=by omega
 simp only [Int.toNat_natCast] at hsrc hsm2 hcs
 have HCS:=hide hcs
 clear hcs
 have HW:=hide hw
 have hd0:decide ((code.length:Int)≤(x.place:Int))=false:=by simp;omega
 have hp0:(0:Int)≤(x.place:Int):=by omega
 have hp1:(x.place:Int)<(code.length:Int):=by omega
 rw [hvc,ha'] at c0
 have wrp:IntKind.i64.wrap ((x.place:Int)+1)=(x.place:Int)+1:=by rw [IntKind.wrap_i64];omega
 have HLT:=hide hlt
 clear hcode hok hi hie hle hw he
 go_enter Tryz.func48,Tryz.ntmps48
 go_wp2
 refine wp_scope_ahead 3 ?_
 generalize hJ:jumpQ Tryz.prog _ _ 3=J
 have HJ:=hide hJ
 clear hJ
 go_wp2
 go_quiet (fail)
 go_wp2
 obtain ⟨w1,hw1⟩:∃ w1,w1=w.drewN nq:=⟨_,rfl⟩
 rw [← hw1]
 have hcell:∀ p,w1.cell? p=w.cell? p:=fun p=>by rw [hw1];rfl
 rw [← hcell] at c0 c1 d0 d1 d2 d3
 clear hcell
 have hbl:Below w.heap.size w w1:=by rw [hw1];exact below_drewN (Below.refl _ _) _
 clear hw1
 have n0:=World.new_ne w1 _ c0
 have n2:=World.new_ne w1 _ d0
 go_region_held3 (fun w'=>w'.cell? ⟨b,0,none⟩=some (.slice (some ⟨g,0,none⟩) code.length cap)∧w'.cell? ⟨b,1,none⟩=some (.int .i64 x.place)∧w'.cell? ⟨g,x.place*4,none⟩=some (.int .i64 2)∧w'.cell? ⟨g,x.place*4+1,none⟩=some (.int .i64 ka)∧w'.cell? ⟨g,x.place*4+2,none⟩=some (.int .i64 kb)∧w'.cell? ⟨g,x.place*4+3,none⟩=some (.int .i64 ic)) (go_keep) (fail)
 clear wrp
 have hbl2:Below w.heap.size w (w1.alloc (.cells #[.int .i64 2,.int .i64 ka,.int .i64 kb,.int .i64 ic] 44)).drew:=(hbl.alloc hbl.size _).drew
 have a0:(w1.alloc (.cells #[.int .i64 2,.int .i64 ka,.int .i64 kb,.int .i64 ic] 44)).drew.cell? ⟨w1.heap.size,0,none⟩=some (.int .i64 2):=by simp [go_sem]
 have a1:(w1.alloc (.cells #[.int .i64 2,.int .i64 ka,.int .i64 kb,.int .i64 ic] 44)).drew.cell? ⟨w1.heap.size,1,none⟩=some (.int .i64 ka):=by simp [go_sem]
 have a2:(w1.alloc (.cells #[.int .i64 2,.int .i64 ka,.int .i64 kb,.int .i64 ic] 44)).drew.cell? ⟨w1.heap.size,2,none⟩=some (.int .i64 kb):=by simp [go_sem]
 have a3:(w1.alloc (.cells #[.int .i64 2,.int .i64 ka,.int .i64 kb,.int .i64 ic] 44)).drew.cell? ⟨w1.heap.size,3,none⟩=some (.int .i64 ic):=by simp [go_sem]
 have HNE:Hid (b≠w1.heap.size):=fun e=>n0 e.symm
 have HAB:Hid ((w1.alloc (.cells #[.int .i64 2,.int .i64 ka,.int .i64 kb,.int .i64 ic] 44)).drew.heap[w1.heap.size]? = some (.cells #[.int .i64 2,.int .i64 ka,.int .i64 kb,.int .i64 ic] 44 (0,0))):=heap_alloc_new _ _
 have HS12:Hid (w1.heap.size<(w1.alloc (.cells #[.int .i64 2,.int .i64 ka,.int .i64 kb,.int .i64 ic] 44)).drew.heap.size):=by unfold Hid;simp
 generalize (w1.alloc (.cells #[.int .i64 2,.int .i64 ka,.int .i64 kb,.int .i64 ic] 44)).drew=w2 at *
 clear c0 c1 d0 d1 d2 d3 n0 n2
 have hw2:=HW.out.below hbl2
 obtain ⟨c0,c1,c2,c3,c4,c5,c6,cf⟩:=hw2.cells
 have f1:=cf 1
 have f6:=cf 6
 have HCF:=hide cf
 have HF2:Hid (Fr (fun k=>k=b) w w2):=Fr.of_below hbl2
 have HW2:=hide hw2
 clear cf hw2
 go_wp2
 refine wp_goto ?_
 show J (.goto 1) _ _
 rw [← HJ.out]
 refine ⟨_,rfl,?_⟩
 clear HJ
 generalize hJ1:jumpQ Tryz.prog _ _ 2=J1
 have HJ1:=hide hJ1
 clear hJ1
 have da:=HAL.out w2 hbl2 kb hkb
 have HT:=hide (((unhide HE).at' kb hkb).below hbl2)
 rw [hsrc] at HT
 have cr:=HW2.out.regCell ka hka
 have hk0:(0:Int)≤(ka:Int):=by omega
 have hk1:(ka:Int)<4:=by omega
 have hkb0:(0:Int)≤(kb:Int):=by omega
 have hkb1:(kb:Int)<(n:Int):=by omega
 obtain ⟨v,hv⟩:∃ v,v=x.r ka:=⟨_,rfl⟩
 rw [← hv] at cr
 have HVV:=hide hv
 clear hv
 have hsb:=HT.out.blk
 have nb1:b≠st kb:=ne_of_types HW2.out.blk hsb (by decide)
 have nb2:∀ c,CH kb=some c→b≠c:=fun c hc=>by
  obtain ⟨⟨s,r,h1⟩,_⟩:=HT.out.chan c hc
  exact ne_of_chan HW2.out.blk h1
 have nb3:∀ c,(VW kb).ownBlock=some c→b≠c:=fun c hc=>by
  obtain ⟨cur,h1⟩:=own_block HT.out.own hc
  exact ne_of_types HW2.out.blk h1 (by decide)
 have na1:w1.heap.size≠st kb:=ne_of_types HAB.out hsb (by decide)
 have na2:∀ c,CH kb=some c→w1.heap.size≠c:=fun c hc=>by
  obtain ⟨⟨s,r,h1⟩,_⟩:=HT.out.chan c hc
  exact ne_of_chan HAB.out h1
 have na3:∀ c,(VW kb).ownBlock=some c→w1.heap.size≠c:=fun c hc=>by
  obtain ⟨cur,h1⟩:=own_block HT.out.own hc
  exact ne_of_types HAB.out h1 (by decide)
 have no1:∀ y,vc.ownBlock=some y→y≠st kb:=fun y hy=>by
  obtain ⟨cur,h1⟩:=own_block HW2.out.own hy
  exact ne_of_types h1 hsb (by decide)
 have no2:∀ y,vc.ownBlock=some y→∀ c,CH kb=some c→y≠c:=fun y hy c hc=>by
  obtain ⟨cur,h1⟩:=own_block HW2.out.own hy
  obtain ⟨⟨s,r,h2⟩,_⟩:=HT.out.chan c hc
  exact ne_of_chan h1 h2
 have no3:∀ y,vc.ownBlock=some y→∀ c,(VW kb).ownBlock=some c→y≠c:=fun y hy c hc=>by
  obtain ⟨cur,h1⟩:=own_block HW2.out.own hy
  obtain ⟨cur',h2⟩:=own_block HT.out.own hc
  exact ne_of_types h1 h2 (by decide)
 have hga:∃ cs:List Value,w2.heap[ga]? = some (.cells cs.toArray 70 (0,0))∧cs[kb]? = some (.pointer (some ⟨st kb,0,none⟩)):=by
  obtain ⟨⟨g',cap',hv',cs,hg',hcs'⟩, -⟩:=((unhide HE).below hbl2).along
  cases hv'
  exact ⟨cs,hg',hcs' kb hkb⟩
 obtain ⟨gcs,hgb,hgk⟩:=hga
 have ng1:ga≠st kb:=ne_of_types hgb hsb (by decide)
 have ng2:∀ c,CH kb=some c→ga≠c:=fun c hc=>by
  obtain ⟨⟨s,r,h1⟩,_⟩:=HT.out.chan c hc
  exact ne_of_chan hgb h1
 have ng3:∀ c,(VW kb).ownBlock=some c→ga≠c:=fun c hc=>by
  obtain ⟨cur,h1⟩:=own_block HT.out.own hc
  exact ne_of_types hgb h1 (by decide)
 have HN:=hide (And.intro (And.intro nb1 (And.intro nb2 nb3)) (And.intro na1 (And.intro na2 na3)))
 have HP:Hid (∀ wx,(∃ q,wx=w2.drewN q)→Calls Tryz.prog 79 #[.pointer (some ⟨st kb,0,none⟩),.int .i64 v] wx fun e w'=>e=.returned (.bool true) ∧
   (w'.cell? ⟨w1.heap.size,1,none⟩=some (.int .i64 ka)∧w'.cell? ⟨w1.heap.size,2,none⟩=some (.int .i64 kb)∧w'.cell? ⟨ga,kb,none⟩=some (.pointer (some ⟨st kb,0,none⟩))∧w'.cell? ⟨b,2+ka,none⟩=some (.int .i64 v)) ∧
   WkAt w' b vc code x∧∃ vw',(∀ g,vw'.ownBlock=some g→(VW kb).ownBlock=some g∨w.heap.size≤g)∧StAt w' (st kb) vw' (CH kb) false { M kb with words:=(M kb).words++[v]} ∧
   (∀ y,vw'.ownBlock=some y∨y=st kb∨CH kb=some y→y≠b) ∧
   Fr (fun k=>k=b∨k=st kb∨(VW kb).ownBlock=some k∨CH kb=some k) w w'):=by
  rintro wx ⟨q,rfl⟩
  have hx:Below w2.heap.size w2 (w2.drewN q):=below_drewN (Below.refl _ _) q
  refine (put_calls v (HT.out.below hx) hsm2).mono fun e w' h=>?_
  rcases h with ⟨h1,h2,vw',h3,h4,h5⟩ | ⟨_,h1,h2,_⟩
  ·have keep:∀ k,k<w2.heap.size→k≠st kb→(∀ c,(VW kb).ownBlock=some c→k≠c)→(∀ c,CH kb=some c→k≠c)→w'.heap[k]? = w2.heap[k]? := fun k hk e1 e2 e3=>
    h5.block k hk (fun h=>h.elim e1 (fun h=>h.elim (fun h=>e2 k h rfl) (fun h=>e3 k h rfl)))
   have kb':=keep b (lt_of_blk HW2.out.blk) nb1 nb3 nb2
   have ka':=keep w1.heap.size (lt_of_blk HAB.out) na1 na3 na2
   have kg':=keep ga (lt_of_blk hgb) ng1 ng3 ng2
   have hw':WkAt w' b vc code x:=HW2.out.stays fun y hy=>by
    rcases hy with rfl | hy
    ·exact kb'
    ·obtain ⟨cur,h6⟩:=own_block HW2.out.own hy
     exact keep y (lt_of_blk h6) (no1 y hy) (no3 y hy) (no2 y hy)
   refine ⟨h1,⟨row_cell (ka'.trans HAB.out) rfl,row_cell (ka'.trans HAB.out) rfl,row_cell (kg'.trans hgb) hgk,?_⟩,hw',vw',fun g hg=>?_,h4,?_,?_⟩
   ·rw [HVV.out];exact hw'.regCell ka hka
   ·rcases h3 g hg with h6 | h6
    ·exact Or.inl h6
    ·exact Or.inr (Nat.le_trans hbl2.size h6)
   ·intro y hy
    rcases hy with hy | rfl | hy
    ·obtain ⟨cur,h6⟩:=own_block h4.own hy
     exact ne_of_types h6 hw'.blk (by decide)
    ·exact fun e=>nb1 e.symm
    ·exact fun e=>nb2 y hy e.symm
   ·exact (Fr.of_below (hbl2.trans (hx.mono hbl2.size))).trans h5 (fun y _ h=>Or.inr h)
  ·exact absurd ⟨h1,h2⟩ HCS.out
 clear nb1 nb2 nb3 na1 na2 na3 no1 no2 no3 ng1 ng2 ng3 hgb hgk hsb
 go_wp2
 go_region_held3 (fun w'=>w'.cell? ⟨w1.heap.size,1,none⟩=some (.int .i64 ka)∧w'.cell? ⟨w1.heap.size,2,none⟩=some (.int .i64 kb)∧w'.cell? ⟨ga,kb,none⟩=some (.pointer (some ⟨st kb,0,none⟩))∧w'.cell? ⟨b,2+ka,none⟩=some (.int .i64 v)) (go_keep) ((go_at_call 79;refine (unhide HP _ ⟨1,rfl⟩).mono ?_;rintro e w3 ⟨rfl,⟨s1,s2,s3,s4⟩,hw3,vw',hvw,hst3,hyb,hfr3⟩))
 have HW3:=hide hw3
 have HREST:=hide (And.intro hvw (And.intro hst3 (And.intro hyb hfr3)))
 clear hvw hst3 hyb hfr3 s1 s2 s3 s4 hw3 c0 c1 c2 c3 c4 c5 c6 f1 f6 a0 a1 a2 a3 cr da
 obtain ⟨c0,c1,c2,c3,c4,c5,c6,cf⟩:=HW3.out.cells
 have f1:=cf 1
 have f6:=cf 6
 clear cf
 go_wp2
 refine wp_goto ?_
 show J1 (.goto 6) _ _
 rw [← HJ1.out]
 refine ⟨_,rfl,?_⟩
 clear HJ1
 generalize hJ2:jumpQ Tryz.prog _ _ 1=J2
 have HJ2:=hide hJ2
 clear hJ2
 go_wp2
 rw [← HJ2.out]
 refine jumpQ_ret ?_
 go_ret
 obtain ⟨hvw,hst3,hyb,hfr3⟩:=HREST.out
 obtain ⟨q1,q2,q3⟩:=alone_end (w:=w3) (y:=nextW x ⟨2,ka,kb,ic⟩ none) (Fr.refl _ _) HW3.out ((x.place:Int)+1) (by simp [nextW]) (by have:=HLT.out;simp [nextW];omega) (by simp [nextW]) (by simp [nextW])
 refine Or.inr ⟨rfl,?_,q2,vw',?_,?_,?_⟩
 ·simpa using HCS.out
 ·simpa using hvw
 ·simp only [Int.toNat_natCast]
  rw [← HVV.out]
  refine hst3.stays fun y hy=>?_
  have hne:y≠b:=hyb y (by rcases hy with h | h | h;exact Or.inr (Or.inl h);exact Or.inl h;exact Or.inr (Or.inr h))
  rw [Below.heap_setCell _ _ _ _ hne,Below.heap_setCell _ _ _ _ hne]
 ·simp only [Int.toNat_natCast]
  exact Fr.setCell (S:=fun k=>k=b∨k=st kb∨(VW kb).ownBlock=some k∨CH kb=some k) (Fr.setCell (S:=fun k=>k=b∨k=st kb∨(VW kb).ownBlock=some k∨CH kb=some k) hfr3 (p:=⟨b,1,none⟩) (Or.inr (Or.inl rfl)) _) (p:=⟨b,6,none⟩) (Or.inr (Or.inl rfl)) _
open Go.RowKit
theorem doStep_w_ne (N:Net) (R:Rc) (j k:Nat) (h:k≠j):(doStep N R j).w k=R.w k:=by
 simp only [doStep]
 split
 ·rfl
 ·exact getD_set_ne _ _ _ _ _ (fun e=>h e.symm)
end Go.Proofs.YthfdgdfnflilfaaGreatDoor

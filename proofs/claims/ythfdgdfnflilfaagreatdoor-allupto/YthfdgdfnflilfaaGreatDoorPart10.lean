/- Part 10: Workers2, Workers3, Workers5, Workers6, Streams6. -/
import Derived.WalkMore
import Derived.StillTailTactics
import Derived.Test.YthfdgdfnflilfaaGreatDoorPart7
namespace Go.Proofs.YthfdgdfnflilfaaGreatDoor
open Go.RowKit Go.Conc
structure Env (w:World) (va:Value) (n:Nat) (st:Nat→Nat) (VW:Nat→Value) (CH:Nat→Option Nat) (SRC:Nat→Bool) (M:Nat→Sm):Prop where
 along:Along w va st n
 at':∀ s,s<n→StAt w (st s) (VW s) (CH s) (SRC s) (M s)
structure CodeOk (code:List Ins) (n:Nat) (CH:Nat→Option Nat) (SRC:Nat→Bool):Prop where
 ins:∀ i∈code,opsValid i code.length n=true
 rd:∀ i∈code,i.op=1→SRC i.b.toNat=true∨CH i.b.toNat≠none
 wr:∀ i∈code,i.op=2→SRC i.b.toNat=false
def stateL (code:List Ins) (x:Wk) (CH:Nat→Option Nat) (SRC:Nat→Bool) (M:Nat→Sm):Nat:=
 match code[x.place]? with
 | none=>4
 | some i=>
  if i.op=1∧SRC i.b.toNat=false∧(M i.b.toNat).read=(M i.b.toNat).words.length then 2
  else if i.op=2∧(CH i.b.toNat).isSome=true∧(M i.b.toNat).room≤(M i.b.toNat).words.length-(M i.b.toNat).read then 3
  else 1
theorem Env.below {w w':World} {va:Value} {n:Nat} {st:Nat→Nat} {VW:Nat→Value} {CH:Nat→Option Nat} {SRC:Nat→Bool} {M:Nat→Sm} (h:Env w va n st VW CH SRC M) (hb:Below w.heap.size w w'):Env w' va n st VW CH SRC M:=by
 obtain ⟨⟨g,cap,hv,cs,hg,hcs⟩,hsm⟩:=h.along
 exact ⟨⟨⟨g,cap,hv,cs,by rw [hb.block g (lt_of_blk hg)];exact hg,hcs⟩,hsm⟩,fun s hs=>(h.at' s hs).below hb⟩
theorem WkAt.below {w w':World} {b:Nat} {vc:Value} {code:List Ins} {x:Wk} (h:WkAt w b vc code x) (hb:Below w.heap.size w w'):WkAt w' b vc code x:=by
 refine h.stays fun y hy=>hb.block y ?_
 rcases hy with rfl | hy
 ·exact lt_of_blk h.blk
 ·obtain ⟨cur,hc⟩:=own_block h.own hy;exact lt_of_blk hc
theorem valid_op {i:Ins} {c s:Int} (h:opsValid i c s=true):1≤i.op∧i.op≤9:=by
 simp only [opsValid,Bool.and_eq_true,decide_eq_true_eq] at h
 exact ⟨h.1.1.1.1,h.1.1.1.2⟩
theorem valid_reg {i:Ins} {c s:Int} (h:opsValid i c s=true) (ho:i.op≠9):0≤i.a∧i.a<4:=by
 have hv:=valid_op h
 simp only [opsValid,Bool.and_eq_true,decide_eq_true_eq] at h
 have h1:=h.1.1.2
 simp only [fitsB,k1,if_neg ho,if_true,inB,Bool.and_eq_true,decide_eq_true_eq] at h1
 exact h1
theorem valid_stream {i:Ins} {c s:Int} (h:opsValid i c s=true) (ho:i.op=1∨i.op=2):0≤i.b∧i.b<s:=by
 simp only [opsValid,Bool.and_eq_true,decide_eq_true_eq] at h
 have h1:=h.1.2
 simp only [fitsB,k2,if_pos ho] at h1
 simpa [inB] using h1
theorem valid_alu {i:Ins} {c s:Int} (h:opsValid i c s=true) (ho:i.op=4∨i.op=5∨i.op=6∨i.op=7):(0≤i.b∧i.b<4)∧(0≤i.c∧i.c<4):=by
 simp only [opsValid,Bool.and_eq_true,decide_eq_true_eq] at h
 have h1:=h.1.2
 have h2:=h.2
 rcases ho with e | e | e | e<;>simp [fitsB,k2,k3,e,inB] at h1 h2<;>exact ⟨h1,h2⟩
theorem valid_place {i:Ins} {c s:Int} (h:opsValid i c s=true) (ho:i.op=1∨i.op=8∨i.op=9):0≤i.c∧i.c≤c:=by
 simp only [opsValid,Bool.and_eq_true,decide_eq_true_eq] at h
 have h2:=h.2
 rcases ho with e | e | e<;>simp [fitsB,k3,e] at h2<;>exact h2
theorem along_at {w:World} {va:Value} {st:Nat→Nat} {n:Nat} (h:Along w va st n):∃ g cap,va=.slice (some ⟨g,0,none⟩) n cap∧g<w.heap.size∧∀ wr,Below w.heap.size w wr→∀ s,s<n→wr.cell? ⟨g,s,none⟩=some (.pointer (some ⟨st s,0,none⟩)):=by
 obtain ⟨⟨g,cap,hv,cs,hg,hcs⟩, -⟩:=h
 refine ⟨g,cap,hv,lt_of_blk hg,fun wr hb s hs=>?_⟩
 rw [hb.cell (p:=⟨g,s,none⟩) (lt_of_blk hg)]
 exact row_cell hg (hcs s hs)
set_option maxRecDepth 100000 in
set_option maxHeartbeats 2000000 in
theorem wstate_calls {w:World} {b:Nat} {vc va:Value} {code:List Ins} {x:Wk} {n:Nat} {st:Nat→Nat} {VW:Nat→Value} {CH:Nat→Option Nat} {SRC:Nat→Bool} {M:Nat→Sm}
  (hw:WkAt w b vc code x) (he:Env w va n st VW CH SRC M) (hc:CodeOk code n CH SRC) :
  Calls Tryz.prog 87 #[.pointer (some ⟨b,0,none⟩),va] w fun e w'=>e=.returned (.int .i64 (stateL code x CH SRC M))∧Below w.heap.size w w':=by
 obtain ⟨c0,c1,c2,c3,c4,c5,c6,cf⟩:=hw.cells
 obtain ⟨a,cap,rfl,hcap,hcode⟩:=code_form hw.own
 have hle:=hw.le
 have hsm:=hw.small
 clear cf c2 c3 c4 c5 c6
 by_cases hlt:x.place<code.length
 ·obtain ⟨g,rfl,d0,d1,d2,d3⟩:=hcode x.place hlt
  have hmem:code[x.place]∈code:=List.getElem_mem hlt
  have hok:=hc.ins _ hmem
  have hrd:=hc.rd _ hmem
  have hwr:=hc.wr _ hmem
  have HV:Hid (stateL code x CH SRC M=(if code[x.place].op=1∧SRC code[x.place].b.toNat=false∧(M code[x.place].b.toNat).read=(M code[x.place].b.toNat).words.length then 2
   else if code[x.place].op=2∧(CH code[x.place].b.toNat).isSome=true∧(M code[x.place].b.toNat).room≤(M code[x.place].b.toNat).words.length-(M code[x.place].b.toNat).read then 3
   else 1)):=by unfold Hid;simp [stateL,List.getElem?_eq_getElem hlt]
  have HE:=hide he
  obtain ⟨ga,gcap,rfl,hgl,hal⟩:=along_at he.along
  have HAL:=hide hal
  clear hcode hmem hc hw hal he
  generalize code[x.place]=ins at *
  obtain ⟨op,ia,ib,ic⟩:=ins
  dsimp only at *
  have hop:=valid_op hok
  have hst:=valid_stream hok
  dsimp only at hop hst
  have hd0:decide ((code.length:Int)≤(x.place:Int))=false:=by simp;omega
  have hp0:(0:Int)≤(x.place:Int):=by omega
  have hp1:(x.place:Int)<(code.length:Int):=by omega
  by_cases o1:op=1
  ·subst o1
   obtain ⟨hb0,hb1⟩:=hst (Or.inl rfl)
   obtain ⟨kb,rfl⟩:=Int.eq_ofNat_of_zero_le hb0
   have hkb:kb<n:=by omega
   simp only [Int.toNat_natCast] at HV hrd hwr
   have hrd:=hrd (by trivial)
   clear hwr hst hok
   go_enter Tryz.func87,Tryz.ntmps87
   go_wp2
   go_quiet (fail)
   go_wp2
   obtain ⟨w1,hw1⟩:∃ w1,w1=w.drewN nq:=⟨_,rfl⟩
   rw [← hw1]
   have hcell:∀ p,w1.cell? p=w.cell? p:=fun p=>by rw [hw1];rfl
   rw [← hcell] at c0 c1 d0 d1 d2 d3
   clear hcell
   have hbl:Below w.heap.size w w1:=by rw [hw1];exact below_drewN (Below.refl _ _) _
   clear hw1
   have n0:=World.new_ne w1 _ c0
   have n1:=World.new_ne w1 _ c1
   have n2:=World.new_ne w1 _ d0
   have n3:=World.new_ne w1 _ d1
   have n4:=World.new_ne w1 _ d2
   have n5:=World.new_ne w1 _ d3
   go_region_held3 (fun w'=>w'.cell? ⟨b,0,none⟩=some (.slice (some ⟨g,0,none⟩) code.length cap)∧w'.cell? ⟨b,1,none⟩=some (.int .i64 x.place)∧w'.cell? ⟨g,x.place*4,none⟩=some (.int .i64 1)∧w'.cell? ⟨g,x.place*4+1,none⟩=some (.int .i64 ia)∧w'.cell? ⟨g,x.place*4+2,none⟩=some (.int .i64 kb)∧w'.cell? ⟨g,x.place*4+3,none⟩=some (.int .i64 ic)) (go_keep) (fail)
   have HBL:Hid (Below w.heap.size w (w1.alloc (.cells #[.int .i64 1,.int .i64 ia,.int .i64 kb,.int .i64 ic] 44)).drew):=(hbl.alloc hbl.size _).drew
   have a0:(w1.alloc (.cells #[.int .i64 1,.int .i64 ia,.int .i64 kb,.int .i64 ic] 44)).drew.cell? ⟨w1.heap.size,0,none⟩=some (.int .i64 1):=by simp [go_sem]
   have a2:(w1.alloc (.cells #[.int .i64 1,.int .i64 ia,.int .i64 kb,.int .i64 ic] 44)).drew.cell? ⟨w1.heap.size,2,none⟩=some (.int .i64 kb):=by simp [go_sem]
   generalize (w1.alloc (.cells #[.int .i64 1,.int .i64 ia,.int .i64 kb,.int .i64 ic] 44)).drew=w2 at *
   have da:=HAL.out w2 HBL.out kb hkb
   clear c0 c1 d0 d1 d2 d3
   go_wp2_with fail
   refine (waiting_calls (((unhide HE).at' kb hkb).below HBL.out) hrd).mono ?_
   rintro e w3 ⟨rfl,rfl⟩
   generalize hy:(!SRC kb && ((M kb).read == (M kb).words.length))=y
   have HY:=hide hy
   clear hy
   cases y
   ·have F:Hid (stateL code x CH SRC M=1):=by
     have h1:=HY.out
     have hne:¬ (SRC kb=false∧(M kb).read=(M kb).words.length):=by
      rintro ⟨e1,e2⟩;rw [e1,e2] at h1;simp at h1
     unfold Hid;rw [HV.out,if_neg (fun e=>hne e.2),if_neg (fun e=>by cases e.1)]
    go_wp2
    go_ret
    exact ⟨ret_int (by rw [F.out];rfl),by repeat (first | exact HBL.out | apply Below.drew | apply below_drewN)⟩
   ·have F:Hid (stateL code x CH SRC M=2):=by
     have h1:=HY.out
     simp only [Bool.and_eq_true,Bool.not_eq_true',beq_iff_eq] at h1
     unfold Hid;rw [HV.out,if_pos ⟨by trivial,h1.1,h1.2⟩]
    go_wp2
    go_ret
    exact ⟨ret_int (by rw [F.out];rfl),by repeat (first | exact HBL.out | apply Below.drew | apply below_drewN)⟩
  by_cases o2:op=2
  ·subst o2
   obtain ⟨hb0,hb1⟩:=hst (Or.inr rfl)
   obtain ⟨kb,rfl⟩:=Int.eq_ofNat_of_zero_le hb0
   have hkb:kb<n:=by omega
   simp only [Int.toNat_natCast] at HV hrd hwr
   clear hwr hst hok hrd
   go_enter Tryz.func87,Tryz.ntmps87
   go_wp2
   go_quiet (fail)
   go_wp2
   obtain ⟨w1,hw1⟩:∃ w1,w1=w.drewN nq:=⟨_,rfl⟩
   rw [← hw1]
   have hcell:∀ p,w1.cell? p=w.cell? p:=fun p=>by rw [hw1];rfl
   rw [← hcell] at c0 c1 d0 d1 d2 d3
   clear hcell
   have hbl:Below w.heap.size w w1:=by rw [hw1];exact below_drewN (Below.refl _ _) _
   clear hw1
   have n0:=World.new_ne w1 _ c0
   have n1:=World.new_ne w1 _ c1
   have n2:=World.new_ne w1 _ d0
   have n3:=World.new_ne w1 _ d1
   have n4:=World.new_ne w1 _ d2
   have n5:=World.new_ne w1 _ d3
   go_region_held3 (fun w'=>w'.cell? ⟨b,0,none⟩=some (.slice (some ⟨g,0,none⟩) code.length cap)∧w'.cell? ⟨b,1,none⟩=some (.int .i64 x.place)∧w'.cell? ⟨g,x.place*4,none⟩=some (.int .i64 2)∧w'.cell? ⟨g,x.place*4+1,none⟩=some (.int .i64 ia)∧w'.cell? ⟨g,x.place*4+2,none⟩=some (.int .i64 kb)∧w'.cell? ⟨g,x.place*4+3,none⟩=some (.int .i64 ic)) (go_keep) (fail)
   have HBL:Hid (Below w.heap.size w (w1.alloc (.cells #[.int .i64 2,.int .i64 ia,.int .i64 kb,.int .i64 ic] 44)).drew):=(hbl.alloc hbl.size _).drew
   have a0:(w1.alloc (.cells #[.int .i64 2,.int .i64 ia,.int .i64 kb,.int .i64 ic] 44)).drew.cell? ⟨w1.heap.size,0,none⟩=some (.int .i64 2):=by simp [go_sem]
   have a2:(w1.alloc (.cells #[.int .i64 2,.int .i64 ia,.int .i64 kb,.int .i64 ic] 44)).drew.cell? ⟨w1.heap.size,2,none⟩=some (.int .i64 kb):=by simp [go_sem]
   generalize (w1.alloc (.cells #[.int .i64 2,.int .i64 ia,.int .i64 kb,.int .i64 ic] 44)).drew=w2 at *
   have da:=HAL.out w2 HBL.out kb hkb
   clear c0 c1 d0 d1 d2 d3
   go_wp2_with fail
   refine (full_calls (((unhide HE).at' kb hkb).below HBL.out)).mono ?_
   rintro e w3 ⟨rfl,q,rfl⟩
   generalize hy:((CH kb).isSome && decide ((M kb).room≤(M kb).words.length-(M kb).read))=y
   have HY:=hide hy
   clear hy
   cases y
   ·have F:Hid (stateL code x CH SRC M=1):=by
     have h1:=HY.out
     have hne:¬ ((CH kb).isSome=true∧(M kb).room≤(M kb).words.length-(M kb).read):=by
      rintro ⟨e1,e2⟩;rw [e1,decide_eq_true e2] at h1;cases h1
     unfold Hid;rw [HV.out,if_neg (fun e=>by cases e.1),if_neg (fun e=>hne e.2)]
    go_wp2
    go_ret
    exact ⟨ret_int (by rw [F.out];rfl),by repeat (first | exact HBL.out | apply Below.drew | apply below_drewN)⟩
   ·have F:Hid (stateL code x CH SRC M=3):=by
     have h1:=HY.out
     simp only [Bool.and_eq_true,decide_eq_true_eq] at h1
     unfold Hid;rw [HV.out,if_neg (fun e=>by cases e.1),if_pos ⟨by trivial,h1.1,h1.2⟩]
    go_wp2
    go_ret
    exact ⟨ret_int (by rw [F.out];rfl),by repeat (first | exact HBL.out | apply Below.drew | apply below_drewN)⟩
  have b1:(op == 1)=false:=by simpa using o1
  have b2:(op == 2)=false:=by simpa using o2
  have F:Hid (stateL code x CH SRC M=1):=by unfold Hid;rw [HV.out,if_neg (fun e=>o1 e.1),if_neg (fun e=>o2 e.1)]
  go_enter Tryz.func87,Tryz.ntmps87
  go_wp2
  go_quiet (fail)
  go_wp2
  obtain ⟨w1,hw1⟩:∃ w1,w1=w.drewN nq:=⟨_,rfl⟩
  rw [← hw1]
  have hcell:∀ p,w1.cell? p=w.cell? p:=fun p=>by rw [hw1];rfl
  rw [← hcell] at c0 c1 d0 d1 d2 d3
  clear hcell
  have hbl:Below w.heap.size w w1:=by rw [hw1];exact below_drewN (Below.refl _ _) _
  clear hw1
  have n0:=World.new_ne w1 _ c0
  have n1:=World.new_ne w1 _ c1
  have n2:=World.new_ne w1 _ d0
  have n3:=World.new_ne w1 _ d1
  have n4:=World.new_ne w1 _ d2
  have n5:=World.new_ne w1 _ d3
  go_region_held3 (fun w'=>w'.cell? ⟨b,0,none⟩=some (.slice (some ⟨g,0,none⟩) code.length cap)∧w'.cell? ⟨b,1,none⟩=some (.int .i64 x.place)∧w'.cell? ⟨g,x.place*4,none⟩=some (.int .i64 op)∧w'.cell? ⟨g,x.place*4+1,none⟩=some (.int .i64 ia)∧w'.cell? ⟨g,x.place*4+2,none⟩=some (.int .i64 ib)∧w'.cell? ⟨g,x.place*4+3,none⟩=some (.int .i64 ic)) (go_keep) (fail)
  have HBL:Hid (Below w.heap.size w (w1.alloc (.cells #[.int .i64 op,.int .i64 ia,.int .i64 ib,.int .i64 ic] 44))):=hbl.alloc hbl.size _
  go_wp2
  go_ret
  exact ⟨ret_int (by rw [F.out];rfl),by repeat (first | exact HBL.out | apply Below.drew | apply below_drewN)⟩
 ·have F:Hid (stateL code x CH SRC M=4):=by unfold Hid;simp only [stateL];rw [List.getElem?_eq_none (by omega)]
  have hd0:decide ((code.length:Int)≤(x.place:Int))=true:=by simp;omega
  clear hcode
  go_enter Tryz.func87,Tryz.ntmps87
  go_wp2
  go_quiet (fail)
  go_wp2
  go_ret
  exact ⟨ret_int (by rw [F.out];rfl),below_drewN (Below.refl _ _) _⟩
def jumpQ (P:Program) (c:Code) (Q:Exit→Act→World→Prop):Nat→Exit→Act→World→Prop
 | 0,e,a,w=>match e with
  | .goto _=>False
  | e=>Q e a w
 | n+1,e,a,w=>match e with
  | .goto l=>∃ rest,findLabel c l=some rest∧rest.wp P (jumpQ P c Q n) a w
  | e=>Q e a w
theorem jumpQ_ret {P:Program} {c:Code} {Q:Exit→Act→World→Prop} {n:Nat} {a:Act} {w:World} (h:Q .ret a w):jumpQ P c Q n .ret a w:=by
 cases n<;>exact h
theorem scope_key {P:Program} {c:Code} {Q:Exit→Act→World→Prop} (b:Frame) (k:List Item) (cs:List Frame):∀ n (x:Code) (a:Act) (w:World),x.wp P (jumpQ P c Q n) a w →
  ∃ e a' w',Q e a' w'∧Arrives P (lone (b.at a (.code x::.inScope c::k)) cs w) b k cs e a' w'
 | 0,x,a,w,h=>by
  obtain ⟨e,a1,w1,hq,harr⟩:=h b (.inScope c::k) cs
  cases e with
  | normal=>exact ⟨.normal,a1,w1,hq,Steps.trans harr (.one step_inScope)⟩
  | exit id=>exact ⟨.exit id,a1,w1,hq,fun k' hk=>harr k' (by simp [exitTo,hk])⟩
  | goto l=>exact hq.elim
  | ret=>exact ⟨_,a1,w1,hq,harr⟩
  | panic ch=>exact ⟨_,a1,w1,hq,harr⟩
  | outgrown=>exact ⟨_,a1,w1,hq,harr⟩
 | n+1,x,a,w,h=>by
  obtain ⟨e,a1,w1,hq,harr⟩:=h b (.inScope c::k) cs
  cases e with
  | normal=>exact ⟨.normal,a1,w1,hq,Steps.trans harr (.one step_inScope)⟩
  | exit id=>exact ⟨.exit id,a1,w1,hq,fun k' hk=>harr k' (by simp [exitTo,hk])⟩
  | goto l=>
   obtain ⟨rest,hf,hr⟩:=hq
   obtain ⟨e2,a2,w2,hq2,harr2⟩:=scope_key b k cs n rest a1 w1 hr
   exact ⟨e2,a2,w2,hq2,.of_steps (harr _ (by simp [gotoIn,hf])) harr2⟩
  | ret=>exact ⟨_,a1,w1,hq,harr⟩
  | panic ch=>exact ⟨_,a1,w1,hq,harr⟩
  | outgrown=>exact ⟨_,a1,w1,hq,harr⟩
theorem wp_scope_ahead {P:Program} {c:Code} {Q:Exit→Act→World→Prop} {a:Act} {w:World} (n:Nat) (h:c.wp P (jumpQ P c Q n) a w):(Code.scope c).wp P Q a w:=by
 intro b k cs
 obtain ⟨e,a1,w1,hq,harr⟩:=scope_key b k cs n c a w h
 exact ⟨e,a1,w1,hq,.of_steps (.one step_scope) harr⟩
set_option maxRecDepth 100000 in
set_option maxHeartbeats 2000000 in
theorem needsRoom_calls {w:World} {b:Nat} {vc va:Value} {code:List Ins} {x:Wk} {n:Nat} {st:Nat→Nat} {VW:Nat→Value} {CH:Nat→Option Nat} {SRC:Nat→Bool} {M:Nat→Sm}
  (hw:WkAt w b vc code x) (he:Env w va n st VW CH SRC M) (hc:CodeOk code n CH SRC) :
  Calls Tryz.prog 95 #[.pointer (some ⟨b,0,none⟩),va] w fun e w'=>
   ((stateL code x CH SRC M=3∧∃ i,code[x.place]? = some i∧e=.returned (.tuple #[.int .i64 i.b,.bool true]))∨(stateL code x CH SRC M≠3∧e=.returned (.tuple #[.int .i64 0,.bool false])))∧Below w.heap.size w w':=by
 have HS:=hide (wstate_calls hw he hc)
 by_cases h3:stateL code x CH SRC M=3
 ·have hlt:x.place<code.length:=by
   rcases Nat.lt_or_ge x.place code.length with h | h
   ·exact h
   ·simp only [stateL] at h3;rw [List.getElem?_eq_none h] at h3;cases h3
  obtain ⟨a,cap,hvc,hcap,hcode⟩:=code_form hw.own
  have hwb:∀ wx,Below w.heap.size w wx→wx.cell? ⟨b,0,none⟩=some vc∧wx.cell? ⟨b,1,none⟩=some (.int .i64 x.place):=fun wx hx=>⟨(hw.below hx).cells.1,(hw.below hx).cells.2.1⟩
  obtain ⟨g,ha,d0,d1,d2,d3⟩:=hcode x.place hlt
  have HW:=hide hwb
  have HD:Hid (∀ wx,Below w.heap.size w wx→wx.cell? ⟨g,x.place*4+2,none⟩=some (.int .i64 code[x.place].b)):=fun wx hx=>(hx.cell (p:=⟨g,_,none⟩) (lt_of_cell d2)).trans d2
  have HI:Hid (code[x.place]? = some code[x.place]):=List.getElem?_eq_getElem hlt
  have hsm:=hw.small
  have H3:=hide h3
  rw [h3] at HS
  have hp0:(0:Int)≤(x.place:Int):=by omega
  have hp1:(x.place:Int)<(code.length:Int):=by omega
  obtain ⟨ga,gcap,rfl, -, -⟩:=along_at he.along
  subst ha
  subst hvc
  generalize code[x.place]=ins at *
  obtain ⟨op,ia,ib,ic⟩:=ins
  dsimp only at *
  clear hcode d0 d1 d2 d3 hwb h3 hw he hc hlt
  go_enter Tryz.func95,Tryz.ntmps95
  go_wp2_with fail
  refine (unhide HS).mono ?_
  rintro e w1 ⟨rfl,hb1⟩
  obtain ⟨c0,c1⟩:=HW.out w1 hb1
  have d2:=HD.out w1 hb1
  go_wp2
  go_quiet (fail)
  go_wp2
  go_ret2
  exact ⟨Or.inl ⟨H3.out,_,HI.out,rfl⟩,below_drewN hb1 _⟩
 ·have H3:=hide h3
  have hbb:((stateL code x CH SRC M:Int) != 3)=true:=by simp;omega
  generalize stateL code x CH SRC M=s at *
  obtain ⟨ga,gcap,rfl, -, -⟩:=along_at he.along
  clear hw he hc
  go_enter Tryz.func95,Tryz.ntmps95
  go_wp2_with fail
  refine (unhide HS).mono ?_
  rintro e w1 ⟨rfl,hb1⟩
  go_wp2
  go_ret2
  exact ⟨Or.inr ⟨H3.out,rfl⟩,hb1⟩
def Alone (w:World) (b:Nat) (vc:Value) (code:List Ins) (y:Wk) (e:Ending) (w':World):Prop:=
 e=.returned (.int .i64 1)∧WkAt w' b vc code y∧Fr (fun k=>k=b) w w'
theorem alone_end {w w2:World} {b:Nat} {vc:Value} {code:List Ins} {x y:Wk} (hf:Fr (fun k=>k=b) w w2) (h:WkAt w2 b vc code x) (p:Int) (hp:(y.place:Int)=p) (hple:y.place≤code.length) (hr:y.r=x.r) (hs:y.steps=wrap64 (x.steps+1)) :
  Alone w b vc code y (.returned (.int .i64 1)) ((w2.setCell ⟨b,1,none⟩ (.int .i64 p)).setCell ⟨b,6,none⟩ (.int .i64 (wrap64 (x.steps+1)))):=by
 refine ⟨rfl,⟨?_,?_,hple,h.small⟩,?_⟩
 ·have h1:=blk_set h.blk 1 (.int .i64 p)
  have h2:=blk_set h1 6 (.int .i64 (wrap64 (x.steps+1)))
  rw [hr,hs,hp]
  simpa using h2
 ·refine own_of_block h.own fun g hg=>?_
  rw [Below.heap_setCell _ _ _ _ (h.ne_own hg),Below.heap_setCell _ _ _ _ (h.ne_own hg)]
 ·exact Fr.setCell (S:=fun k=>k=b) (Fr.setCell (S:=fun k=>k=b) hf (p:=⟨b,1,none⟩) (Or.inr rfl) _) (p:=⟨b,6,none⟩) (Or.inr rfl) _
theorem WkAt.reg {w:World} {b:Nat} {vc:Value} {code:List Ins} {x:Wk} (h:WkAt w b vc code x) (k:Nat) (hk:k<4) (v:Int):WkAt (w.setCell ⟨b,2+k,none⟩ (.int .i64 v)) b vc code ⟨x.place,upd x.r k v,x.steps⟩:=by
 refine ⟨?_,?_,h.le,h.small⟩
 ·have h1:=blk_set h.blk (2+k) (.int .i64 v)
  rw [h1]
  congr 2
  rcases (show k=0∨k=1∨k=2∨k=3 by omega) with rfl | rfl | rfl | rfl<;>simp [upd]
 ·exact own_of_block h.own fun g hg=>Below.heap_setCell _ _ _ _ (h.ne_own hg)
theorem WkAt.regCell {w:World} {b:Nat} {vc:Value} {code:List Ins} {x:Wk} (h:WkAt w b vc code x) (k:Nat) (hk:k<4):w.cell? ⟨b,2+k,none⟩=some (.int .i64 (x.r k)):=by
 rcases (show k=0∨k=1∨k=2∨k=3 by omega) with rfl | rfl | rfl | rfl
 ·exact row_cell h.blk rfl
 ·exact row_cell h.blk rfl
 ·exact row_cell h.blk rfl
 ·exact row_cell h.blk rfl
set_option maxRecDepth 100000 in
set_option maxHeartbeats 2000000 in
theorem wstep_goto {w:World} {b:Nat} {vc va:Value} {code:List Ins} {x:Wk} {n:Nat} {st:Nat→Nat} (hw:WkAt w b vc code x) (ha:Along w va st n) (i:Ins) (hi:code[x.place]? = some i) (hok:opsValid i code.length n=true) (ho:i.op=9) :
  Calls Tryz.prog 48 #[.pointer (some ⟨b,0,none⟩),va] w fun e w'=>Alone w b vc code (nextW x i none) e w':=by
 obtain ⟨c0,c1, -, -, -, -, -, -⟩:=hw.cells
 obtain ⟨a,cap,hvc,hcap,hcode⟩:=code_form hw.own
 have hle:=hw.le
 have hsm:=hw.small
 have hlt:x.place<code.length:=(List.getElem?_eq_some_iff.1 hi).1
 have hie:code[x.place]=i:=(List.getElem?_eq_some_iff.1 hi).2
 obtain ⟨g,ha',d0,d1,d2,d3⟩:=hcode x.place hlt
 rw [hie] at d0 d1 d2 d3
 obtain ⟨ga,gcap,rfl, -, -⟩:=along_at ha
 have HOK:=hide hok
 obtain ⟨op,ia,ib,ic⟩:=i
 dsimp only at *
 have hpl:=valid_place hok (Or.inr (Or.inr ho))
 dsimp only at hpl
 subst ho
 have HW:=hide hw
 have hd0:decide ((code.length:Int)≤(x.place:Int))=false:=by simp;omega
 have hp0:(0:Int)≤(x.place:Int):=by omega
 have hp1:(x.place:Int)<(code.length:Int):=by omega
 rw [hvc,ha'] at c0
 have wrp:IntKind.i64.wrap ((x.place:Int)+1)=(x.place:Int)+1:=by rw [IntKind.wrap_i64];omega
 clear hcode hok hi hie hle hw ha
 go_enter Tryz.func48,Tryz.ntmps48
 go_wp2
 refine wp_scope_ahead 3 ?_
 generalize hJ:jumpQ Tryz.prog _ _ 3=J
 have HJ:=hide hJ
 clear hJ
 go_wp2
 go_quiet (fail)
 go_wp2
 obtain ⟨w1,hw1⟩:∃ w1,w1=w.drewN nq:=⟨_,rfl⟩
 rw [← hw1]
 have hcell:∀ p,w1.cell? p=w.cell? p:=fun p=>by rw [hw1];rfl
 rw [← hcell] at c0 c1 d0 d1 d2 d3
 clear hcell
 have hbl:Below w.heap.size w w1:=by rw [hw1];exact below_drewN (Below.refl _ _) _
 clear hw1
 have n0:=World.new_ne w1 _ c0
 have n2:=World.new_ne w1 _ d0
 go_region_held3 (fun w'=>w'.cell? ⟨b,0,none⟩=some (.slice (some ⟨g,0,none⟩) code.length cap)∧w'.cell? ⟨b,1,none⟩=some (.int .i64 x.place)∧w'.cell? ⟨g,x.place*4,none⟩=some (.int .i64 9)∧w'.cell? ⟨g,x.place*4+1,none⟩=some (.int .i64 ia)∧w'.cell? ⟨g,x.place*4+2,none⟩=some (.int .i64 ib)∧w'.cell? ⟨g,x.place*4+3,none⟩=some (.int .i64 ic)) (go_keep) (fail)
 clear wrp
 have hbl2:Below w.heap.size w (w1.alloc (.cells #[.int .i64 9,.int .i64 ia,.int .i64 ib,.int .i64 ic] 44)).drew:=(hbl.alloc hbl.size _).drew
 have a0:(w1.alloc (.cells #[.int .i64 9,.int .i64 ia,.int .i64 ib,.int .i64 ic] 44)).drew.cell? ⟨w1.heap.size,0,none⟩=some (.int .i64 9):=by simp [go_sem]
 have a1:(w1.alloc (.cells #[.int .i64 9,.int .i64 ia,.int .i64 ib,.int .i64 ic] 44)).drew.cell? ⟨w1.heap.size,1,none⟩=some (.int .i64 ia):=by simp [go_sem]
 have a2:(w1.alloc (.cells #[.int .i64 9,.int .i64 ia,.int .i64 ib,.int .i64 ic] 44)).drew.cell? ⟨w1.heap.size,2,none⟩=some (.int .i64 ib):=by simp [go_sem]
 have a3:(w1.alloc (.cells #[.int .i64 9,.int .i64 ia,.int .i64 ib,.int .i64 ic] 44)).drew.cell? ⟨w1.heap.size,3,none⟩=some (.int .i64 ic):=by simp [go_sem]
 have HNE:Hid (b≠w1.heap.size):=fun e=>n0 e.symm
 generalize (w1.alloc (.cells #[.int .i64 9,.int .i64 ia,.int .i64 ib,.int .i64 ic] 44)).drew=w2 at *
 clear c0 c1 d0 d1 d2 d3 n0 n2
 have hw2:=HW.out.below hbl2
 obtain ⟨c0,c1,c2,c3,c4,c5,c6,cf⟩:=hw2.cells
 have f1:=cf 1
 have f6:=cf 6
 have HCF:=hide cf
 have HF2:Hid (Fr (fun k=>k=b) w w2):=Fr.of_below hbl2
 have HW2:=hide hw2
 clear cf hw2
 go_wp2
 refine wp_goto ?_
 show J (.goto 4) _ _
 rw [← HJ.out]
 refine ⟨_,rfl,?_⟩
 clear HJ
 generalize hJ1:jumpQ Tryz.prog _ _ 2=J1
 have HJ1:=hide hJ1
 clear hJ1
 go_wp2
 go_step3
 go_wp2
 rw [← HJ1.out]
 refine jumpQ_ret ?_
 go_ret
 exact alone_end (y:=nextW x ⟨9,ia,ib,ic⟩ none) HF2.out HW2.out ic (by simp [nextW];omega) (by simp [nextW];omega) (by simp [nextW]) (by simp [nextW])
set_option maxRecDepth 100000 in
set_option maxHeartbeats 2000000 in
theorem wstep_if_no {w:World} {b:Nat} {vc va:Value} {code:List Ins} {x:Wk} {n:Nat} {st:Nat→Nat} (hw:WkAt w b vc code x) (ha:Along w va st n) (i:Ins) (hi:code[x.place]? = some i) (hok:opsValid i code.length n=true) (ho:i.op=8) (hz:x.r i.a.toNat=0) :
  Calls Tryz.prog 48 #[.pointer (some ⟨b,0,none⟩),va] w fun e w'=>Alone w b vc code (nextW x i none) e w':=by
 obtain ⟨c0,c1, -, -, -, -, -, -⟩:=hw.cells
 obtain ⟨a,cap,hvc,hcap,hcode⟩:=code_form hw.own
 have hle:=hw.le
 have hsm:=hw.small
 have hlt:x.place<code.length:=(List.getElem?_eq_some_iff.1 hi).1
 have hie:code[x.place]=i:=(List.getElem?_eq_some_iff.1 hi).2
 obtain ⟨g,ha',d0,d1,d2,d3⟩:=hcode x.place hlt
 rw [hie] at d0 d1 d2 d3
 obtain ⟨ga,gcap,rfl, -, -⟩:=along_at ha
 have HOK:=hide hok
 obtain ⟨op,ia,ib,ic⟩:=i
 dsimp only at *
 have hpl:=valid_place hok (Or.inr (Or.inl ho))
 have hrg:=valid_reg hok (by dsimp only;omega)
 dsimp only at hpl hrg
 subst ho
 obtain ⟨hr0,hr1⟩:=hrg
 obtain ⟨ka,rfl⟩:=Int.eq_ofNat_of_zero_le hr0
 have hka:ka<4:=by omega
 simp only [Int.toNat_natCast] at hz
 have HZ:=hide hz
 clear hz
 have HW:=hide hw
 have hd0:decide ((code.length:Int)≤(x.place:Int))=false:=by simp;omega
 have hp0:(0:Int)≤(x.place:Int):=by omega
 have hp1:(x.place:Int)<(code.length:Int):=by omega
 rw [hvc,ha'] at c0
 have wrp:IntKind.i64.wrap ((x.place:Int)+1)=(x.place:Int)+1:=by rw [IntKind.wrap_i64];omega
 clear hcode hok hi hie hle hw ha
 go_enter Tryz.func48,Tryz.ntmps48
 go_wp2
 refine wp_scope_ahead 3 ?_
 generalize hJ:jumpQ Tryz.prog _ _ 3=J
 have HJ:=hide hJ
 clear hJ
 go_wp2
 go_quiet (fail)
 go_wp2
 obtain ⟨w1,hw1⟩:∃ w1,w1=w.drewN nq:=⟨_,rfl⟩
 rw [← hw1]
 have hcell:∀ p,w1.cell? p=w.cell? p:=fun p=>by rw [hw1];rfl
 rw [← hcell] at c0 c1 d0 d1 d2 d3
 clear hcell
 have hbl:Below w.heap.size w w1:=by rw [hw1];exact below_drewN (Below.refl _ _) _
 clear hw1
 have n0:=World.new_ne w1 _ c0
 have n2:=World.new_ne w1 _ d0
 go_region_held3 (fun w'=>w'.cell? ⟨b,0,none⟩=some (.slice (some ⟨g,0,none⟩) code.length cap)∧w'.cell? ⟨b,1,none⟩=some (.int .i64 x.place)∧w'.cell? ⟨g,x.place*4,none⟩=some (.int .i64 8)∧w'.cell? ⟨g,x.place*4+1,none⟩=some (.int .i64 ka)∧w'.cell? ⟨g,x.place*4+2,none⟩=some (.int .i64 ib)∧w'.cell? ⟨g,x.place*4+3,none⟩=some (.int .i64 ic)) (go_keep) (fail)
 clear wrp
 have hbl2:Below w.heap.size w (w1.alloc (.cells #[.int .i64 8,.int .i64 ka,.int .i64 ib,.int .i64 ic] 44)).drew:=(hbl.alloc hbl.size _).drew
 have a0:(w1.alloc (.cells #[.int .i64 8,.int .i64 ka,.int .i64 ib,.int .i64 ic] 44)).drew.cell? ⟨w1.heap.size,0,none⟩=some (.int .i64 8):=by simp [go_sem]
 have a1:(w1.alloc (.cells #[.int .i64 8,.int .i64 ka,.int .i64 ib,.int .i64 ic] 44)).drew.cell? ⟨w1.heap.size,1,none⟩=some (.int .i64 ka):=by simp [go_sem]
 have a2:(w1.alloc (.cells #[.int .i64 8,.int .i64 ka,.int .i64 ib,.int .i64 ic] 44)).drew.cell? ⟨w1.heap.size,2,none⟩=some (.int .i64 ib):=by simp [go_sem]
 have a3:(w1.alloc (.cells #[.int .i64 8,.int .i64 ka,.int .i64 ib,.int .i64 ic] 44)).drew.cell? ⟨w1.heap.size,3,none⟩=some (.int .i64 ic):=by simp [go_sem]
 have HNE:Hid (b≠w1.heap.size):=fun e=>n0 e.symm
 generalize (w1.alloc (.cells #[.int .i64 8,.int .i64 ka,.int .i64 ib,.int .i64 ic] 44)).drew=w2 at *
 clear c0 c1 d0 d1 d2 d3 n0 n2
 have hw2:=HW.out.below hbl2
 obtain ⟨c0,c1,c2,c3,c4,c5,c6,cf⟩:=hw2.cells
 have f1:=cf 1
 have f6:=cf 6
 have HCF:=hide cf
 have HF2:Hid (Fr (fun k=>k=b) w w2):=Fr.of_below hbl2
 have HW2:=hide hw2
 clear cf hw2
 go_wp2
 refine wp_goto ?_
 show J (.goto 3) _ _
 rw [← HJ.out]
 refine ⟨_,rfl,?_⟩
 clear HJ
 generalize hJ1:jumpQ Tryz.prog _ _ 2=J1
 have HJ1:=hide hJ1
 clear hJ1
 have cr:=HW2.out.regCell ka hka
 rw [HZ.out] at cr
 have hk0:(0:Int)≤(ka:Int):=by omega
 have hk1:(ka:Int)<4:=by omega
 go_wp2
 go_quiet (fail)
 obtain ⟨w3,hw3⟩:∃ w3,w3=w2.drewN nq:=⟨_,rfl⟩
 rw [← hw3]
 have hbl3:Below w2.heap.size w2 w3:=by rw [hw3];exact below_drewN (Below.refl _ _) _
 have hw3':=HW2.out.below hbl3
 have HF3:Hid (Fr (fun k=>k=b) w w3):=by unfold Hid;rw [hw3];exact HF2.out.drewN _
 have hcell:∀ p,w3.cell? p=w2.cell? p:=fun p=>by rw [hw3];rfl
 rw [← hcell] at a3
 clear hcell hw3 cr c0 c1 c2 c3 c4 c5 c6 f1 f6 a0 a1 a2
 obtain ⟨c0,c1,c2,c3,c4,c5,c6,cf⟩:=hw3'.cells
 have f1:=cf 1
 have f6:=cf 6
 have HW3:=hide hw3'
 clear cf hw3'
 go_wp2
 refine wp_goto ?_
 show J1 (.goto 6) _ _
 rw [← HJ1.out]
 refine ⟨_,rfl,?_⟩
 clear HJ1
 generalize hJ2:jumpQ Tryz.prog _ _ 1=J2
 have HJ2:=hide hJ2
 clear hJ2
 go_wp2
 rw [← HJ2.out]
 refine jumpQ_ret ?_
 go_ret
 exact alone_end (y:=nextW x ⟨8,ka,ib,ic⟩ none) HF3.out HW3.out _ (by simp [nextW,HZ.out]) (by simp [nextW,HZ.out];omega) (by simp [nextW]) (by simp [nextW])
set_option maxRecDepth 100000 in
set_option maxHeartbeats 2000000 in
theorem wstep_if_yes {w:World} {b:Nat} {vc va:Value} {code:List Ins} {x:Wk} {n:Nat} {st:Nat→Nat} (hw:WkAt w b vc code x) (ha:Along w va st n) (i:Ins) (hi:code[x.place]? = some i) (hok:opsValid i code.length n=true) (ho:i.op=8) (hz:x.r i.a.toNat≠0) :
  Calls Tryz.prog 48 #[.pointer (some ⟨b,0,none⟩),va] w fun e w'=>Alone w b vc code (nextW x i none) e w':=by
 obtain ⟨c0,c1, -, -, -, -, -, -⟩:=hw.cells
 obtain ⟨a,cap,hvc,hcap,hcode⟩:=code_form hw.own
 have hle:=hw.le
 have hsm:=hw.small
 have hlt:x.place<code.length:=(List.getElem?_eq_some_iff.1 hi).1
 have hie:code[x.place]=i:=(List.getElem?_eq_some_iff.1 hi).2
 obtain ⟨g,ha',d0,d1,d2,d3⟩:=hcode x.place hlt
 rw [hie] at d0 d1 d2 d3
 obtain ⟨ga,gcap,rfl, -, -⟩:=along_at ha
 have HOK:=hide hok
 obtain ⟨op,ia,ib,ic⟩:=i
 dsimp only at *
 have hpl:=valid_place hok (Or.inr (Or.inl ho))
 have hrg:=valid_reg hok (by dsimp only;omega)
 dsimp only at hpl hrg
 subst ho
 obtain ⟨hr0,hr1⟩:=hrg
 obtain ⟨ka,rfl⟩:=Int.eq_ofNat_of_zero_le hr0
 have hka:ka<4:=by omega
 simp only [Int.toNat_natCast] at hz
 have hzz:((x.r ka) == 0)=false:=by simpa using hz
 have HZ:=hide hz
 clear hz
 have HW:=hide hw
 have hd0:decide ((code.length:Int)≤(x.place:Int))=false:=by simp;omega
 have hp0:(0:Int)≤(x.place:Int):=by omega
 have hp1:(x.place:Int)<(code.length:Int):=by omega
 rw [hvc,ha'] at c0
 have wrp:IntKind.i64.wrap ((x.place:Int)+1)=(x.place:Int)+1:=by rw [IntKind.wrap_i64];omega
 clear hcode hok hi hie hle hw ha
 go_enter Tryz.func48,Tryz.ntmps48
 go_wp2
 refine wp_scope_ahead 3 ?_
 generalize hJ:jumpQ Tryz.prog _ _ 3=J
 have HJ:=hide hJ
 clear hJ
 go_wp2
 go_quiet (fail)
 go_wp2
 obtain ⟨w1,hw1⟩:∃ w1,w1=w.drewN nq:=⟨_,rfl⟩
 rw [← hw1]
 have hcell:∀ p,w1.cell? p=w.cell? p:=fun p=>by rw [hw1];rfl
 rw [← hcell] at c0 c1 d0 d1 d2 d3
 clear hcell
 have hbl:Below w.heap.size w w1:=by rw [hw1];exact below_drewN (Below.refl _ _) _
 clear hw1
 have n0:=World.new_ne w1 _ c0
 have n2:=World.new_ne w1 _ d0
 go_region_held3 (fun w'=>w'.cell? ⟨b,0,none⟩=some (.slice (some ⟨g,0,none⟩) code.length cap)∧w'.cell? ⟨b,1,none⟩=some (.int .i64 x.place)∧w'.cell? ⟨g,x.place*4,none⟩=some (.int .i64 8)∧w'.cell? ⟨g,x.place*4+1,none⟩=some (.int .i64 ka)∧w'.cell? ⟨g,x.place*4+2,none⟩=some (.int .i64 ib)∧w'.cell? ⟨g,x.place*4+3,none⟩=some (.int .i64 ic)) (go_keep) (fail)
 clear wrp
 have hbl2:Below w.heap.size w (w1.alloc (.cells #[.int .i64 8,.int .i64 ka,.int .i64 ib,.int .i64 ic] 44)).drew:=(hbl.alloc hbl.size _).drew
 have a0:(w1.alloc (.cells #[.int .i64 8,.int .i64 ka,.int .i64 ib,.int .i64 ic] 44)).drew.cell? ⟨w1.heap.size,0,none⟩=some (.int .i64 8):=by simp [go_sem]
 have a1:(w1.alloc (.cells #[.int .i64 8,.int .i64 ka,.int .i64 ib,.int .i64 ic] 44)).drew.cell? ⟨w1.heap.size,1,none⟩=some (.int .i64 ka):=by simp [go_sem]
 have a2:(w1.alloc (.cells #[.int .i64 8,.int .i64 ka,.int .i64 ib,.int .i64 ic] 44)).drew.cell? ⟨w1.heap.size,2,none⟩=some (.int .i64 ib):=by simp [go_sem]
 have a3:(w1.alloc (.cells #[.int .i64 8,.int .i64 ka,.int .i64 ib,.int .i64 ic] 44)).drew.cell? ⟨w1.heap.size,3,none⟩=some (.int .i64 ic):=by simp [go_sem]
 have HNE:Hid (b≠w1.heap.size):=fun e=>n0 e.symm
 generalize (w1.alloc (.cells #[.int .i64 8,.int .i64 ka,.int .i64 ib,.int .i64 ic] 44)).drew=w2 at *
 clear c0 c1 d0 d1 d2 d3 n0 n2
 have hw2:=HW.out.below hbl2
 obtain ⟨c0,c1,c2,c3,c4,c5,c6,cf⟩:=hw2.cells
 have f1:=cf 1
 have f6:=cf 6
 have HCF:=hide cf
 have HF2:Hid (Fr (fun k=>k=b) w w2):=Fr.of_below hbl2
 have HW2:=hide hw2
 clear cf hw2
 go_wp2
 refine wp_goto ?_
 show J (.goto 3) _ _
 rw [← HJ.out]
 refine ⟨_,rfl,?_⟩
 clear HJ
 generalize hJ1:jumpQ Tryz.prog _ _ 2=J1
 have HJ1:=hide hJ1
 clear hJ1
 have cr:=HW2.out.regCell ka hka
 have hk0:(0:Int)≤(ka:Int):=by omega
 have hk1:(ka:Int)<4:=by omega
 go_wp2
 go_quiet (fail)
 obtain ⟨w3,hw3⟩:∃ w3,w3=w2.drewN nq:=⟨_,rfl⟩
 rw [← hw3]
 have hbl3:Below w2.heap.size w2 w3:=by rw [hw3];exact below_drewN (Below.refl _ _) _
 have hw3':=HW2.out.below hbl3
 have HF3:Hid (Fr (fun k=>k=b) w w3):=by unfold Hid;rw [hw3];exact HF2.out.drewN _
 have hcell:∀ p,w3.cell? p=w2.cell? p:=fun p=>by rw [hw3];rfl
 rw [← hcell] at a3
 clear hcell hw3 cr c0 c1 c2 c3 c4 c5 c6 f1 f6 a0 a1 a2
 obtain ⟨c0,c1,c2,c3,c4,c5,c6,cf⟩:=hw3'.cells
 have f1:=cf 1
 have f6:=cf 6
 have HW3:=hide hw3'
 clear cf hw3'
 go_wp2
 go_step3
 go_wp2
 go_step3
 go_wp2
 rw [← HJ1.out]
 refine jumpQ_ret ?_
 go_ret
 exact alone_end (y:=nextW x ⟨8,ka,ib,ic⟩ none) HF3.out HW3.out ic (by simp [nextW,HZ.out];omega) (by simp [nextW,HZ.out];omega) (by simp [nextW]) (by simp [nextW])
set_option maxRecDepth 100000 in
set_option maxHeartbeats 2000000 in
theorem wstep_set {w:World} {b:Nat} {vc va:Value} {code:List Ins} {x:Wk} {n:Nat} {st:Nat→Nat} (hw:WkAt w b vc code x) (ha:Along w va st n) (i:Ins) (hi:code[x.place]? = some i) (hok:opsValid i code.length n=true) (ho:i.op=3) :
  Calls Tryz.prog 48 #[.pointer (some ⟨b,0,none⟩),va] w fun e w'=>Alone w b vc code (nextW x i none) e w':=by
 obtain ⟨c0,c1, -, -, -, -, -, -⟩:=hw.cells
 obtain ⟨a,cap,hvc,hcap,hcode⟩:=code_form hw.own
 have hle:=hw.le
 have hsm:=hw.small
 have hlt:x.place<code.length:=(List.getElem?_eq_some_iff.1 hi).1
 have hie:code[x.place]=i:=(List.getElem?_eq_some_iff.1 hi).2
 obtain ⟨g,ha',d0,d1,d2,d3⟩:=hcode x.place hlt
 rw [hie] at d0 d1 d2 d3
 obtain ⟨ga,gcap,rfl, -, -⟩:=along_at ha
 have HOK:=hide hok
 obtain ⟨op,ia,ib,ic⟩:=i
 dsimp only at *
 have hrg:=valid_reg hok (by dsimp only;omega)
 dsimp only at hrg
 subst ho
 obtain ⟨hr0,hr1⟩:=hrg
 obtain ⟨ka,rfl⟩:=Int.eq_ofNat_of_zero_le hr0
 have hka:ka<4:=by omega
 have HW:=hide hw
 have hd0:decide ((code.length:Int)≤(x.place:Int))=false:=by simp;omega
 have hp0:(0:Int)≤(x.place:Int):=by omega
 have hp1:(x.place:Int)<(code.length:Int):=by omega
 rw [hvc,ha'] at c0
 have wrp:IntKind.i64.wrap ((x.place:Int)+1)=(x.place:Int)+1:=by rw [IntKind.wrap_i64];omega
 clear hcode hok hi hie hle hw ha
 go_enter Tryz.func48,Tryz.ntmps48
 go_wp2
 refine wp_scope_ahead 3 ?_
 generalize hJ:jumpQ Tryz.prog _ _ 3=J
 have HJ:=hide hJ
 clear hJ
 go_wp2
 go_quiet (fail)
 go_wp2
 obtain ⟨w1,hw1⟩:∃ w1,w1=w.drewN nq:=⟨_,rfl⟩
 rw [← hw1]
 have hcell:∀ p,w1.cell? p=w.cell? p:=fun p=>by rw [hw1];rfl
 rw [← hcell] at c0 c1 d0 d1 d2 d3
 clear hcell
 have hbl:Below w.heap.size w w1:=by rw [hw1];exact below_drewN (Below.refl _ _) _
 clear hw1
 have n0:=World.new_ne w1 _ c0
 have n2:=World.new_ne w1 _ d0
 go_region_held3 (fun w'=>w'.cell? ⟨b,0,none⟩=some (.slice (some ⟨g,0,none⟩) code.length cap)∧w'.cell? ⟨b,1,none⟩=some (.int .i64 x.place)∧w'.cell? ⟨g,x.place*4,none⟩=some (.int .i64 3)∧w'.cell? ⟨g,x.place*4+1,none⟩=some (.int .i64 ka)∧w'.cell? ⟨g,x.place*4+2,none⟩=some (.int .i64 ib)∧w'.cell? ⟨g,x.place*4+3,none⟩=some (.int .i64 ic)) (go_keep) (fail)
 clear wrp
 have hbl2:Below w.heap.size w (w1.alloc (.cells #[.int .i64 3,.int .i64 ka,.int .i64 ib,.int .i64 ic] 44)).drew:=(hbl.alloc hbl.size _).drew
 have a0:(w1.alloc (.cells #[.int .i64 3,.int .i64 ka,.int .i64 ib,.int .i64 ic] 44)).drew.cell? ⟨w1.heap.size,0,none⟩=some (.int .i64 3):=by simp [go_sem]
 have a1:(w1.alloc (.cells #[.int .i64 3,.int .i64 ka,.int .i64 ib,.int .i64 ic] 44)).drew.cell? ⟨w1.heap.size,1,none⟩=some (.int .i64 ka):=by simp [go_sem]
 have a2:(w1.alloc (.cells #[.int .i64 3,.int .i64 ka,.int .i64 ib,.int .i64 ic] 44)).drew.cell? ⟨w1.heap.size,2,none⟩=some (.int .i64 ib):=by simp [go_sem]
 have a3:(w1.alloc (.cells #[.int .i64 3,.int .i64 ka,.int .i64 ib,.int .i64 ic] 44)).drew.cell? ⟨w1.heap.size,3,none⟩=some (.int .i64 ic):=by simp [go_sem]
 have HNE:Hid (b≠w1.heap.size):=fun e=>n0 e.symm
 generalize (w1.alloc (.cells #[.int .i64 3,.int .i64 ka,.int .i64 ib,.int .i64 ic] 44)).drew=w2 at *
 clear c0 c1 d0 d1 d2 d3 n0 n2
 have hw2:=HW.out.below hbl2
 obtain ⟨c0,c1,c2,c3,c4,c5,c6,cf⟩:=hw2.cells
 have f1:=cf 1
 have f6:=cf 6
 have HCF:=hide cf
 have HF2:Hid (Fr (fun k=>k=b) w w2):=Fr.of_below hbl2
 have HW2:=hide hw2
 clear cf hw2
 go_wp2
 refine wp_goto ?_
 show J (.goto 2) _ _
 rw [← HJ.out]
 refine ⟨_,rfl,?_⟩
 clear HJ
 generalize hJ1:jumpQ Tryz.prog _ _ 2=J1
 have HJ1:=hide hJ1
 clear hJ1
 have cr:=HW2.out.regCell ka hka
 have fr:=HCF.out (2+ka)
 have hk0:(0:Int)≤(ka:Int):=by omega
 have hk1:(ka:Int)<4:=by omega
 have nb:b≠w1.heap.size:=HNE.out
 go_wp2
 go_region_held3 (fun w'=>w'.cell? ⟨w1.heap.size,1,none⟩=some (.int .i64 ka)∧w'.cell? ⟨w1.heap.size,3,none⟩=some (.int .i64 ic)) (go_keep) (fail)
 have HW3:=hide (HW2.out.reg ka hka ic)
 have HF3:Hid (Fr (fun k=>k=b) w (w2.setCell ⟨b,2+ka,none⟩ (.int .i64 ic)).drew):=(Fr.setCell (S:=fun k=>k=b) HF2.out (p:=⟨b,2+ka,none⟩) (Or.inr rfl) _).drewN 1
 have HW3':Hid (WkAt (w2.setCell ⟨b,2+ka,none⟩ (.int .i64 ic)).drew b vc code ⟨x.place,upd x.r ka ic,x.steps⟩):=HW3.out.below ((Below.refl _ _).drew)
 clear c0 c1 c2 c3 c4 c5 c6 f1 f6 a0 a1 a2 a3 cr fr HW3
 generalize (w2.setCell ⟨b,2+ka,none⟩ (.int .i64 ic)).drew=w3 at *
 obtain ⟨c0,c1,c2,c3,c4,c5,c6,cf⟩:=HW3'.out.cells
 have f1:=cf 1
 have f6:=cf 6
 clear cf
 go_wp2
 refine wp_goto ?_
 show J1 (.goto 6) _ _
 rw [← HJ1.out]
 refine ⟨_,rfl,?_⟩
 clear HJ1
 generalize hJ2:jumpQ Tryz.prog _ _ 1=J2
 have HJ2:=hide hJ2
 clear hJ2
 go_wp2
 rw [← HJ2.out]
 refine jumpQ_ret ?_
 go_ret
 exact alone_end (y:=nextW x ⟨3,ka,ib,ic⟩ none) HF3.out HW3'.out _ (by simp [nextW]) (by simp [nextW];omega) (by simp [nextW]) (by simp [nextW])
set_option maxRecDepth 100000 in
theorem Tryz.mixed:Tryz.prog.follows .mixedOrders=true:=by kernel_rfl
set_option maxRecDepth 100000 in
set_option maxHeartbeats 2000000 in
theorem wstep_alu {w:World} {b:Nat} {vc va:Value} {code:List Ins} {x:Wk} {n:Nat} {st:Nat→Nat} (hw:WkAt w b vc code x) (ha:Along w va st n) (i:Ins) (hi:code[x.place]? = some i) (hok:opsValid i code.length n=true) (ho:i.op=4∨i.op=5∨i.op=6∨i.op=7) :
  Calls Tryz.prog 48 #[.pointer (some ⟨b,0,none⟩),va] w fun e w'=>Alone w b vc code (nextW x i none) e w':=by
 obtain ⟨c0,c1, -, -, -, -, -, -⟩:=hw.cells
 obtain ⟨a,cap,hvc,hcap,hcode⟩:=code_form hw.own
 have hle:=hw.le
 have hsm:=hw.small
 have hlt:x.place<code.length:=(List.getElem?_eq_some_iff.1 hi).1
 have hie:code[x.place]=i:=(List.getElem?_eq_some_iff.1 hi).2
 obtain ⟨g,ha',d0,d1,d2,d3⟩:=hcode x.place hlt
 rw [hie] at d0 d1 d2 d3
 obtain ⟨ga,gcap,rfl, -, -⟩:=along_at ha
 have HOK:=hide hok
 obtain ⟨op,ia,ib,ic⟩:=i
 dsimp only at *
 have hrg:=valid_reg hok (by dsimp only;omega)
 have hal:=valid_alu hok ho
 dsimp only at hrg hal
 obtain ⟨hr0,hr1⟩:=hrg
 obtain ⟨ka,rfl⟩:=Int.eq_ofNat_of_zero_le hr0
 obtain ⟨⟨hb0,hb1⟩,hc0,hc1⟩:=hal
 obtain ⟨kb,rfl⟩:=Int.eq_ofNat_of_zero_le hb0
 obtain ⟨kc,rfl⟩:=Int.eq_ofNat_of_zero_le hc0
 have hka:ka<4:=by omega
 have hkb:kb<4:=by omega
 have hkc:kc<4:=by omega
 have q1:(op == 1)=false:=by simp;omega
 have q2:(op == 2)=false:=by simp;omega
 have q3:(op == 3)=false:=by simp;omega
 have q8:(op == 8)=false:=by simp;omega
 have q9:(op == 9)=false:=by simp;omega
 have HO:=hide ho
 have HNX:Hid (nextW x ⟨op,ka,kb,kc⟩ none=⟨x.place+1,upd x.r ka (alu op (x.r kb) (x.r kc)),wrap64 (x.steps+1)⟩):=by
  have e1:¬ op=1:=by omega
  have e2:¬ op=2:=by omega
  have e3:¬ op=3:=by omega
  have e8:¬ op=8:=by omega
  have e9:¬ op=9:=by omega
  unfold Hid;simp [nextW,e1,e2,e3,e8,e9]
 clear ho
 have HW:=hide hw
 have hd0:decide ((code.length:Int)≤(x.place:Int))=false:=by simp;omega
 have hp0:(0:Int)≤(x.place:Int):=by omega
 have hp1:(x.place:Int)<(code.length:Int):=by omega
 rw [hvc,ha'] at c0
 have wrp:IntKind.i64.wrap ((x.place:Int)+1)=(x.place:Int)+1:=by rw [IntKind.wrap_i64];omega
 clear hcode hok hi hie hle hw ha
 go_enter Tryz.func48,Tryz.ntmps48
 go_wp2
 refine wp_scope_ahead 3 ?_
 generalize hJ:jumpQ Tryz.prog _ _ 3=J
 have HJ:=hide hJ
 clear hJ
 go_wp2
 go_quiet (fail)
 go_wp2
 obtain ⟨w1,hw1⟩:∃ w1,w1=w.drewN nq:=⟨_,rfl⟩
 rw [← hw1]
 have hcell:∀ p,w1.cell? p=w.cell? p:=fun p=>by rw [hw1];rfl
 rw [← hcell] at c0 c1 d0 d1 d2 d3
 clear hcell
 have hbl:Below w.heap.size w w1:=by rw [hw1];exact below_drewN (Below.refl _ _) _
 clear hw1
 have n0:=World.new_ne w1 _ c0
 have n2:=World.new_ne w1 _ d0
 go_region_held3 (fun w'=>w'.cell? ⟨b,0,none⟩=some (.slice (some ⟨g,0,none⟩) code.length cap)∧w'.cell? ⟨b,1,none⟩=some (.int .i64 x.place)∧w'.cell? ⟨g,x.place*4,none⟩=some (.int .i64 op)∧w'.cell? ⟨g,x.place*4+1,none⟩=some (.int .i64 ka)∧w'.cell? ⟨g,x.place*4+2,none⟩=some (.int .i64 kb)∧w'.cell? ⟨g,x.place*4+3,none⟩=some (.int .i64 kc)) (go_keep) (fail)
 clear wrp
 have hbl2:Below w.heap.size w (w1.alloc (.cells #[.int .i64 op,.int .i64 ka,.int .i64 kb,.int .i64 kc] 44)).drew:=(hbl.alloc hbl.size _).drew
 have a0:(w1.alloc (.cells #[.int .i64 op,.int .i64 ka,.int .i64 kb,.int .i64 kc] 44)).drew.cell? ⟨w1.heap.size,0,none⟩=some (.int .i64 op):=by simp [go_sem]
 have a1:(w1.alloc (.cells #[.int .i64 op,.int .i64 ka,.int .i64 kb,.int .i64 kc] 44)).drew.cell? ⟨w1.heap.size,1,none⟩=some (.int .i64 ka):=by simp [go_sem]
 have a2:(w1.alloc (.cells #[.int .i64 op,.int .i64 ka,.int .i64 kb,.int .i64 kc] 44)).drew.cell? ⟨w1.heap.size,2,none⟩=some (.int .i64 kb):=by simp [go_sem]
 have a3:(w1.alloc (.cells #[.int .i64 op,.int .i64 ka,.int .i64 kb,.int .i64 kc] 44)).drew.cell? ⟨w1.heap.size,3,none⟩=some (.int .i64 kc):=by simp [go_sem]
 have HNE:Hid (b≠w1.heap.size):=fun e=>n0 e.symm
 generalize (w1.alloc (.cells #[.int .i64 op,.int .i64 ka,.int .i64 kb,.int .i64 kc] 44)).drew=w2 at *
 clear c0 c1 d0 d1 d2 d3 n0 n2
 have hw2:=HW.out.below hbl2
 obtain ⟨c0,c1,c2,c3,c4,c5,c6,cf⟩:=hw2.cells
 have f1:=cf 1
 have f6:=cf 6
 have HCF:=hide cf
 have HF2:Hid (Fr (fun k=>k=b) w w2):=Fr.of_below hbl2
 have HW2:=hide hw2
 clear cf hw2
 go_wp2
 refine wp_goto ?_
 show J (.goto 5) _ _
 rw [← HJ.out]
 refine ⟨_,rfl,?_⟩
 clear HJ
 generalize hJ1:jumpQ Tryz.prog _ _ 2=J1
 have HJ1:=hide hJ1
 clear hJ1
 have cb:=HW2.out.regCell kb hkb
 have cc:=HW2.out.regCell kc hkc
 have hkb0:(0:Int)≤(kb:Int):=by omega
 have hkb1:(kb:Int)<4:=by omega
 have hkc0:(0:Int)≤(kc:Int):=by omega
 have hkc1:(kc:Int)<4:=by omega
 obtain ⟨xb,hxb⟩:∃ xb,xb=x.r kb:=⟨_,rfl⟩
 obtain ⟨xc,hxc⟩:∃ xc,xc=x.r kc:=⟨_,rfl⟩
 rw [← hxb] at cb
 rw [← hxc] at cc
 rw [← hxb, ← hxc] at HNX
 clear hxb hxc
 have HR:Hid (∀ wx:World,Calls Tryz.prog 80 #[.int .i64 op,.int .i64 xb,.int .i64 xc] wx fun e w'=>e=.returned (.int .i64 (alu op xb xc))∧w'=wx):=fun wx=>reckoned_calls op xb xc wx HO.out
 generalize alu op xb xc=v at *
 have cr:=HW2.out.regCell ka hka
 have fr:=HCF.out (2+ka)
 have hk0:(0:Int)≤(ka:Int):=by omega
 have hk1:(ka:Int)<4:=by omega
 have nb:b≠w1.heap.size:=HNE.out
 go_wp2
 refine wp_region_still_tail 23 Tryz.mixed (by kernel_rfl) ?_
 simp only [List.take_succ_cons,List.take_zero,List.drop_succ_cons,List.drop_zero]
 iterate 19 still_step
 still_call (unhide HR _)
 iterate 3 still_step
 refine wpStill_nil ?_
 show wpList _ _ _ _ _ w2.drew
 go_wp2
 have HW3:=hide (HW2.out.reg ka hka v)
 have HF3:Hid (Fr (fun k=>k=b) w (w2.setCell ⟨b,2+ka,none⟩ (.int .i64 v)).drew):=(Fr.setCell (S:=fun k=>k=b) HF2.out (p:=⟨b,2+ka,none⟩) (Or.inr rfl) _).drewN 1
 have HW3':Hid (WkAt (w2.setCell ⟨b,2+ka,none⟩ (.int .i64 v)).drew b vc code ⟨x.place,upd x.r ka v,x.steps⟩):=HW3.out.below ((Below.refl _ _).drew)
 clear c0 c1 c2 c3 c4 c5 c6 f1 f6 a0 a1 a2 a3 cr fr HW3 cb cc
 generalize (w2.setCell ⟨b,2+ka,none⟩ (.int .i64 v)).drew=w3 at *
 obtain ⟨c0,c1,c2,c3,c4,c5,c6,cf⟩:=HW3'.out.cells
 have f1:=cf 1
 have f6:=cf 6
 clear cf
 go_wp2
 refine wp_goto ?_
 show J1 (.goto 6) _ _
 rw [← HJ1.out]
 refine ⟨_,rfl,?_⟩
 clear HJ1
 generalize hJ2:jumpQ Tryz.prog _ _ 1=J2
 have HJ2:=hide hJ2
 clear hJ2
 go_wp2
 rw [← HJ2.out]
 refine jumpQ_ret ?_
 go_ret
 exact alone_end (y:=nextW x ⟨op,ka,kb,kc⟩ none) HF3.out HW3'.out _ (by rw [HNX.out];simp) (by rw [HNX.out];dsimp only;omega) (by rw [HNX.out]) (by rw [HNX.out])
def histOf (sourced:Bool) (m:Sm):List Int:=if sourced then m.words.take m.read else m.words
theorem own_cells {w:World} {a:Option Addr} {cap:Nat} {l:List Int} (h:w.ownsRow 0 3 1 (.slice a l.length cap) l.length (intRow l)) (k:Nat) (hk:k≤l.length) (h0:0<k) :
  ∃ g,a=some ⟨g,0,none⟩∧∀ wr:World,wr.heap[g]? = w.heap[g]? → ∀ j u,(intRow (l.take k))[j]? = some u→wr.cell? ((⟨g,0,none⟩:Addr).add j)=some u:=by
 rcases h.2 with ⟨h3,h4⟩ | ⟨g,cap',cur,hv,hg,hh,hn,hm,hs,ht⟩
 ·omega
 ·cases hv
  refine ⟨g,rfl,fun wr hwr j u hj=>?_⟩
  have hj':j<k:=by
   have:=(List.getElem?_eq_some_iff.1 hj).1
   simp [intRow] at this;omega
  rw [addr_add,Nat.zero_add,cell_of_row wr g j cur 3 (0,0) (by rw [hwr];exact hh)]
  have e:(intRow l)[j]? = some u:=by
   rw [← hj];simp only [intRow,List.map_take]
   rw [List.getElem?_take_of_lt hj']
  rw [← ht,List.getElem?_take_of_lt (by omega)] at e
  simpa using e
set_option maxRecDepth 100000 in
set_option maxHeartbeats 1000000 in
theorem shistory_calls {w:World} {b:Nat} {vw:Value} {ch:Option Nat} {sourced:Bool} {m:Sm} (h:StAt w b vw ch sourced m) :
  Calls Tryz.prog 21 #[.pointer (some ⟨b,0,none⟩)] w fun e w'=>∃ a' c',e=.returned (.slice a' (histOf sourced m).length c') ∧
   w'.ownsRow w.heap.size 3 1 (.slice a' (histOf sourced m).length c') (histOf sourced m).length (intRow (histOf sourced m))∧Below w.heap.size w w':=by
 obtain ⟨c0,c1,c2,c3,cf⟩:=h.cells
 obtain ⟨i0,hi,hz0,hz1,hz2⟩:=info_parts Tryz.info3
 obtain ⟨a,cap,rfl,hcap, -⟩:=own_form h.own
 have HO:=hide h.own
 have hsm:=h.small
 have hle:=h.le
 clear c3 cf h
 cases sourced with
 | false=>
  have HN:Hid (0<m.words.length→∃ ad:Addr,a=some ad∧∀ j u,(intRow m.words)[j]? = some u→w.cell? (ad.add j)=some u):=fun h0=>by
   obtain ⟨g,hg,hx⟩:=own_cells HO.out _ (Nat.le_refl _) h0
   refine ⟨⟨g,0,none⟩,hg,fun j u hj=>hx w rfl j u ?_⟩
   rw [List.take_length];exact hj
  have hl:(intRow m.words).length=m.words.length*1:=by rw [intRow_length];omega
  have h1:=intRow_one m.words
  have HP:Hid (∀ (a':Option Addr) (c':Nat) (w':World),w'.ownsRow w.heap.size 3 1 (.slice a' m.words.length c') m.words.length (intRow m.words)→w'.ownsRow w.heap.size 3 1 (.slice a' (histOf false m).length c') (histOf false m).length (intRow (histOf false m))):=fun _ _ _ hx=>hx
  have e:(histOf false m).length=m.words.length:=rfl
  simp only [e] at HP ⊢
  clear e HO
  generalize m.words.length=n at *
  generalize intRow m.words=ws at *
  generalize intRow (histOf false m)=hs at *
  have h63:n≤maxLen:=by unfold maxLen;omega
  have hby:n*8≤140737488355328:=by omega
  have HL:=hide hl
  clear hl
  go_enter Tryz.func21,Tryz.ntmps21
  go_wp2_with (at_builtin;refine wpList_append_fresh rfl _ (.tmp 20) 22 rfl 3 i0 (.int .i64 0) 1 8 Tryz.underlying22 hi hz0 hz1 hz2 rfl (by decide) a n cap ws rfl rfl HL.out HN.out h1 h63 hby ?_)
  intro a' c' w' hown hb
  have HR:=hide (HP.out _ _ _ hown)
  have HB:=hide hb
  clear hown hb
  go_wp2
  go_ret
  exact ⟨_,_,rfl,HR.out,HB.out⟩
 | true=>
  obtain ⟨n,hn⟩:∃ n,n=m.read:=⟨_,rfl⟩
  have HN:Hid (∀ wr:World,(∀ g,g<w.heap.size→wr.heap[g]? = w.heap[g]?)→0<m.read→∃ ad:Addr,a=some ad∧∀ j u,(intRow (m.words.take m.read))[j]? = some u→wr.cell? (ad.add j)=some u):=fun wr hwr h0=>by
   obtain ⟨g,hg,hx⟩:=own_cells HO.out _ hle h0
   refine ⟨⟨g,0,none⟩,hg,fun j u hj=>hx wr (hwr g ?_) j u hj⟩
   obtain ⟨cur,hc⟩:=own_block HO.out (g:=g) (by rw [hg];rfl)
   exact lt_of_blk hc
  have hA:a=none∧cap=0∧m.read=0∧m.words.length=0∨∃ g,a=some ⟨g,0,none⟩:=by
   rcases HO.out.2 with ⟨h3,h4⟩ | ⟨g,cap',cur,hv,hg,hh,hn,hm,hs,ht⟩
   ·simp only [Value.slice.injEq] at h3;exact Or.inl ⟨h3.1,h3.2.2,by omega,h4⟩
   ·cases hv;exact Or.inr ⟨g,rfl⟩
  have hl:(intRow (m.words.take m.read)).length=m.read*1:=by rw [intRow_length];simp;omega
  have h1:=intRow_one (m.words.take m.read)
  have e:(histOf true m).length=m.read:=by simp [histOf];omega
  have HP:Hid (∀ (a':Option Addr) (c':Nat) (w':World),w'.ownsRow w.heap.size 3 1 (.slice a' m.read c') m.read (intRow (m.words.take m.read))→w'.ownsRow w.heap.size 3 1 (.slice a' (histOf true m).length c') (histOf true m).length (intRow (histOf true m))):=fun _ _ _ hx=>by rw [e];exact hx
  simp only [e] at HP ⊢
  rw [if_pos rfl] at c2
  clear e HO hn
  generalize intRow (m.words.take m.read)=ws at *
  generalize intRow (histOf true m)=hs at *
  generalize m.read=n at *
  generalize m.words.length=ln at *
  have h63:n≤maxLen:=by unfold maxLen;omega
  have hby:n*8≤140737488355328:=by omega
  have HL:=hide hl
  clear hl
  have hn0:(0:Int)≤(n:Int):=by omega
  have hnc:(n:Int)≤(cap:Int):=by omega
  rcases hA with ⟨rfl,rfl,rfl,rfl⟩ | ⟨g,rfl⟩
  ·go_enter Tryz.func21,Tryz.ntmps21
   go_wp2
   refine wp_region_still_tail 9 Tryz.mixed (by kernel_rfl) ?_
   simp only [List.take_succ_cons,List.take_zero,List.drop_succ_cons,List.drop_zero]
   iterate 9 still_step
   refine wpStill_nil ?_
   show wpList _ _ _ _ _ w.drew
   go_wp2_with (at_builtin;refine wpList_append_fresh rfl _ (.tmp 15) 22 rfl 3 i0 (.int .i64 0) 1 8 Tryz.underlying22 hi hz0 hz1 hz2 rfl (by decide) none 0 0 ws rfl rfl HL.out (HN.out w.drew (fun _ _=>rfl)) h1 h63 hby ?_)
   intro a' c' w' hown hb
   have HR:=hide (HP.out _ _ _ hown)
   have HB:Hid (Below w.heap.size w w'):=⟨hb.os,hb.tape,hb.output,hb.size,hb.block⟩
   clear hown hb
   go_wp2
   go_ret
   exact ⟨_,_,rfl,HR.out,HB.out⟩
  ·go_enter Tryz.func21,Tryz.ntmps21
   go_wp2
   refine wp_region_still_tail 9 Tryz.mixed (by kernel_rfl) ?_
   simp only [List.take_succ_cons,List.take_zero,List.drop_succ_cons,List.drop_zero]
   iterate 9 still_step
   refine wpStill_nil ?_
   show wpList _ _ _ _ _ w.drew
   go_wp2_with (at_builtin;refine wpList_append_fresh rfl _ (.tmp 15) 22 rfl 3 i0 (.int .i64 0) 1 8 Tryz.underlying22 hi hz0 hz1 hz2 rfl (by decide) (some ⟨g,0,none⟩) n cap ws rfl rfl HL.out (HN.out w.drew (fun _ _=>rfl)) h1 h63 hby ?_)
   intro a' c' w' hown hb
   have HR:=hide (HP.out _ _ _ hown)
   have HB:Hid (Below w.heap.size w w'):=⟨hb.os,hb.tape,hb.output,hb.size,hb.block⟩
   clear hown hb
   go_wp2
   go_ret
   exact ⟨_,_,rfl,HR.out,HB.out⟩
end Go.Proofs.YthfdgdfnflilfaaGreatDoor

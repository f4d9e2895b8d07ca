/- Part 5: Race1, Make1, Make2, Lent2, Open1, Lent3, Lent4. -/
import Derived.StillTailTactics
import Derived.ProofKit
import Derived.OpenShut
import Derived.JoinedCond
import Derived.ReadAgain
import Derived.Deep.Slices
import Derived.Test.YthfdgdfnflilfaaGreatDoorRows
import Derived.Test.YthfdgdfnflilfaaGreatDoorPart4
namespace Go.Proofs.YthfdgdfnflilfaaGreatDoor
open Go.RowKit Go.Conc
theorem valid_code {N:Net} (h:validB N=true) {k:Nat} (hk:k<N.workers.length):validCodeB (codeOf N k) N.streams.length=true:=by
 simp only [validB,validWorkersB,Bool.and_eq_true] at h
 have:=List.all_eq_true.1 h.1.2.2 (codeOf N k) (by unfold codeOf;rw [getD_eq _ _ _ hk];exact List.getElem_mem hk)
 exact this
theorem valid_ins {N:Net} (h:validB N=true) {k:Nat} (hk:k<N.workers.length) {i:Ins} (hi:i∈codeOf N k):opsValid i (codeOf N k).length N.streams.length=true:=by
 have h1:=valid_code h hk
 simp only [validCodeB,Bool.and_eq_true] at h1
 exact List.all_eq_true.1 h1.2 i hi
theorem valid_ends {N:Net} (h:validB N=true) {s:Nat} (hs:s<N.streams.length):usersN N.workers 2 s+(if hasSourceB N.sources s then 1 else 0)≤1∧usersN N.workers 1 s≤1:=by
 simp only [validB,validEndsB,Bool.and_eq_true] at h
 have:=List.all_eq_true.1 h.2 s (List.mem_range.2 hs)
 simpa using this
theorem valid_counts {N:Net} (h:validB N=true):1≤N.streams.length∧N.streams.length≤8∧1≤N.workers.length∧N.workers.length≤6:=by
 simp only [validB,validStreamsB,validWorkersB,Bool.and_eq_true,decide_eq_true_eq] at h
 exact ⟨h.1.1.1.1.1,h.1.1.1.1.2,h.1.2.1.1,h.1.2.1.2⟩
theorem codeOf_out {N:Net} {k:Nat} (h:¬ k<N.workers.length):codeOf N k=[]:=by
 simp only [codeOf,List.getD];rw [List.getElem?_eq_none (by omega)];rfl
theorem two_users (l:List (List Ins)) (op s:Int):∀ (j k:Nat) (hj:j<l.length) (hk:k<l.length),j<k→usesB l[j] op s=true→usesB l[k] op s=true→2≤usersN l op s:=by
 induction l with
 | nil=>intro j k hj;simp at hj
 | cons c l ih=>
  intro j k hj hk hjk h1 h2
  cases k with
  | zero=>omega
  | succ k=>
   have hk':k<l.length:=by simpa using hk
   have h2':usesB l[k] op s=true:=by simpa using h2
   cases j with
   | zero=>
    have h1':usesB c op s=true:=by simpa using h1
    have:0<usersN l op s:=List.countP_pos_iff.2 ⟨l[k],List.getElem_mem hk',h2'⟩
    simp only [usersN,List.countP_cons,h1',if_true] at this ⊢
    omega
   | succ j=>
    have:=ih j k (by simpa using hj) hk' (by omega) (by simpa using h1) h2'
    simp only [usersN,List.countP_cons] at this ⊢
    omega
theorem user_unique {N:Net} {op:Int} {s:Nat} (hu:usersN N.workers op s≤1) {k k':Nat} (h1:usesB (codeOf N k) op s=true) (h2:usesB (codeOf N k') op s=true):k=k':=by
 have hk:k<N.workers.length:=by
  rcases Nat.lt_or_ge k N.workers.length with h | h
  ·exact h
  ·rw [codeOf_out (by omega)] at h1;cases h1
 have hk':k'<N.workers.length:=by
  rcases Nat.lt_or_ge k' N.workers.length with h | h
  ·exact h
  ·rw [codeOf_out (by omega)] at h2;cases h2
 unfold codeOf at h1 h2
 rw [getD_eq _ _ _ hk] at h1
 rw [getD_eq _ _ _ hk'] at h2
 rcases Nat.lt_trichotomy k k' with h | h | h
 ·have:=two_users N.workers op s k k' hk hk' h h1 h2;omega
 ·exact h
 ·have:=two_users N.workers op s k' k hk' hk h h2 h1;omega
theorem uses_pos {N:Net} {op:Int} {s:Nat} {k:Nat} (h1:usesB (codeOf N k) op s=true):0<usersN N.workers op s:=by
 have hk:k<N.workers.length:=by
  rcases Nat.lt_or_ge k N.workers.length with h | h
  ·exact h
  ·rw [codeOf_out (by omega)] at h1;cases h1
 unfold codeOf at h1
 rw [getD_eq _ _ _ hk] at h1
 exact List.countP_pos_iff.2 ⟨N.workers[k],List.getElem_mem hk,h1⟩
theorem stream_of_uses {N:Net} (h:validB N=true) {k:Nat} {op:Int} (ho:op=1∨op=2) {s:Nat} (h1:usesB (codeOf N k) op s=true):s<N.streams.length:=by
 have hk:k<N.workers.length:=by
  rcases Nat.lt_or_ge k N.workers.length with h | h
  ·exact h
  ·rw [codeOf_out (by omega)] at h1;cases h1
 obtain ⟨i,hi,hp⟩:=List.any_eq_true.1 h1
 simp only [Bool.and_eq_true,beq_iff_eq] at hp
 have:=valid_stream (valid_ins h hk hi) (by rw [hp.1];exact ho)
 rw [hp.2] at this
 omega
theorem uses_nat {N:Net} (h:validB N=true) {k:Nat} {op:Int} (ho:op=1∨op=2) {s:Int} (h1:usesB (codeOf N k) op s=true):∃ s':Nat,s=s':=by
 have hk:k<N.workers.length:=by
  rcases Nat.lt_or_ge k N.workers.length with h | h
  ·exact h
  ·rw [codeOf_out (by omega)] at h1;cases h1
 obtain ⟨i,hi,hp⟩:=List.any_eq_true.1 h1
 simp only [Bool.and_eq_true,beq_iff_eq] at hp
 have:=valid_stream (valid_ins h hk hi) (by rw [hp.1];exact ho)
 rw [hp.2] at this
 exact Int.eq_ofNat_of_zero_le this.1
theorem valid_ok {N:Net} (h:validB N=true):Ok N:=by
 refine ⟨fun k hk i hi=>?_,fun s k k' h1 h2=>?_,fun s k k' h1 h2=>?_,fun s k hq=>?_⟩
 ·have hv:=valid_ins h hk hi
  exact ⟨(valid_op hv).1,(valid_op hv).2,fun ho=>valid_stream hv ho⟩
 ·obtain ⟨s',rfl⟩:=uses_nat h (Or.inr rfl) h1
  have hs:=stream_of_uses h (Or.inr rfl) h1
  exact user_unique (by have:=(valid_ends h hs).1;omega) h1 h2
 ·obtain ⟨s',rfl⟩:=uses_nat h (Or.inl rfl) h1
  have hs:=stream_of_uses h (Or.inl rfl) h1
  exact user_unique (valid_ends h hs).2 h1 h2
 ·cases hu:usesB (codeOf N k) 2 s
  ·rfl
  ·have hs:=stream_of_uses h (Or.inr rfl) hu
   have h1:=(valid_ends h hs).1
   have h2:=uses_pos hu
   have hq':hasSourceB N.sources s=true:=hq
   rw [hq'] at h1
   simp at h1
   omega
structure Lay where
 p:Nat
 vS:Value
 vW:Value
 st:Nat→Nat
 VW:Nat→Value
 CH:Nat→Option Nat
 wb:Nat→Nat
 VC:Nat→Value
structure RaceAt (L:Lay) (w:World) (N:Net) (R:Rc):Prop where
 blk:w.heap[L.p]? = some (.cells #[L.vS,L.vW] 74 (0,0))
 env:Env w L.vS N.streams.length L.st L.VW L.CH (srcd N) R.s
 rowW:∃ g cap,L.vW=.slice (some ⟨g,0,none⟩) N.workers.length cap∧∃ cs:List Value,w.heap[g]? = some (.cells cs.toArray 107 (0,0))∧∀ i,i<N.workers.length→cs[i]? = some (.pointer (some ⟨L.wb i,0,none⟩))
 wk:∀ k,k<N.workers.length→WkAt w (L.wb k) (L.VC k) (codeOf N k) (R.w k)
 ch:∀ s,s<N.streams.length→srcd N s=false→((L.CH s).isSome=true↔used N s=true)
 injS:∀ s t,s<N.streams.length→t<N.streams.length→s≠t→L.st s≠L.st t∧(∀ g,(L.VW s).ownBlock=some g→(L.VW t).ownBlock≠some g)∧(∀ c,L.CH s=some c→L.CH t≠some c)
 injW:∀ j k,j<N.workers.length→k<N.workers.length→j≠k→L.wb j≠L.wb k
 lenW:R.W.length=N.workers.length
 lenS:R.S.length=N.streams.length
 ok:validB N=true
def Foot (L:Lay) (N:Net) (k:Nat):Prop:=
 k=L.p∨L.vS.ownBlock=some k∨L.vW.ownBlock=some k∨(∃ s,s<N.streams.length∧(k=L.st s∨(L.VW s).ownBlock=some k∨L.CH s=some k))∨(∃ j,j<N.workers.length∧(k=L.wb j∨(L.VC j).ownBlock=some k))
theorem RaceAt.codeOk {L:Lay} {w:World} {N:Net} {R:Rc} (h:RaceAt L w N R) {k:Nat} (hk:k<N.workers.length):CodeOk (codeOf N k) N.streams.length L.CH (srcd N):=by
 refine ⟨fun i hi=>valid_ins h.ok hk hi,fun i hi ho=>?_,fun i hi ho=>?_⟩
 ·have hv:=valid_stream (valid_ins h.ok hk hi) (Or.inl ho)
  have hs:i.b.toNat<N.streams.length:=by omega
  cases hq:srcd N i.b.toNat
  ·refine Or.inr fun hn=>?_
   have hu:used N i.b.toNat=true:=by
    have:usesB (codeOf N k) 1 (i.b.toNat:Nat)=true:=List.any_eq_true.2 ⟨i,hi,by simp [ho];omega⟩
    simp only [used,decide_eq_true_eq];exact uses_pos this
   have:=(h.ch _ hs hq).2 hu
   rw [hn] at this;cases this
  ·exact Or.inl rfl
 ·have hv:=valid_stream (valid_ins h.ok hk hi) (Or.inr ho)
  have hu:usesB (codeOf N k) 2 (i.b.toNat:Nat)=true:=List.any_eq_true.2 ⟨i,hi,by simp [ho];omega⟩
  cases hq:srcd N i.b.toNat
  ·rfl
  ·rw [(valid_ok h.ok).src _ k hq] at hu;cases hu
theorem RaceAt.state {L:Lay} {w:World} {N:Net} {R:Rc} (h:RaceAt L w N R) {k:Nat} (hk:k<N.workers.length):stateL (codeOf N k) (R.w k) L.CH (srcd N) R.s=stateOf N R k:=by
 simp only [stateL,stateOf,insAt]
 cases hi:(codeOf N k)[(R.w k).place]? with
 | none=>rfl
 | some i=>
  dsimp only
  have hm:i∈codeOf N k:=List.mem_of_getElem? hi
  by_cases ho:i.op=2
  ·have hq:=(h.codeOk hk).wr i hm ho
   have hv:=valid_stream (valid_ins h.ok hk hm) (Or.inr ho)
   have e:=h.ch i.b.toNat (by omega) hq
   by_cases hu:used N i.b.toNat=true
   ·simp only [e.2 hu,hu]
   ·have:¬ (L.CH i.b.toNat).isSome=true:=fun hc=>hu (e.1 hc)
    simp only [this,hu]
  ·simp only [ho,false_and]
theorem RaceAt.cells {L:Lay} {w:World} {N:Net} {R:Rc} (h:RaceAt L w N R):w.cell? ⟨L.p,0,none⟩=some L.vS∧w.cell? ⟨L.p,1,none⟩=some L.vW:=⟨row_cell h.blk rfl,row_cell h.blk rfl⟩
def NewSt (w:World) (src:Bool) (m:Sm) (some':Bool) (e:Ending) (w':World):Prop:=
 ∃ b vw ch,e=.returned (.pointer (some ⟨b,0,none⟩))∧StAt w' b vw ch src m∧Below w.heap.size w w'∧w.heap.size≤b∧(∀ g,vw.ownBlock=some g→w.heap.size≤g)∧(∀ c,ch=some c→w.heap.size≤c)∧ch.isSome=some'
set_option maxHeartbeats 1000000 in
theorem unread_calls (w:World) (r:Nat):Calls Tryz.prog 55 #[.int .i64 r] w fun e w'=>NewSt w false ⟨[],0,r⟩ false e w':=by
 go_enter Tryz.func55,Tryz.ntmps55
 go_wp2
 go_ret
 refine ⟨w.heap.size,.slice none 0 0,none,rfl,⟨heap_alloc_new _ _,⟨rfl,Or.inl ⟨rfl,rfl⟩⟩,Nat.le_refl _,by simp,fun c hc=>(by cases hc),fun c hc=>(by cases hc)⟩,(Below.refl _ _).alloc (Nat.le_refl _) _,Nat.le_refl _,fun g hg=>(by cases hg),fun c hc=>(by cases hc),rfl⟩
set_option maxHeartbeats 1000000 in
theorem withRoom_calls (w:World) (r:Nat) (hr:r≤1000):Calls Tryz.prog 54 #[.int .i64 r] w fun e w'=>NewSt w false ⟨[],0,r⟩ true e w':=by
 obtain ⟨i0,hi,hi8⟩:=Tryz.infoInt
 have hmk:=fun (wx:World)=>run_makeChan (P:=Tryz.prog) (w:=wx) (t:=109) Tryz.underlying109 hi .i64 r (by omega) (by rw [hi8];omega)
 go_enter Tryz.func54,Tryz.ntmps54
 go_wp2
 go_ret
 have hb1:Below w.heap.size w (w.alloc (.chan r #[] false 0 0 false)):=(Below.refl _ _).alloc (Nat.le_refl _) _
 refine ⟨w.heap.size+1,.slice none 0 0,some w.heap.size,rfl,⟨?_,⟨rfl,Or.inl ⟨rfl,rfl⟩⟩,Nat.le_refl _,by simp,fun c hc=>?_,fun c hc=>rfl⟩,hb1.alloc hb1.size _,Nat.le_succ _,fun g hg=>(by cases hg),fun c hc=>(by cases hc;exact Nat.le_refl _),rfl⟩
 ·have:=heap_alloc_new (w.alloc (.chan r #[] false 0 0 false)) (.cells #[.bool false,.slice none 0 0,.int .i64 0,.chan (some w.heap.size),.int .i64 0] 111)
  simpa using this
 ·cases hc
  refine ⟨⟨0,0,?_⟩,by simp,hr⟩
  rw [Below.heap_alloc _ _ _ (by simp)]
  exact heap_alloc_new _ _
set_option maxHeartbeats 1000000 in
theorem fromSource_calls {w:World} {v:Value} {l:List Int} (hv:IntsAt w v l) (hl:l.length≤1048576) (r:Nat):Calls Tryz.prog 56 #[v] w fun e w'=>NewSt w true ⟨l,0,r⟩ false e w':=by
 obtain ⟨i0,hi,hz0,hz1,hz2⟩:=info_parts Tryz.info3
 obtain ⟨a,cap,rfl, -, -, -⟩:=hv.openD
 have HN:Hid (0<l.length→∃ ad:Addr,a=some ad∧∀ j u,(intRow l)[j]? = some u→w.cell? (ad.add j)=some u):=fun h0=>by
  obtain ⟨ad,hg, -,hx⟩:=ints_cells hv h0
  exact ⟨ad,hg,fun j u hj=>hx w (Below.refl _ _) j u hj⟩
 have HL:Hid ((intRow l).length=l.length*1):=by rw [intRow_length];simp [Hid]
 have h1:=intRow_one l
 have h63:l.length≤maxLen:=by unfold maxLen;omega
 have hby:l.length*8≤140737488355328:=by omega
 have HF:Hid (∀ (a':Option Addr) (c':Nat) (w1:World),w1.ownsRow w.heap.size 3 1 (.slice a' l.length c') l.length (intRow l)→Below w.heap.size w w1→NewSt w true ⟨l,0,r⟩ false (.returned (.pointer (some ⟨w1.heap.size,0,none⟩))) (w1.alloc (.cells #[.bool true,.slice a' l.length c',.int .i64 0,.chan none,.int .i64 0] 111))):=fun a' c' w1 ho hb=>by
  refine ⟨w1.heap.size,.slice a' l.length c',none,rfl,⟨heap_alloc_new _ _,?_,Nat.zero_le _,by dsimp only;omega,fun c hc=>(by cases hc),fun c hc=>(by cases hc)⟩,hb.alloc hb.size _,hb.size,fun g hg=>?_,fun c hc=>(by cases hc),rfl⟩
  ·have ho0:w1.ownsRow 0 3 1 (.slice a' l.length c') l.length (intRow l):=by
    rcases ho with ⟨q1,q2 | ⟨g,cap,cur,q2,q3,q4⟩⟩
    ·exact ⟨q1,Or.inl q2⟩
    ·exact ⟨q1,Or.inr ⟨g,cap,cur,q2,Nat.zero_le _,q4⟩⟩
   exact ho0.alloc _
  ·rcases ho with ⟨q1,q2 | ⟨g',cap,cur,q2,q3,q4⟩⟩
   ·rw [q2.1] at hg;cases hg
   ·rw [q2] at hg;cases hg;exact q3
 clear hv
 generalize l.length=n at *
 generalize intRow l=ws at *
 go_enter Tryz.func56,Tryz.ntmps56
 go_wp2_with (at_builtin;refine wpList_append_fresh rfl _ (.tmp 3) 22 rfl 3 i0 (.int .i64 0) 1 8 Tryz.underlying22 hi hz0 hz1 hz2 rfl (by decide) a n cap ws rfl rfl HL.out HN.out h1 h63 hby ?_)
 intro a' c' w1 hown hb
 have HR:=hide (HF.out _ _ _ hown hb)
 clear hown hb
 go_wp2
 go_ret
 exact HR.out
theorem Tryz.infoIns:(Tryz.prog.info? 44).map (fun i=>(i.zero,i.size,i.bytes))=some (some (.agg #[.int .i64 0,.int .i64 0,.int .i64 0,.int .i64 0]),4,32):=by kernel_rfl
theorem codeRow_one (l:List Ins):∀ u∈codeRow l,u.oneCell'=true:=by
 intro u hu
 simp only [codeRow,List.mem_flatMap] at hu
 obtain ⟨x, -,hx⟩:=hu
 simp only [List.mem_cons,List.not_mem_nil,or_false] at hx
 rcases hx with rfl | rfl | rfl | rfl<;>rfl
theorem code_cells {w:World} {a:Option Addr} {l:List Ins} {n cap:Nat} (h:CodeAt w (.slice a n cap) l) (h0:0<l.length):∃ ad:Addr,a=some ad∧ad.spot=none∧∀ j u,(codeRow l)[j]? = some u→w.cell? (ad.add j)=some u:=by
 obtain ⟨a',cap',hv,hn,hcap,hc⟩:=h
 cases hv
 rcases hc with hz | ⟨b,off,ha,hc⟩
 ·omega
 ·refine ⟨⟨b,off,none⟩,ha,rfl,fun j u hj=>?_⟩
  have hjl:j<l.length*4:=by
   have:=(List.getElem?_eq_some_iff.1 hj).1
   rw [codeRow_length] at this;exact this
  have hd:j / 4<l.length:=by omega
  have e:=codeRow_get l (j / 4) hd (j%4) (by omega)
  have ej:j / 4*4+j%4=j:=by omega
  rw [ej,hj] at e
  have:=hc (j / 4) hd (j%4) (by omega)
  rw [addr_add]
  rw [Nat.add_assoc,ej] at this
  rw [this,e];dsimp only;rw [getD_eq _ _ _ hd]
def NewWk (w:World) (code:List Ins) (e:Ending) (w':World):Prop:=
 ∃ b vc,e=.returned (.pointer (some ⟨b,0,none⟩))∧WkAt w' b vc code ⟨0,fun _=>0,0⟩∧Below w.heap.size w w'∧w.heap.size≤b∧(∀ g,vc.ownBlock=some g→w.heap.size≤g)
set_option maxHeartbeats 1000000 in
theorem wnew_calls {w:World} {v:Value} {code:List Ins} (hv:CodeAt w v code) (hl:code.length≤20):Calls Tryz.prog 57 #[v] w fun e w'=>NewWk w code e w':=by
 obtain ⟨i0,hi,hz0,hz1,hz2⟩:=info_parts Tryz.infoIns
 obtain ⟨a,cap,rfl⟩:=hv.form
 have HN:Hid (0<code.length→∃ ad:Addr,a=some ad∧∀ j u,(codeRow code)[j]? = some u→w.cell? (ad.add j)=some u):=fun h0=>by
  obtain ⟨ad,hg, -,hx⟩:=code_cells hv h0
  exact ⟨ad,hg,hx⟩
 have HL:Hid ((codeRow code).length=code.length*4):=codeRow_length code
 have h1:=codeRow_one code
 have h63:code.length≤maxLen:=by unfold maxLen;omega
 have hby:code.length*32≤140737488355328:=by omega
 have HF:Hid (∀ (a':Option Addr) (c':Nat) (w1:World),w1.ownsRow w.heap.size 44 4 (.slice a' code.length c') code.length (codeRow code)→Below w.heap.size w w1→NewWk w code (.returned (.pointer (some ⟨w1.heap.size,0,none⟩))) (w1.alloc (.cells #[.slice a' code.length c',.int .i64 0,.int .i64 0,.int .i64 0,.int .i64 0,.int .i64 0,.int .i64 0] 139))):=fun a' c' w1 ho hb=>by
  refine ⟨w1.heap.size,.slice a' code.length c',rfl,⟨heap_alloc_new _ _,?_,Nat.zero_le _,hl⟩,hb.alloc hb.size _,hb.size,fun g hg=>?_⟩
  ·have ho0:w1.ownsRow 0 44 4 (.slice a' code.length c') code.length (codeRow code):=by
    rcases ho with ⟨q1,q2 | ⟨g,cap,cur,q2,q3,q4⟩⟩
    ·exact ⟨q1,Or.inl q2⟩
    ·exact ⟨q1,Or.inr ⟨g,cap,cur,q2,Nat.zero_le _,q4⟩⟩
   exact ho0.alloc _
  ·rcases ho with ⟨q1,q2 | ⟨g',cap,cur,q2,q3,q4⟩⟩
   ·rw [q2.1] at hg;cases hg
   ·rw [q2] at hg;cases hg;exact q3
 clear hv hl
 generalize code.length=n at *
 generalize codeRow code=ws at *
 go_enter Tryz.func57,Tryz.ntmps57
 go_wp2_with (at_builtin;refine wpList_append_fresh rfl _ (.tmp 3) 45 rfl 44 i0 (.agg #[.int .i64 0,.int .i64 0,.int .i64 0,.int .i64 0]) 4 32 Tryz.underlying45 hi hz0 hz1 hz2 rfl (by decide) a n cap ws rfl rfl HL.out HN.out h1 h63 hby ?_)
 intro a' c' w1 hown hb
 have HR:=hide (HF.out _ _ _ hown hb)
 clear hown hb
 go_wp2
 go_ret
 exact HR.out
def ownV (g len:Nat):Value:=.slice (some ⟨g,0,none⟩) (len+1) (len+1)
structure Lentd (w:World) (g:Nat) (u:Value) (l:List Int):Prop where
 blk:w.heap[g]? = some (.cells (intRow (l++[78])).toArray 3 (0,0))
 val:u=.slice (some ⟨g,0,none⟩) l.length (l.length+1)∨l=[]∧u=.slice none 0 0
theorem Lentd.frame {w w':World} {g:Nat} {u:Value} {l:List Int} (h:Lentd w g u l) (hk:w'.heap[g]? = w.heap[g]?):Lentd w' g u l:=⟨hk.trans h.blk,h.val⟩
theorem Lentd.ints {w:World} {g:Nat} {u:Value} {l:List Int} (h:Lentd w g u l) (hl:l.length≤1048576):IntsAt w u l:=by
 rcases h.val with hu | ⟨rfl,rfl⟩
 ·refine ⟨_,_,hu,by omega,by omega,?_⟩
  rcases Nat.eq_zero_or_pos l.length with h0 | h0
  ·exact Or.inl h0
  ·refine Or.inr ⟨g,0,rfl,fun i hi j hj=>?_⟩
   have:j=0:=by omega
   subst this
   refine row_cell h.blk ?_
   dsimp only
   rw [getD_eq _ _ _ hi]
   simp only [Nat.zero_add,Nat.mul_one,Nat.add_zero,intRow,List.map_append]
   rw [List.getElem?_append_left (by simpa using hi)]
   simp [hi]
 ·exact ⟨none,0,rfl,by simp,by simp,Or.inl rfl⟩
theorem lent_ints {l:List Int} {v:Value} {w:World} (hv:IntsAt w v l) (hl:l.length≤1048576) :
  Calls Tryz.prog 22 #[v] w fun e w'=>∃ ia ic,e=.returned (.tuple #[ownV w.heap.size l.length,.slice ia l.length ic])∧Lentd w' w.heap.size (.slice ia l.length ic) l∧Below w.heap.size w w':=by
 refine (lentInts_calls hv hl).mono fun e w' ⟨h1,h2,h3⟩=>?_
 rcases h1 with h1 | ⟨rfl,h1⟩
 ·exact ⟨_,_,h1,⟨h2,Or.inl rfl⟩,h3⟩
 ·exact ⟨none,0,h1,⟨h2,Or.inr ⟨rfl,rfl⟩⟩,h3⟩
structure SrcRow (w:World) (g:Nat) (ss:List Src) (IA:Nat→Option Addr) (IC:Nat→Nat) (i:Nat):Prop where
 ex:∃ cs:List Value,w.heap[g]? = some (.cells cs.toArray 42 (0,0))∧cs.length=(ss.length+1)*2 ∧
  (∀ t,t<i→cs[t*2]? = some (.int .i64 (ss.getD t ⟨0,[]⟩).stream)∧cs[t*2+1]? = some (.slice (IA t) (ss.getD t ⟨0,[]⟩).words.length (IC t))) ∧
  (∀ t,i≤t→t<ss.length→∃ x:Int,cs[t*2]? = some (.int .i64 x)∧cs[t*2+1]? = some (.slice none 0 0))∧cs[ss.length*2]? = some (.int .i64 79)∧cs[ss.length*2+1]? = some (.slice none 0 0)
theorem SrcRow.frame {w w':World} {g:Nat} {ss:List Src} {IA:Nat→Option Addr} {IC:Nat→Nat} {i:Nat} (h:SrcRow w g ss IA IC i) (hk:w'.heap[g]? = w.heap[g]?):SrcRow w' g ss IA IC i:=by
 obtain ⟨cs,h1,h2⟩:=h.ex
 exact ⟨cs,hk.trans h1,h2⟩
theorem SrcRow.next {w:World} {g:Nat} {ss:List Src} {IA:Nat→Option Addr} {IC:Nat→Nat} {i:Nat} (h:SrcRow w g ss IA IC i) (hi:i<ss.length) (ia:Option Addr) (ic:Nat) :
  SrcRow ((w.setCell ⟨g,i*2,none⟩ (.int .i64 (ss.getD i ⟨0,[]⟩).stream)).setCell ⟨g,i*2+1,none⟩ (.slice ia (ss.getD i ⟨0,[]⟩).words.length ic)) g ss (fun t=>if t=i then ia else IA t) (fun t=>if t=i then ic else IC t) (i+1):=by
 obtain ⟨cs,h1,h2,h3,h4,h5,h6⟩:=h.ex
 refine ⟨_,blk_set (blk_set h1 _ _) _ _,by simp [h2],fun t ht=>?_,fun t ht1 ht2=>?_,?_,?_⟩
 ·by_cases e:t=i
  ·subst e
   simp only [if_true]
   refine ⟨?_,?_⟩
   ·rw [List.getElem?_set_ne (by omega),List.getElem?_set_self (by rw [h2];omega)]
   ·rw [List.getElem?_set_self (by simp;rw [h2];omega)]
  ·simp only [e,if_false]
   rw [List.getElem?_set_ne (by omega),List.getElem?_set_ne (by omega),List.getElem?_set_ne (by omega),List.getElem?_set_ne (by omega)]
   exact h3 t (by omega)
 ·rw [List.getElem?_set_ne (by omega),List.getElem?_set_ne (by omega),List.getElem?_set_ne (by omega),List.getElem?_set_ne (by omega)]
  exact h4 t (by omega) ht2
 ·rw [List.getElem?_set_ne (by omega),List.getElem?_set_ne (by omega)];exact h5
 ·rw [List.getElem?_set_ne (by omega),List.getElem?_set_ne (by omega)];exact h6
structure WkRow (w:World) (g:Nat) (ws:List (List Ins)) (C:Nat→Nat) (i:Nat):Prop where
 ex:∃ cs:List Value,w.heap[g]? = some (.cells cs.toArray 45 (0,0))∧cs.length=ws.length+1 ∧
  (∀ t,t<i→cs[t]? = some (.slice (some ⟨C t,0,none⟩) (ws.getD t []).length ((ws.getD t []).length+1)))∧(∀ t,i≤t→t≤ws.length→cs[t]? = some (.slice none 0 0))
theorem WkRow.frame {w w':World} {g:Nat} {ws:List (List Ins)} {C:Nat→Nat} {i:Nat} (h:WkRow w g ws C i) (hk:w'.heap[g]? = w.heap[g]?):WkRow w' g ws C i:=by
 obtain ⟨cs,h1,h2⟩:=h.ex
 exact ⟨cs,hk.trans h1,h2⟩
theorem WkRow.next {w:World} {g:Nat} {ws:List (List Ins)} {C:Nat→Nat} {i:Nat} (h:WkRow w g ws C i) (hi:i<ws.length) (c:Nat) :
  WkRow (w.setCell ⟨g,i,none⟩ (.slice (some ⟨c,0,none⟩) (ws.getD i []).length ((ws.getD i []).length+1))) g ws (fun t=>if t=i then c else C t) (i+1):=by
 obtain ⟨cs,h1,h2,h3,h4⟩:=h.ex
 refine ⟨_,blk_set h1 _ _,by simp [h2],fun t ht=>?_,fun t ht1 ht2=>?_⟩
 ·by_cases e:t=i
  ·subst e
   simp only [if_true]
   rw [List.getElem?_set_self (by omega)]
  ·simp only [e,if_false]
   rw [List.getElem?_set_ne (by omega)]
   exact h3 t (by omega)
 ·rw [List.getElem?_set_ne (by omega)]
  exact h4 t (by omega) ht2
structure LoanL where
 q:Nat
 gs:Nat
 gr:Nat
 gw:Nat
 rooms:Value
 G:Nat→Nat
 IA:Nat→Option Addr
 IC:Nat→Nat
 vW:Value
 C:Nat→Nat
 vC:Value
def wordsOf (n:Net) (t:Nat):List Int:=(n.sources.getD t ⟨0,[]⟩).words
structure WordsAt (B:Nat) (w:World) (n:Net) (gs:Nat) (G:Nat→Nat) (IA:Nat→Option Addr) (IC:Nat→Nat) (vW:Value) (i:Nat):Prop where
 row:w.ownsRow B 22 1 vW i ((List.range i).map fun t=>ownV (G t) (wordsOf n t).length)
 words:∀ t,t<i→Lentd w (G t) (.slice (IA t) (wordsOf n t).length (IC t)) (wordsOf n t)
 inj:∀ s t,s<t→t<i→G s≠G t
 ne:∀ t,t<i→gs≠G t
 ge:∀ t,t<i→B≤G t
theorem WordsAt.frame {B:Nat} {w w':World} {n:Net} {gs:Nat} {G:Nat→Nat} {IA:Nat→Option Addr} {IC:Nat→Nat} {vW:Value} {i:Nat} (h:WordsAt B w n gs G IA IC vW i) (hr:∀ g,vW.ownBlock=some g→w'.heap[g]? = w.heap[g]?) (hw:∀ t,t<i→w'.heap[G t]? = w.heap[G t]?):WordsAt B w' n gs G IA IC vW i:=
 ⟨own_of_blockB h.row hr,fun t ht=>(h.words t ht).frame (hw t ht),h.inj,h.ne,h.ge⟩
theorem map_range_snoc {α : Type} (f g:Nat → α) (i:Nat) (x : α) (h:∀ t,t<i→g t=f t) (hx:g i=x):(List.range (i+1)).map g=(List.range i).map f++[x]:=by
 rw [List.range_succ,List.map_append]
 congr 1
 ·exact List.map_congr_left fun t ht=>h t (List.mem_range.1 ht)
 ·simp [hx]
structure CodesAt (B:Nat) (w:World) (ws:List (List Ins)) (C:Nat→Nat) (vC:Value) (i:Nat):Prop where
 row:w.ownsRow B 45 1 vC i ((List.range i).map fun t=>ownV (C t) (ws.getD t []).length)
 codes:∀ t,t<i→w.heap[C t]? = some (.cells (codeRow (ws.getD t []++[⟨80,0,0,0⟩])).toArray 44 (0,0))
 inj:∀ s t,s<t→t<i→C s≠C t
 ge:∀ t,t<i→B≤C t
theorem CodesAt.frame {B:Nat} {w w':World} {ws:List (List Ins)} {C:Nat→Nat} {vC:Value} {i:Nat} (h:CodesAt B w ws C vC i) (hr:∀ g,vC.ownBlock=some g→w'.heap[g]? = w.heap[g]?) (hw:∀ t,t<i→w'.heap[C t]? = w.heap[C t]?):CodesAt B w' ws C vC i:=
 ⟨own_of_blockB h.row hr,fun t ht=>(hw t ht).trans (h.codes t ht),h.inj,h.ge⟩
open Go.ChangeShapes Go.WideShapes Go.ChangeAt Go.RowKit Go.Deep
def Fits (c:Int):Prop := -9223372036854775808≤c∧c≤9223372036854775807
namespace bulks
theorem one_le {H:Type} (d:DataW H):1≤Rows.uptoBulk d:=by
 cases d with
 | lit l=>cases l<;>simp [Rows.uptoBulk]
 | nil=>simp [Rows.uptoBulk]
 | ptr d=>simp [Rows.uptoBulk]
 | slice elems spare=>simp [Rows.uptoBulk]
 | agg parts=>simp [Rows.uptoBulk]
 | iface t d=>simp [Rows.uptoBulk]
 | map entries=>simp [Rows.uptoBulk]
 | held h=>simp [Rows.uptoBulk]
theorem part_le {H:Type} {d:DataW H} {l:List (DataW H)} (h:d∈l):Rows.uptoBulk d≤Rows.uptoBulkAll l:=by
 induction l with
 | nil=>cases h
 | cons x r ih=>
  simp only [Rows.uptoBulkAll]
  cases List.mem_cons.1 h with
  | inl e=>subst e;omega
  | inr e=>have:=ih e;omega
theorem length_le {H:Type} (l:List (DataW H)):l.length≤Rows.uptoBulkAll l:=by
 induction l with
 | nil=>simp [Rows.uptoBulkAll]
 | cons x r ih=>have:=one_le x;simp only [Rows.uptoBulkAll,List.length_cons];omega
end bulks
instance:Inhabited Ins:=⟨⟨0,0,0,0⟩⟩
instance:Inhabited Src:=⟨⟨0,[]⟩⟩
section
variable {H:Type} {enc:TypeId×Value→H} {w:World}
theorem sl_of_trod {t e:TypeId} {c fuel:Nat} {cs:List Value} {d:DataW H} {ps:List MemPlace} (ht:Tryz.prog.underlying t=some (.slice e)) (hc:Tryz.prog.cellsOf e=c) (hc0:0<c)
  (h:DataW.trod enc Tryz.prog w 0 (fun _=>true) true fuel t cs=some (d,ps)) (hb:Rows.uptoBulk d≤1048576) :
  ∃ (v:Value) (len n:Nat) (CS:Nat→List Value) (D:Nat→DataW H) (Pl:Nat→List MemPlace),cs=[v]∧len≤1048576∧Sl w v len c (fun i j=>(CS i).getD j (.bool false)) ∧
   ∀ i,i<len→(CS i).length=c∧DataW.trod enc Tryz.prog w 0 (fun _=>true) true n e (CS i)=some (D i,Pl i)∧Rows.uptoBulk (D i)≤1048576:=by
 rcases open_slice ht h with ⟨rfl,h0⟩ | ⟨a,len,cap,m,n,D,Pl,rfl, -,hl,hm,hmm,hx,hi⟩
 ·exact ⟨.slice none 0 0,0,0,fun _=>[],fun _=>.nil,fun _=>[],rfl,by omega,⟨none,0,rfl,by omega,by omega,Or.inl rfl⟩,fun i hi=>by omega⟩
 ·simp only [if_true] at hmm
  subst hmm
  obtain ⟨hd, -⟩:=Prod.mk.inj hx
  have hbl:∀ i,i<len→Rows.uptoBulk (D i)≤1048576:=fun i hi=>by
   rw [hd] at hb
   simp only [Rows.uptoBulk] at hb
   have:=bulks.part_le (d:=D i) (l:=(List.range len).map D) (List.mem_map.2 ⟨i,List.mem_range.2 hi,rfl⟩)
   omega
  have hlen:len≤1048576:=by
   rw [hd] at hb
   simp only [Rows.uptoBulk] at hb
   have:=bulks.length_le ((List.range len).map D)
   simp at this
   omega
  rw [hc] at hi
  obtain ⟨CS,hCS⟩:=choose_lt (α := List Value) (p:=fun i cs'=>w.cells? 0 (a.add (i*c)) c=some cs'∧DataW.trod enc Tryz.prog w 0 (fun _=>true) true n e cs'=some (D i,Pl i)) hi
  have hcell:∀ i,i<len→(CS i).length=c∧∀ j,j<c→w.cell? ((a.add (i*c)).add j)=(CS i)[j]? := fun i hi'=>by
   obtain ⟨-,q1,q2⟩:=World.cells?_some (hCS i (by omega)).1
   exact ⟨q1,q2⟩
  refine ⟨_,len,n,CS,D,Pl,rfl,hlen,⟨some a,_,rfl,by omega,hl,?_⟩,fun i hi'=>⟨(hcell i hi').1,(hCS i (by omega)).2,hbl i hi'⟩⟩
  rcases Nat.eq_zero_or_pos len with h0 | h0
  ·exact Or.inl h0
  ·obtain ⟨b,off,spot⟩:=a
   have hspot:spot=none:=by
    have:=(hcell 0 h0).2 0 hc0
    rw [List.getElem?_eq_getElem (by rw [(hcell 0 h0).1];exact hc0)] at this
    simpa [Addr.add] using World.cell?_spot this
   subst hspot
   refine Or.inr ⟨b,off,rfl,fun i hi' j hj=>?_⟩
   have:=(hcell i hi').2 j hj
   rw [add_plain,add_plain] at this
   rw [this,List.getElem?_eq_getElem (by rw [(hcell i hi').1];exact hj)]
   simp [List.getD,(hcell i hi').1,hj]
theorem inR_of_wf {x:Int} (h:(Lit.int .i64 x).wf=true):Fits x:=bounds_i64 h
theorem range_getD {α : Type} (V:Nat → α) (len i:Nat) (d : α) (h:i<len):((List.range len).map V).getD i d=V i:=by simp [List.getD,h]
theorem ints_of_trod {fuel:Nat} {cs:List Value} {d:DataW H} {ps:List MemPlace} (h:DataW.trod enc Tryz.prog w 0 (fun _=>true) true fuel 22 cs=some (d,ps)) (hb:Rows.uptoBulk d≤1048576) :
  ∃ v l,cs=[v]∧IntsAt w v l∧l.length≤1048576∧∀ x∈l,Fits x:=by
 obtain ⟨v,len,n,CS,D,Pl,hcs,hlen,hsl,hi⟩:=sl_of_trod (e:=3) Tryz.underlying22 (by kernel_rfl) Nat.one_pos h hb
 obtain ⟨V,hV⟩:=choose_lt (α := Int) (n:=len) (p:=fun i x=>CS i=[.int .i64 x]∧Fits x) (fun i hi'=>by
  obtain ⟨q1,q2,q3⟩:=hi i hi'
  obtain ⟨x,hx, -,hw⟩:=DataW.trod_int Tryz.underlying3 q2
  exact ⟨x,hx,inR_of_wf hw⟩)
 refine ⟨v,(List.range len).map V,hcs,?_,by simpa using hlen,fun x hx=>?_⟩
 ·have hl:((List.range len).map V).length=len:=by simp
  unfold IntsAt
  rw [hl]
  refine hsl.congr fun i hi' j hj=>?_
  have hj0:j=0:=by omega
  subst hj0
  rw [(hV i hi').1,range_getD _ _ _ _ hi']
  rfl
 ·obtain ⟨i,hi',rfl⟩:=List.mem_map.1 hx
  exact (hV i (List.mem_range.1 hi')).2
set_option maxRecDepth 100000 in
theorem ins_of_trod {fuel:Nat} {cs:List Value} {x:DataW H×List MemPlace} (h:DataW.trod enc Tryz.prog w 0 (fun _=>true) true fuel 44 cs=some x):∃ i:Ins,cs=[.int .i64 i.op,.int .i64 i.a,.int .i64 i.b,.int .i64 i.c]∧Fits i.c:=by
 obtain ⟨xs,n, -, -,hl,hxs,hf⟩:=DataW.trod_struct Tryz.underlying44 h
 have c56:Tryz.prog.cellsOf 44=4:=by kernel_rfl
 have hl4:cs.length=4:=hl.trans c56
 have hx4:xs.length=4:=hxs
 have c3:Tryz.prog.cellsOf 3=1:=by kernel_rfl
 match cs,hl4,xs,hx4 with
 | [c0,c1,c2,c3'],_,[y0,y1,y2,y3],_=>
  have e0:DataW.trod enc Tryz.prog w 0 (fun _=>true) true n 3 (([c0,c1,c2,c3'].drop 0).take (Tryz.prog.cellsOf 3))=some y0:=hf 0 _ rfl
  have e1:DataW.trod enc Tryz.prog w 0 (fun _=>true) true n 3 (([c0,c1,c2,c3'].drop 1).take (Tryz.prog.cellsOf 3))=some y1:=hf 1 _ rfl
  have e2:DataW.trod enc Tryz.prog w 0 (fun _=>true) true n 3 (([c0,c1,c2,c3'].drop 2).take (Tryz.prog.cellsOf 3))=some y2:=hf 2 _ rfl
  have e3:DataW.trod enc Tryz.prog w 0 (fun _=>true) true n 3 (([c0,c1,c2,c3'].drop 3).take (Tryz.prog.cellsOf 3))=some y3:=hf 3 _ rfl
  rw [c3] at e0 e1 e2 e3
  obtain ⟨z0,g0, -⟩:=DataW.trod_int Tryz.underlying3 e0
  obtain ⟨z1,g1, -⟩:=DataW.trod_int Tryz.underlying3 e1
  obtain ⟨z2,g2, -⟩:=DataW.trod_int Tryz.underlying3 e2
  obtain ⟨z3,g3, -,hw3⟩:=DataW.trod_int Tryz.underlying3 e3
  simp at g0 g1 g2 g3
  exact ⟨⟨z0,z1,z2,z3⟩,by rw [g0,g1,g2,g3],inR_of_wf hw3⟩
theorem code_of_trod {fuel:Nat} {cs:List Value} {d:DataW H} {ps:List MemPlace} (h:DataW.trod enc Tryz.prog w 0 (fun _=>true) true fuel 45 cs=some (d,ps)) (hb:Rows.uptoBulk d≤1048576) :
  ∃ v l,cs=[v]∧CodeAt w v l∧l.length≤1048576∧∀ i∈l,Fits i.c:=by
 obtain ⟨v,len,n,CS,D,Pl,hcs,hlen,hsl,hi⟩:=sl_of_trod (c:=4) (e:=44) Tryz.underlying45 (by kernel_rfl) (by decide) h hb
 obtain ⟨V,hV⟩:=choose_lt (α := Ins) (n:=len) (p:=fun i x=>CS i=[.int .i64 x.op,.int .i64 x.a,.int .i64 x.b,.int .i64 x.c]∧Fits x.c) (fun i hi'=>ins_of_trod (hi i hi').2.1)
 refine ⟨v,(List.range len).map V,hcs,?_,by simpa using hlen,fun x hx=>by
  obtain ⟨i,hi',rfl⟩:=List.mem_map.1 hx
  exact (hV i (List.mem_range.1 hi')).2⟩
 have hl:((List.range len).map V).length=len:=by simp
 unfold CodeAt
 rw [hl]
 refine hsl.congr fun i hi' j hj=>?_
 rw [(hV i hi').1,range_getD _ _ _ _ hi']
 have:j=0∨j=1∨j=2∨j=3:=by omega
 rcases this with rfl | rfl | rfl | rfl<;>rfl
theorem workers_of_trod {fuel:Nat} {cs:List Value} {d:DataW H} {ps:List MemPlace} (h:DataW.trod enc Tryz.prog w 0 (fun _=>true) true fuel 24 cs=some (d,ps)) (hb:Rows.uptoBulk d≤1048576) :
  ∃ v l,cs=[v]∧WorkersAt w v l∧l.length≤1048576∧∀ c∈l,c.length≤1048576∧∀ i∈c,Fits i.c:=by
 obtain ⟨v,len,n,CS,D,Pl,hcs,hlen,hsl,hi⟩:=sl_of_trod (c:=1) (e:=45) Tryz.underlying24 (by kernel_rfl) (by decide) h hb
 obtain ⟨V,hV⟩:=choose_lt (α := Value×List Ins) (n:=len) (p:=fun i x=>CS i=[x.1]∧CodeAt w x.1 x.2∧x.2.length≤1048576∧∀ j∈x.2,Fits j.c) (fun i hi'=>by
  obtain ⟨q1,q2,q3⟩:=hi i hi'
  obtain ⟨v',l',e1,e2,e3⟩:=code_of_trod q2 q3
  exact ⟨(v',l'),e1,e2,e3⟩)
 refine ⟨v,(List.range len).map fun i=>(V i).2,hcs,⟨fun i=>(V i).1,?_,fun i hi'=>?_⟩,by simpa using hlen,fun c hc=>?_⟩
 ·have hl:((List.range len).map fun i=>(V i).2).length=len:=by simp
  rw [hl]
  refine hsl.congr fun i hi' j hj=>?_
  have hj0:j=0:=by omega
  subst hj0
  rw [(hV i hi').1]
  rfl
 ·have hi2:i<len:=by simpa using hi'
  simpa using (hV i hi2).2.1
 ·obtain ⟨i,hi',rfl⟩:=List.mem_map.1 hc
  exact (hV i (List.mem_range.1 hi')).2.2
set_option maxRecDepth 100000 in
theorem source_of_trod {fuel:Nat} {cs:List Value} {d:DataW H} {ps:List MemPlace} (h:DataW.trod enc Tryz.prog w 0 (fun _=>true) true fuel 42 cs=some (d,ps)) (hb:Rows.uptoBulk d≤1048576) :
  ∃ (s:Src) (v:Value),cs=[.int .i64 s.stream,v]∧IntsAt w v s.words∧s.words.length≤1048576∧∀ x∈s.words,Fits x:=by
 obtain ⟨xs,n, -,hx,hl,hxs,hf⟩:=DataW.trod_struct Tryz.underlying42 h
 have c54:Tryz.prog.cellsOf 42=2:=by kernel_rfl
 have hl2:cs.length=2:=hl.trans c54
 have hx2:xs.length=2:=hxs
 have c3:Tryz.prog.cellsOf 3=1:=by kernel_rfl
 have c22:Tryz.prog.cellsOf 22=1:=by kernel_rfl
 match cs,hl2,xs,hx2,hx with
 | [c0,c1],_,[y0,y1],_,hx=>
  have e0:DataW.trod enc Tryz.prog w 0 (fun _=>true) true n 3 (([c0,c1].drop 0).take (Tryz.prog.cellsOf 3))=some y0:=hf 0 _ rfl
  have e1:DataW.trod enc Tryz.prog w 0 (fun _=>true) true n 22 (([c0,c1].drop 1).take (Tryz.prog.cellsOf 22))=some y1:=hf 1 _ rfl
  rw [c3] at e0
  rw [c22] at e1
  obtain ⟨z0,g0, -⟩:=DataW.trod_int Tryz.underlying3 e0
  have hd:d=.agg [y0.1,y1.1]:=by have:=(Prod.mk.inj hx).1;simpa using this
  have hby:Rows.uptoBulk y1.1≤1048576:=by
   rw [hd] at hb
   simp only [Rows.uptoBulk,Rows.uptoBulkAll] at hb
   omega
  obtain ⟨v',l',q1,q2,q3,q4⟩:=ints_of_trod (d:=y1.1) (ps:=y1.2) e1 hby
  simp at g0 q1
  exact ⟨⟨z0,l'⟩,v',by rw [g0,q1],q2,q3,q4⟩
theorem sources_of_trod {fuel:Nat} {cs:List Value} {d:DataW H} {ps:List MemPlace} (h:DataW.trod enc Tryz.prog w 0 (fun _=>true) true fuel 23 cs=some (d,ps)) (hb:Rows.uptoBulk d≤1048576) :
  ∃ v l,cs=[v]∧SourcesAt w v l∧l.length≤1048576∧∀ s∈l,s.words.length≤1048576∧∀ x∈s.words,Fits x:=by
 obtain ⟨v,len,n,CS,D,Pl,hcs,hlen,hsl,hi⟩:=sl_of_trod (c:=2) (e:=42) Tryz.underlying23 (by kernel_rfl) (by decide) h hb
 obtain ⟨V,hV⟩:=choose_lt (α := Value×Src) (n:=len) (p:=fun i x=>CS i=[.int .i64 x.2.stream,x.1]∧IntsAt w x.1 x.2.words∧x.2.words.length≤1048576∧∀ y∈x.2.words,Fits y) (fun i hi'=>by
  obtain ⟨q1,q2,q3⟩:=hi i hi'
  obtain ⟨s',v',e1,e2,e3⟩:=source_of_trod q2 q3
  exact ⟨(v',s'),e1,e2,e3⟩)
 refine ⟨v,(List.range len).map fun i=>(V i).2,hcs,⟨fun i=>(V i).1,?_,fun i hi'=>?_⟩,by simpa using hlen,fun c hc=>?_⟩
 ·have hl:((List.range len).map fun i=>(V i).2).length=len:=by simp
  rw [hl]
  refine hsl.congr fun i hi' j hj=>?_
  rw [(hV i hi').1,range_getD _ _ _ _ hi']
  have:j=0∨j=1:=by omega
  rcases this with rfl | rfl<;>rfl
 ·have hi2:i<len:=by simpa using hi'
  simpa using (hV i hi2).2.1
 ·obtain ⟨i,hi',rfl⟩:=List.mem_map.1 hc
  exact (hV i (List.mem_range.1 hi')).2.2
def ShortNet (n:Net):Prop:=n.streams.length≤1048576∧n.sources.length≤1048576∧n.workers.length≤1048576∧(∀ s∈n.sources,s.words.length≤1048576∧∀ x∈s.words,Fits x)∧(∀ c∈n.workers,c.length≤1048576∧∀ i∈c,Fits i.c)
set_option maxRecDepth 100000 in
theorem net_of_trod {fuel:Nat} {v:Value} {d:DataW H} {ps:List MemPlace} (hv:∃ cs,v=.agg cs) (h:DataW.trod enc Tryz.prog w 0 (fun _=>true) true fuel 26 v.cells.toList=some (d,ps)) (hb:Rows.uptoBulk d≤1048576) :
  ∃ n,NetAt w v n∧ShortNet n:=by
 obtain ⟨cs,rfl⟩:=hv
 obtain ⟨xs,n, -,hx,hl,hxs,hf⟩:=DataW.trod_struct Tryz.underlying26 h
 have c26:Tryz.prog.cellsOf 26=3:=by kernel_rfl
 have hl3:cs.toList.length=3:=hl.trans c26
 have hx3:xs.length=3:=hxs
 have c22:Tryz.prog.cellsOf 22=1:=by kernel_rfl
 have c23:Tryz.prog.cellsOf 23=1:=by kernel_rfl
 have c24:Tryz.prog.cellsOf 24=1:=by kernel_rfl
 obtain ⟨cl⟩:=cs
 simp only [Value.cells] at hl3 hf
 match cl,hl3,xs,hx3,hx with
 | [k0,k1,k2],_,[y0,y1,y2],_,hx=>
  have e0:DataW.trod enc Tryz.prog w 0 (fun _=>true) true n 22 (([k0,k1,k2].drop 0).take (Tryz.prog.cellsOf 22))=some y0:=hf 0 _ rfl
  have e1:DataW.trod enc Tryz.prog w 0 (fun _=>true) true n 23 (([k0,k1,k2].drop 1).take (Tryz.prog.cellsOf 23))=some y1:=hf 1 _ rfl
  have e2:DataW.trod enc Tryz.prog w 0 (fun _=>true) true n 24 (([k0,k1,k2].drop 2).take (Tryz.prog.cellsOf 24))=some y2:=hf 2 _ rfl
  rw [c22] at e0
  rw [c23] at e1
  rw [c24] at e2
  have hd:d=.agg [y0.1,y1.1,y2.1]:=by have:=(Prod.mk.inj hx).1;simpa using this
  rw [hd] at hb
  simp only [Rows.uptoBulk,Rows.uptoBulkAll] at hb
  obtain ⟨v0,l0,q0,r0,s0, -⟩:=ints_of_trod (d:=y0.1) (ps:=y0.2) e0 (by omega)
  obtain ⟨v1,l1,q1,r1,s1,t1⟩:=sources_of_trod (d:=y1.1) (ps:=y1.2) e1 (by omega)
  obtain ⟨v2,l2,q2,r2,s2,t2⟩:=workers_of_trod (d:=y2.1) (ps:=y2.2) e2 (by omega)
  simp at q0 q1 q2
  subst q0 q1 q2
  exact ⟨⟨l0,l1,l2⟩,⟨_,_,_,rfl,r0,r1,r2⟩,s0,s1,s2,t1,t2⟩
end
theorem Tryz.kids:Kids Tryz.prog (· < Tryz.prog.types.size):=kids_rows (by kernel_rfl) (by kernel_rfl)
theorem Tryz.full:∀ t e,t<Tryz.prog.types.size→Tryz.prog.underlying t=some (.slice e)→0<Tryz.prog.cellsOf e:=slices_full_of Tryz.prog (by kernel_rfl)
theorem trodAll_carry {H:Type} {enc:TypeId×Value→H} {P:Program} {w w':World} {sp:Nat→Bool}:∀ {ts:List TypeId} {vs:List Value} {ds:List (DataW H)} {ps:List MemPlace},DataW.TrodAll enc P w 0 sp true ts vs ds ps→(∀ p∈ps,w.sameAt w' p)→DataW.TrodAll enc P w' 0 sp true ts vs ds ps
 | [],[],[],_,h,_=>h
 | _::_,_::_,_::_,_,⟨p,q,⟨n,h1⟩,h2,e⟩,hs=>
  ⟨p,q,⟨n,DataW.trod_carry n _ _ _ h1 fun x hx=>hs x (by rw [e];exact List.mem_append_left _ hx)⟩,trodAll_carry h2 (fun x hx=>hs x (by rw [e];exact List.mem_append_right _ hx)),e⟩
set_option maxRecDepth 100000 in
theorem post_law {H:Type} {enc:TypeId×Value→H} {f:Func} {s:ChangeSpec} {W W':World} {args:Array Value} {ds:List (DataW H)} {before:List MemPlace} {fresh handsOn again:Bool}
  (hvars:s.vars=[]) (hres:f.resultTypes=#[4]) (hT:∀ t∈f.params.toList,t<Tryz.prog.types.size)
  (hfn:(s.fn H (ds++[])).results=[.lit (.bool true)]) (hfa:(s.fn H (ds++[])).args=ds) (hfv:(s.fn H (ds++[])).vars=[])
  (hW:DataW.Whole enc Tryz.prog f.params.toList s.vars false W args.toList ds [] before) (hb:Below W.heap.size W W') :
  s.post enc Tryz.prog f false fresh handsOn again W args (.bool true) W':=by
 have hW0:=hW
 obtain ⟨p,q,hA,hV,hpq,hz, -⟩:=hW
 rw [hvars] at hV
 have hq:q=[]:=hV
 subst hq
 have hbe:before=p:=by rw [hpq];simp
 subst hbe
 have hargs:∀ sp:Nat→Bool,(∀ x∈before,sp x.block=true)→DataW.TrodAll enc Tryz.prog W' 0 sp true f.params.toList args.toList ds before:=fun sp hsp=>
  trodAll_carry (DataW.TrodAll.respare Tryz.kids Tryz.full hT hA hsp) fun x hx=>hb.same (hA.lt x hx)
 have hr:∀ (b:Nat) (sp:Nat→Bool) (hd:Bool),DataW.TrodAll enc Tryz.prog W' b sp hd f.resultTypes.toList ((Value.bool true).resultList f.resultTypes.size) [.lit (.bool true)] []:=fun b sp hd=>by
  rw [hres];exact trodAll_mk1 (shut_bool Tryz.underlying4 _)
 have hold:∀ x∈before,(fun b=>decide (b<W.heap.size)) x.block=true:=fun x hx=>by simpa using hA.lt x hx
 refine ⟨ds,[],before,[],before,[],hW0,by rw [hfn];exact hr _ _ _,by rw [hfa];exact hargs _ hold,by rw [hvars,hfv];rfl,hb.frame _,fun _=>?_⟩
 refine ⟨?_,_,[],([]++before)++[],⟨[]++before,[],trodAll_append (hargs _ (fun _ _=>rfl)) (hr _ _ _),by rw [hvars];exact (rfl:([]:List MemPlace)=[]),rfl,?_,fun h=>by cases h⟩,?_⟩
 ·exact ok_one hres rfl (okWide_bool_mk Tryz.underlying4 _)
 ·intro b off hp
  have hp':MemPlace.cell b off∈before:=by simpa using hp
  rw [hb.frozen (p:=⟨b,off,none⟩) (hA.lt _ hp')]
  exact hz b off (by rw [hpq];simpa using hp')
 ·intro x hx _
  simpa using hx
theorem Tryz.infoSrc:(Tryz.prog.info? 42).map (fun i=>(i.zero,i.size,i.bytes))=some (some (.agg #[.int .i64 0,.slice none 0 0]),2,32):=by kernel_rfl
theorem Tryz.infoLI:(Tryz.prog.info? 22).map (fun i=>(i.zero,i.size,i.bytes))=some (some (.slice none 0 0),1,24):=by kernel_rfl
theorem Tryz.infoLC:(Tryz.prog.info? 45).map (fun i=>(i.zero,i.size,i.bytes))=some (some (.slice none 0 0),1,24):=by kernel_rfl
theorem Tryz.infoLS:(Tryz.prog.info? 23).map (fun i=>(i.zero,i.size,i.bytes))=some (some (.slice none 0 0),1,24):=by kernel_rfl
theorem Tryz.infoLW:(Tryz.prog.info? 24).map (fun i=>(i.zero,i.size,i.bytes))=some (some (.slice none 0 0),1,24):=by kernel_rfl
theorem make_wide {P:Program} (t e:TypeId) (z:Value) (size bytes:Nat) (ht:P.underlying t=some (.slice e)) (hinfo:(P.info? e).map (fun i=>(i.zero,i.size,i.bytes))=some (some z,size,bytes)) (n:Nat) (hb:bytes*(n+1)≤281474976710656) (h63:n+1≤9223372036854775807) (w:World) :
  (Instr.makeSlice t (.int .i64 ((n:Int)+1)) (.int .i64 ((n:Int)+1))).run P w=.ok (.slice (some ⟨w.heap.size,0,none⟩) (n+1) (n+1)) (w.alloc (.cells (madeCells z.cells ((n+1)*size)) e)):=by
 obtain ⟨i,hi,hz0,hz1,hz2⟩:=info_parts hinfo
 have hb':(i.bytes:Int)*((n:Int)+1)≤281474976710656:=by
  have h:((i.bytes*(n+1):Nat):Int)≤281474976710656:=by rw [hz2];omega
  rwa [Int.natCast_mul,Int.natCast_add] at h
 have hr:=run_make (P:=P) w t e i z ht hi hz0 .i64 .i64 ((n:Int)+1) ((n:Int)+1) (by omega) (Int.le_refl _) hb' (by omega)
 have ec:((n:Int)+1).toNat=n+1:=by omega
 rw [ec,hz1] at hr
 exact hr
structure Loan1 (B:Nat) (w0:World) (n:Net) (bx:Obj) (gs gr:Nat) (rooms:Value) (G:Nat→Nat) (IA:Nat→Option Addr) (IC:Nat→Nat) (vW:Value) (i:Nat) (wr:World):Prop where
 box:wr.heap[B]? = some bx
 blk:wr.heap[B+1]? = some (.cells #[rooms,.slice none 0 0,.slice none 0 0,ownV gs n.streams.length,vW,ownV gr n.sources.length,.slice none 0 0,.slice none 0 0] 61 (0,0))
 str:Lentd wr gs rooms n.streams
 words:WordsAt (B+2) wr n gs G IA IC vW i
 src:SrcRow wr gr n.sources IA IC i
 ges:B+2≤gs
 ger:B+2≤gr
 below:Below B w0 wr
theorem SrcRow.blk {w:World} {g:Nat} {ss:List Src} {IA:Nat→Option Addr} {IC:Nat→Nat} {i:Nat} (h:SrcRow w g ss IA IC i):∃ cs:Array Value,w.heap[g]? = some (.cells cs 42 (0,0)):=by
 obtain ⟨cs,h1, -⟩:=h.ex
 exact ⟨_,h1⟩
theorem WkRow.blk {w:World} {g:Nat} {ws:List (List Ins)} {C:Nat→Nat} {i:Nat} (h:WkRow w g ws C i):∃ cs:Array Value,w.heap[g]? = some (.cells cs 45 (0,0)):=by
 obtain ⟨cs,h1, -⟩:=h.ex
 exact ⟨_,h1⟩
theorem kept_append {wr w1 w2:World} {o:Obj} {v:Value} {k:Nat} (hb1:Below wr.heap.size wr w1) (hg:(w1.alloc o).grownBy w2 v.ownBlock) (hk:k<wr.heap.size) (hne:v.ownBlock≠some k):w2.heap[k]? = wr.heap[k]? := by
 have:=hb1.size
 rw [hg.block k (by simp;omega) (fun e=>hne e.symm),Below.heap_alloc _ _ _ (by omega),hb1.block k hk]
theorem own_ne_type {w:World} {B n:Nat} {e t:TypeId} {size:Nat} {v:Value} {xs:List Value} {k:Nat} {cs:Array Value} {f:Nat×Nat} (h:w.ownsRow B e size v n xs) (hk:w.heap[k]? = some (.cells cs t f)) (ht:e≠t):v.ownBlock≠some k:=fun e'=>by
 obtain ⟨cur,hc⟩:=own_blockB h e'
 exact absurd rfl (ne_of_types hc hk ht)
theorem Loan1.next {B:Nat} {w0:World} {n:Net} {bx:Obj} {gs gr:Nat} {rooms:Value} {G:Nat→Nat} {IA:Nat→Option Addr} {IC:Nat→Nat} {vW:Value} {i:Nat} {wr w1 w2:World} (h:Loan1 B w0 n bx gs gr rooms G IA IC vW i wr) (hi:i<n.sources.length)
  {ia:Option Addr} {ic g cap:Nat} {o:Obj} (hb1:Below wr.heap.size wr w1) (hl:Lentd w1 wr.heap.size (.slice ia (wordsOf n i).length ic) (wordsOf n i))
  (ho:w2.ownsRow (B+2) 22 1 (.slice (some ⟨g,0,none⟩) (i+1) cap) (i+1) ((List.range i).map (fun t=>ownV (G t) (wordsOf n t).length)++[ownV wr.heap.size (wordsOf n i).length])) (hg:(w1.alloc o).grownBy w2 vW.ownBlock) :
  w2.heap[B]? = some bx∧w2.heap[B+1]? = wr.heap[B+1]? ∧ w2.heap[gr]? = wr.heap[gr]? ∧ Below B w0 w2∧gr≠B+1 ∧
  Loan1 B w0 n bx gs gr rooms (fun t=>if t=i then wr.heap.size else G t) (fun t=>if t=i then ia else IA t) (fun t=>if t=i then ic else IC t) (.slice (some ⟨g,0,none⟩) (i+1) cap) (i+1)
   (((w2.setCell ⟨B+1,4,none⟩ (.slice (some ⟨g,0,none⟩) (i+1) cap)).setCell ⟨gr,i*2,none⟩ (.int .i64 (n.sources.getD i ⟨0,[]⟩).stream)).setCell ⟨gr,i*2+1,none⟩ (.slice ia (wordsOf n i).length ic)):=by
 have hsz1:=hb1.size
 have hB1:=lt_of_blk h.blk
 obtain ⟨csr,hcr⟩:=h.src.blk
 have keep:∀ k,k<wr.heap.size→vW.ownBlock≠some k→w2.heap[k]? = wr.heap[k]? := fun k hk hne=>kept_append hb1 hg hk hne
 have low:∀ k,k<B+2→k<wr.heap.size→w2.heap[k]? = wr.heap[k]? := fun k hk hk'=>keep k hk' fun e=>by have:=own_baseB h.words.row e;omega
 have hgr2:w2.heap[gr]? = wr.heap[gr]? := keep gr (lt_of_blk hcr) (own_ne_type h.words.row hcr (by decide))
 have hne1:gr≠B+1:=by have:=h.ger;omega
 have hng:=lt_of_blk hl.blk
 have hnew:w2.heap[wr.heap.size]? = w1.heap[wr.heap.size]? := by
  rw [hg.block _ (by simp;omega) (fun e=>?_),Below.heap_alloc _ _ _ hng]
  have:=(h.words.row.lt _ e.symm).2
  omega
 have hb2:Below B w0 w2:=h.below.trans ⟨hg.os.trans hb1.os,hg.tape.trans hb1.tape,hg.output.trans hb1.output,Nat.le_trans hsz1 (Nat.le_trans (by simp) hg.size),fun k hk=>low k (by omega) (by omega)⟩
 have hgg:B+2≤g:=own_baseB ho rfl
 have hset:∀ k,k≠B+1→k≠gr→∀ v1 v2 v3,(((w2.setCell ⟨B+1,4,none⟩ v1).setCell ⟨gr,i*2,none⟩ v2).setCell ⟨gr,i*2+1,none⟩ v3).heap[k]? = w2.heap[k]? := fun k h1 h2 v1 v2 v3=>by
  rw [heap_setCell_other _ _ _ _ h2,heap_setCell_other _ _ _ _ h2,heap_setCell_other _ _ _ _ h1]
 have hgrt:∀ k cs t,wr.heap[k]? = some (.cells cs t (0,0))→t≠42→k≠gr:=fun k cs t hk ht=>ne_of_types hk hcr ht
 refine ⟨(low B (by omega) (by omega)).trans h.box,low (B+1) (by omega) hB1,hgr2,hb2,hne1,⟨?_,?_,?_,⟨?_,fun t ht=>?_,fun s t hst ht=>?_,fun t ht=>?_,fun t ht=>?_⟩,?_,h.ges,h.ger,?_⟩⟩
 ·rw [hset _ (by omega) (by have:=h.ger;omega),low B (by omega) (by omega)];exact h.box
 ·rw [heap_setCell_other _ _ _ _ (fun e=>hne1 e.symm),heap_setCell_other _ _ _ _ (fun e=>hne1 e.symm)]
  exact blk_set (l:=[_,_,_,_,_,_,_,_]) ((low (B+1) (by omega) hB1).trans h.blk) 4 _
 ·have hlt:=lt_of_blk h.str.blk
  refine h.str.frame ?_
  rw [hset _ (by have:=h.ges;omega) (hgrt _ _ _ h.str.blk (by decide)),keep gs hlt (own_ne_type h.words.row h.str.blk (by decide))]
 ·have e:=map_range_snoc (fun t=>ownV (G t) (wordsOf n t).length) (fun t=>ownV (if t=i then wr.heap.size else G t) (wordsOf n t).length) i (ownV wr.heap.size (wordsOf n i).length) (fun t ht=>by rw [if_neg (by omega)]) (by rw [if_pos rfl])
  rw [e]
  refine own_of_blockB ho fun k hk=>hset k ?_ ?_ _ _ _
  ·have:=own_baseB ho hk;omega
  ·obtain ⟨cur,hc⟩:=own_blockB ho hk
   exact ne_of_types hc (hgr2.trans hcr) (by decide)
 ·by_cases e:t=i
  ·subst e
   simp only [if_true]
   refine hl.frame ?_
   rw [hset _ (by omega) (fun e=>by have:=lt_of_blk hcr;omega),hnew]
  ·simp only [e,if_false]
   have hw:=h.words.words t (by omega)
   have hlt:=lt_of_blk hw.blk
   refine hw.frame ?_
   rw [hset _ (by have:=h.words.ge t (by omega);omega) (hgrt _ _ _ hw.blk (by decide)),keep _ hlt (own_ne_type h.words.row hw.blk (by decide))]
 ·by_cases e:t=i
  ·subst e
   have hs:s≠t:=by omega
   simp only [hs,if_false,if_true]
   have:=lt_of_blk (h.words.words s (by omega)).blk
   omega
  ·have hs:s≠i:=by omega
   simp only [e,hs,if_false]
   exact h.words.inj s t hst (by omega)
 ·by_cases e:t=i
  ·simp only [e,if_true]
   have:=lt_of_blk h.str.blk
   omega
  ·simp only [e,if_false];exact h.words.ne t (by omega)
 ·by_cases e:t=i
  ·simp only [e,if_true];omega
  ·simp only [e,if_false];exact h.words.ge t (by omega)
 ·refine SrcRow.next (h.src.frame ?_) hi ia ic
  rw [heap_setCell_other _ _ _ _ hne1,hgr2]
 ·exact ((hb2.setCell (p:=⟨B+1,4,none⟩) (by show B≤B+1;omega) _).setCell (p:=⟨gr,i*2,none⟩) (by have:=h.ger;show B≤gr;omega) _).setCell (p:=⟨gr,i*2+1,none⟩) (by have:=h.ger;show B≤gr;omega) _
structure Loan2 (B:Nat) (w0:World) (n:Net) (bx:Obj) (L:LoanL) (C:Nat→Nat) (vC:Value) (j:Nat) (wr:World):Prop where
 box:wr.heap[B]? = some bx
 blk:wr.heap[B+1]? = some (.cells #[L.rooms,.slice none 0 0,.slice none 0 0,ownV L.gs n.streams.length,L.vW,ownV L.gr n.sources.length,vC,ownV L.gw n.workers.length] 61 (0,0))
 str:Lentd wr L.gs L.rooms n.streams
 words:WordsAt (B+2) wr n L.gs L.G L.IA L.IC L.vW n.sources.length
 src:SrcRow wr L.gr n.sources L.IA L.IC n.sources.length
 codes:CodesAt (B+2) wr n.workers C vC j
 wks:WkRow wr L.gw n.workers C j
 ne:vC.ownBlock≠some L.gw
 ges:B+2≤L.gs
 ger:B+2≤L.gr
 gew:B+2≤L.gw
 below:Below B w0 wr
theorem Loan2.next {B:Nat} {w0:World} {n:Net} {bx:Obj} {L:LoanL} {C:Nat→Nat} {vC:Value} {j:Nat} {wr w1 w2:World} (h:Loan2 B w0 n bx L C vC j wr) (hj:j<n.workers.length)
  {g cap H:Nat} {o:Obj} (hb1:Below wr.heap.size wr w1) (hl:w1.heap[wr.heap.size]? = some (.cells (codeRow (n.workers.getD j []++[⟨80,0,0,0⟩])).toArray 44 (0,0)))
  (ho:w2.ownsRow (B+2) 45 1 (.slice (some ⟨g,0,none⟩) (j+1) cap) (j+1) ((List.range j).map (fun t=>ownV (C t) (n.workers.getD t []).length)++[ownV wr.heap.size (n.workers.getD j []).length])) (hg:(w1.alloc o).grownBy w2 vC.ownBlock) (hor:vC.ownBlock=some g∨g=H) (hH:wr.heap.size≤H) :
  w2.heap[B]? = some bx∧w2.heap[B+1]? = wr.heap[B+1]? ∧ w2.heap[L.gw]? = wr.heap[L.gw]? ∧ Below B w0 w2∧L.gw≠B+1 ∧
  Loan2 B w0 n bx L (fun t=>if t=j then wr.heap.size else C t) (.slice (some ⟨g,0,none⟩) (j+1) cap) (j+1)
   ((w2.setCell ⟨B+1,6,none⟩ (.slice (some ⟨g,0,none⟩) (j+1) cap)).setCell ⟨L.gw,j,none⟩ (.slice (some ⟨wr.heap.size,0,none⟩) (n.workers.getD j []).length ((n.workers.getD j []).length+1))):=by
 have hsz1:=hb1.size
 have hB1:=lt_of_blk h.blk
 obtain ⟨csr,hcr⟩:=h.src.blk
 obtain ⟨csw,hcw⟩:=h.wks.blk
 have hgwl:=lt_of_blk hcw
 have keep:∀ k,k<wr.heap.size→vC.ownBlock≠some k→w2.heap[k]? = wr.heap[k]? := fun k hk hne=>kept_append hb1 hg hk hne
 have low:∀ k,k<B+2→k<wr.heap.size→w2.heap[k]? = wr.heap[k]? := fun k hk hk'=>keep k hk' fun e=>by have:=own_baseB h.codes.row e;omega
 have hgw2:w2.heap[L.gw]? = wr.heap[L.gw]? := keep L.gw hgwl h.ne
 have hne1:L.gw≠B+1:=by have:=h.gew;omega
 have hng:=lt_of_blk hl
 have hnew:w2.heap[wr.heap.size]? = w1.heap[wr.heap.size]? := by
  rw [hg.block _ (by simp;omega) (fun e=>?_),Below.heap_alloc _ _ _ hng]
  have:=(h.codes.row.lt _ e.symm).2
  omega
 have hb2:Below B w0 w2:=h.below.trans ⟨hg.os.trans hb1.os,hg.tape.trans hb1.tape,hg.output.trans hb1.output,Nat.le_trans hsz1 (Nat.le_trans (by simp) hg.size),fun k hk=>low k (by omega) (by omega)⟩
 have hgg:B+2≤g:=own_baseB ho rfl
 have hggw:g≠L.gw:=fun e=>by
  rcases hor with h1 | h1
  ·exact h.ne (by rw [h1,e])
  ·omega
 have hset:∀ k,k≠B+1→k≠L.gw→∀ v1 v2,((w2.setCell ⟨B+1,6,none⟩ v1).setCell ⟨L.gw,j,none⟩ v2).heap[k]? = w2.heap[k]? := fun k h1 h2 v1 v2=>by
  rw [heap_setCell_other _ _ _ _ h2,heap_setCell_other _ _ _ _ h1]
 have hgt:∀ k cs t,wr.heap[k]? = some (.cells cs t (0,0))→t≠45→k≠L.gw:=fun k cs t hk ht=>ne_of_types hk hcw ht
 have old:∀ k cs t,wr.heap[k]? = some (.cells cs t (0,0))→t≠45→B+2≤k→∀ v1 v2,((w2.setCell ⟨B+1,6,none⟩ v1).setCell ⟨L.gw,j,none⟩ v2).heap[k]? = wr.heap[k]? := fun k cs t hk ht hge v1 v2=>by
  rw [hset k (by omega) (hgt k cs t hk ht),keep k (lt_of_blk hk) (own_ne_type h.codes.row hk (fun e=>ht e.symm))]
 refine ⟨(low B (by omega) (by omega)).trans h.box,low (B+1) (by omega) hB1,hgw2,hb2,hne1,⟨?_,?_,?_,?_,?_,⟨?_,fun t ht=>?_,fun s t hst ht=>?_,fun t ht=>?_⟩,?_,?_,h.ges,h.ger,h.gew,?_⟩⟩
 ·rw [hset _ (by omega) (by have:=h.gew;omega),low B (by omega) (by omega)];exact h.box
 ·rw [heap_setCell_other _ _ _ _ (fun e=>hne1 e.symm)]
  exact blk_set (l:=[_,_,_,_,_,_,_,_]) ((low (B+1) (by omega) hB1).trans h.blk) 6 _
 ·exact h.str.frame (old _ _ _ h.str.blk (by decide) h.ges _ _)
 ·refine h.words.frame (fun k hk=>?_) (fun t ht=>old _ _ _ (h.words.words t ht).blk (by decide) (h.words.ge t ht) _ _)
  obtain ⟨cur,hc⟩:=own_blockB h.words.row hk
  exact old _ _ _ hc (by decide) (own_baseB h.words.row hk) _ _
 ·exact h.src.frame (old _ _ _ hcr (by decide) h.ger _ _)
 ·have e:=map_range_snoc (fun t=>ownV (C t) (n.workers.getD t []).length) (fun t=>ownV (if t=j then wr.heap.size else C t) (n.workers.getD t []).length) j (ownV wr.heap.size (n.workers.getD j []).length) (fun t ht=>by rw [if_neg (by omega)]) (by rw [if_pos rfl])
  rw [e]
  refine own_of_blockB ho fun k hk=>?_
  have:k=g:=by simpa [Value.ownBlock] using hk.symm
  subst this
  exact hset _ (by omega) hggw _ _
 ·by_cases e:t=j
  ·subst e
   simp only [if_true]
   rw [hset _ (by omega) (fun e=>by omega),hnew]
   exact hl
  ·simp only [e,if_false]
   rw [old _ _ _ (h.codes.codes t (by omega)) (by decide) (h.codes.ge t (by omega))]
   exact h.codes.codes t (by omega)
 ·by_cases e:t=j
  ·subst e
   have hs:s≠t:=by omega
   simp only [hs,if_false,if_true]
   have:=lt_of_blk (h.codes.codes s (by omega))
   omega
  ·have hs:s≠j:=by omega
   simp only [e,hs,if_false]
   exact h.codes.inj s t hst (by omega)
 ·by_cases e:t=j
  ·simp only [e,if_true];omega
  ·simp only [e,if_false];exact h.codes.ge t (by omega)
 ·refine WkRow.next (h.wks.frame ?_) hj _
  rw [heap_setCell_other _ _ _ _ hne1,hgw2]
 ·intro e
  exact hggw (by simpa [Value.ownBlock] using e)
 ·exact (hb2.setCell (p:=⟨B+1,6,none⟩) (by show B≤B+1;omega) _).setCell (p:=⟨L.gw,j,none⟩) (by have:=h.gew;show B≤L.gw;omega) _
structure LoanAt (B:Nat) (L:LoanL) (w:World) (n:Net):Prop where
 blk:w.heap[L.q]? = some (.cells #[L.rooms,.slice (some ⟨L.gr,0,none⟩) n.sources.length (n.sources.length+1),.slice (some ⟨L.gw,0,none⟩) n.workers.length (n.workers.length+1),ownV L.gs n.streams.length,L.vW,ownV L.gr n.sources.length,L.vC,ownV L.gw n.workers.length] 61 (0,0))
 str:Lentd w L.gs L.rooms n.streams
 words:WordsAt B w n L.gs L.G L.IA L.IC L.vW n.sources.length
 src:SrcRow w L.gr n.sources L.IA L.IC n.sources.length
 codes:CodesAt B w n.workers L.C L.vC n.workers.length
 wks:WkRow w L.gw n.workers L.C n.workers.length
 ne:L.vC.ownBlock≠some L.gw
 ge:B≤L.q∧B≤L.gs∧B≤L.gr∧B≤L.gw
theorem own_lower {w:World} {B B' n:Nat} {e:TypeId} {size:Nat} {v:Value} {xs:List Value} (h:w.ownsRow B e size v n xs) (hB:B'≤B):w.ownsRow B' e size v n xs:=by
 obtain ⟨h1,h2⟩:=h
 refine ⟨h1,h2.imp id fun ⟨g,cap,cur,hv,hb,r⟩=>⟨g,cap,cur,hv,Nat.le_trans hB hb,r⟩⟩
theorem LoanAt.net {B:Nat} {L:LoanL} {w:World} {n:Net} (h:LoanAt B L w n) (hs:ShortNet n):NetAt w (.agg #[L.rooms,.slice (some ⟨L.gr,0,none⟩) n.sources.length (n.sources.length+1),.slice (some ⟨L.gw,0,none⟩) n.workers.length (n.workers.length+1)]) n:=by
 obtain ⟨s1,s2,s3,s4,s5⟩:=hs
 obtain ⟨cs,c1,c2,c3, -, -, -⟩:=h.src.ex
 obtain ⟨ds,d1,d2,d3, -⟩:=h.wks.ex
 refine ⟨_,_,_,rfl,h.str.ints s1,⟨fun i=>.slice (L.IA i) (wordsOf n i).length (L.IC i),⟨_,_,rfl,by omega,by omega,Or.inr ⟨L.gr,0,rfl,fun i hi j hj=>?_⟩⟩,fun i hi=>?_⟩,⟨fun i=>.slice (some ⟨L.C i,0,none⟩) (n.workers.getD i []).length ((n.workers.getD i []).length+1),⟨_,_,rfl,by omega,by omega,Or.inr ⟨L.gw,0,rfl,fun i hi j hj=>?_⟩⟩,fun i hi=>?_⟩⟩
 ·rw [Nat.zero_add]
  obtain ⟨q1,q2⟩:=c3 i hi
  have hc:j=0∨j=1:=by omega
  rcases hc with rfl | rfl
  ·exact row_cell c1 q1
  ·exact row_cell c1 q2
 ·have e:n.sources[i].words=wordsOf n i:=by unfold wordsOf;rw [getD_eq _ _ _ hi]
  rw [e]
  refine (h.words.words i hi).ints ?_
  rw [← e]
  exact (s4 _ (List.getElem_mem hi)).1
 ·rw [Nat.zero_add]
  have hc:j=0:=by omega
  subst hc
  have:=row_cell d1 (d3 i hi)
  simpa using this
 ·have e:n.workers[i]=n.workers.getD i []:=by rw [getD_eq _ _ _ hi]
  have hl:(n.workers.getD i []).length≤1048576:=by rw [← e];exact (s5 _ (List.getElem_mem hi)).1
  rw [e]
  refine ⟨_,_,rfl,by omega,by omega,Or.inr ⟨L.C i,0,rfl,fun t ht j hj=>?_⟩⟩
  rw [Nat.zero_add]
  refine row_cell (h.codes.codes i hi) ?_
  have hc:=codeRow_get (n.workers.getD i []++[⟨80,0,0,0⟩]) t (by rw [List.length_append];omega) j hj
  rw [hc]
  dsimp only
  rw [getD_eq _ _ _ ht,List.getElem_append_left ht]
end Go.Proofs.YthfdgdfnflilfaaGreatDoor

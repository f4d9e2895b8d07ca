/- Part 22: First1, Side6, Side7, Play1. -/
import Derived.Test.YthfdgdfnflilfaaGreatDoorPart21
namespace Go.Proofs.YthfdgdfnflilfaaGreatDoor
open Go.RowKit Go.Conc
def firstCode:List Ins:=[⟨1,0,0,3⟩,⟨4,0,0,0⟩,⟨2,0,1,0⟩]
def firstNet:Net:=⟨[2,1],[⟨0,[5,6]⟩],[firstCode]⟩
theorem bk_new {base:Nat} {col:Nat→Nat} {w:World} {p:Nat} (hp:w.heap[p]? = some (.cells #[.slice none 0 0,.slice none 0 0,.slice none 0 0,.slice none 0 0,.slice none 0 0,.slice none 0 0,.slice none 0 0,.slice none 0 0] 35 (0,0))) (hc:col p=0) (hge:base≤p) (hlow:∀ b,b<base→90≤col b):Bk base col w p (.slice none 0 0) 0:=by
 have hall:∀ r,r≤7→w.cell? ⟨p,r,none⟩=some (.slice none 0 0):=fun r h=>by
  refine (blk_cell (l:=List.replicate 8 (.slice none 0 0)) hp r _ ?_).1
  rw [List.getElem?_replicate,if_pos (by omega)]
 refine ⟨⟨List.replicate 8 (.slice none 0 0),hp,by simp⟩,hc,hge,hall 0 (by omega),fun r h1 h7=>⟨.slice none 0 0,[],hall r h7,⟨rfl,Or.inl ⟨rfl,rfl⟩⟩,fun g hg=>?_,by simp,by simp,fun i hi=>?_,fun u hu=>?_⟩,hlow⟩
 ·cases hg
 ·cases hi
 ·cases hu
theorem first_net {w:World} {n1 n2 n3 n4 n5:Nat} (h1:w.heap[n1]? = some (.cells #[.int .i64 2,.int .i64 1] 3 (0,0))) (h2:w.heap[n2]? = some (.cells #[.int .i64 5,.int .i64 6] 3 (0,0))) (h3:w.heap[n3]? = some (.cells #[.int .i64 0,.slice (some ⟨n2,0,none⟩) 2 2] 42 (0,0)))
  (h4:w.heap[n4]? = some (.cells (codeRow firstCode).toArray 44 (0,0))) (h5:w.heap[n5]? = some (.cells #[.slice (some ⟨n4,0,none⟩) 3 3] 45 (0,0))) :
  NetAt w (.agg #[.slice (some ⟨n1,0,none⟩) 2 2,.slice (some ⟨n3,0,none⟩) 1 1,.slice (some ⟨n5,0,none⟩) 1 1]) firstNet:=by
 refine ⟨_,_,_,rfl,⟨_,_,rfl,show (2:Nat)≤_ by decide,show (2:Nat)≤2 by decide,Or.inr ⟨n1,0,rfl,fun i hi j hj=>?_⟩⟩,⟨fun _=>.slice (some ⟨n2,0,none⟩) 2 2,⟨_,_,rfl,show (1:Nat)≤_ by decide,show (1:Nat)≤1 by decide,Or.inr ⟨n3,0,rfl,fun i hi j hj=>?_⟩⟩,fun i hi=>?_⟩,
  ⟨fun _=>.slice (some ⟨n4,0,none⟩) 3 3,⟨_,_,rfl,show (1:Nat)≤_ by decide,show (1:Nat)≤1 by decide,Or.inr ⟨n5,0,rfl,fun i hi j hj=>?_⟩⟩,fun i hi=>?_⟩⟩
 ·have hi':i<2:=hi
  have hc:(i=0∨i=1)∧j=0:=by omega
  obtain ⟨rfl | rfl,rfl⟩:=hc<;>exact row_cell (l:=[_,_]) h1 rfl
 ·have hi':i<1:=hi
  have hc:i=0∧(j=0∨j=1):=by omega
  obtain ⟨rfl,rfl | rfl⟩:=hc<;>exact row_cell (l:=[_,_]) h3 rfl
 ·have hi':i<1:=hi
  have hc:i=0:=by omega
  subst hc
  refine ⟨_,_,rfl,show (2:Nat)≤_ by decide,show (2:Nat)≤2 by decide,Or.inr ⟨n2,0,rfl,fun i hi j hj=>?_⟩⟩
  have hi':i<2:=hi
  have hc:(i=0∨i=1)∧j=0:=by omega
  obtain ⟨rfl | rfl,rfl⟩:=hc<;>exact row_cell (l:=[_,_]) h2 rfl
 ·have hi':i<1:=hi
  have hc:i=0∧j=0:=by omega
  obtain ⟨rfl,rfl⟩:=hc
  exact row_cell (l:=[_]) h5 rfl
 ·have hi':i<1:=hi
  have hc:i=0:=by omega
  subst hc
  refine ⟨_,_,rfl,show (3:Nat)≤_ by decide,show (3:Nat)≤3 by decide,Or.inr ⟨n4,0,rfl,fun i hi j hj=>?_⟩⟩
  have:=codeRow_get firstCode i hi j hj
  show w.cell? _=some ((firstCode.getD i _).cell j)
  rw [getD_eq firstCode i _ hi,Nat.zero_add]
  exact row_cell h4 this
theorem first_valid:validB firstNet=true:=by decide +kernel
theorem first_short:ShortNet firstNet:=by
 simp [ShortNet,firstNet,firstCode,Fits]
theorem has_run {A:Nat→Prop} {p:Nat} {N:Net} {R:Rc} {w:World} (h:Has A p N R w) {l:List Int} {v:Value} (hv:IntsAt w v l) (hsep:∀ b,v.ownBlock=some b→A b) (hro:RoomR N R) (hw:∀ s,s<N.streams.length→(R.s s).words.length+l.length<4398046511104) :
  Calls Tryz.prog 10 #[.pointer (some ⟨p,0,none⟩),v] w fun e w'=>
   e=.returned (.tuple #[.int .i64 (runM N l 0 R).1,.int .i64 (runM N l 0 R).2.1])∧Has A p N (runM N l 0 R).2.2 w'∧Keeps A w w':=by
 obtain ⟨L,rfl,h2,h3⟩:=h.ex
 exact (rrun_calls h2 hv (fun b hb hf=>h3 b hf (hsep b hb)) hro hw).mono fun e w' ⟨h4,h5⟩=>⟨h4,Has.went h3 h.lt h5⟩
def firstMem (w:World):World:=(((((w.alloc (.cells #[.slice none 0 0,.slice none 0 0,.slice none 0 0,.slice none 0 0,.slice none 0 0,.slice none 0 0,.slice none 0 0,.slice none 0 0] 35)).alloc (.cells #[.int .i64 2,.int .i64 1] 3)).alloc (.cells #[.int .i64 5,.int .i64 6] 3)).alloc
 (.cells #[.int .i64 0,.slice (some ⟨w.heap.size+1+1,0,none⟩) 2 2] 42)).alloc (.cells #[.int .i64 1,.int .i64 0,.int .i64 0,.int .i64 3,.int .i64 4,.int .i64 0,.int .i64 0,.int .i64 0,.int .i64 2,.int .i64 0,.int .i64 1,.int .i64 0] 44)).alloc (.cells #[.slice (some ⟨w.heap.size+1+1+1+1,0,none⟩) 3 3] 45)
theorem firstMem_size (w:World):(firstMem w).heap.size=w.heap.size+6:=by simp [firstMem]
theorem firstMem_below (w:World):Below w.heap.size w (firstMem w):=by
 unfold firstMem
 exact ((((((Below.refl _ w).alloc (Nat.le_refl _) _).alloc (by simp) _).alloc (by simp;omega) _).alloc (by simp;omega) _).alloc (by simp;omega) _).alloc (by simp;omega) _
structure FirstAt (w w':World) (g cap sd x:Nat) (A:Nat→Prop):Prop where
 c0:w'.cell? ⟨w.heap.size,0,none⟩=some (.slice (some ⟨g,0,none⟩) 1 cap)
 c1:w'.cell? ⟨g,0,none⟩=some (.pointer (some ⟨sd,0,none⟩))
 c2:w'.cell? ⟨sd,0,none⟩=some (.pointer (some ⟨x,0,none⟩))
 has:Has A x firstNet (initR firstNet firstNet.streams) w'
 low:∀ b,b<w.heap.size→A b
 below:Below w.heap.size w w'
theorem first_opens (w:World) :
  Calls Tryz.prog 8 #[.pointer (some ⟨w.heap.size,0,none⟩),.agg #[.slice (some ⟨w.heap.size+1,0,none⟩) 2 2,.slice (some ⟨w.heap.size+1+1+1,0,none⟩) 1 1,.slice (some ⟨w.heap.size+1+1+1+1+1,0,none⟩) 1 1],.bool true] (firstMem w) fun e w'=>e=.returned (.bool true)∧∃ g cap sd x A,FirstAt w w' g cap sd x A:=by
 let col:Nat→Nat:=fun b=>if b<w.heap.size then 99 else if b=w.heap.size then 0 else if b<w.heap.size+6 then 90 else 8
 have k1:∀ b,b<w.heap.size→col b=99:=fun b h=>by simp [col,h]
 have k2:col w.heap.size=0:=by simp [col]
 have k3:∀ b,w.heap.size<b→b<w.heap.size+6→col b=90:=fun b h h'=>by
  have e1:¬ b<w.heap.size:=by omega
  have e2:b≠w.heap.size:=by omega
  simp [col,e1,e2,h']
 have b0:(firstMem w).heap[w.heap.size]? = some (.cells #[.slice none 0 0,.slice none 0 0,.slice none 0 0,.slice none 0 0,.slice none 0 0,.slice none 0 0,.slice none 0 0,.slice none 0 0] 35 (0,0)):=
  heapOld (by simp;omega) (heapOld (by simp;omega) (heapOld (by simp;omega) (heapOld (by simp;omega) (heapOld (by simp) (heapNew rfl)))))
 have b1:(firstMem w).heap[w.heap.size+1]? = some (.cells #[.int .i64 2,.int .i64 1] 3 (0,0)):=
  heapOld (by simp) (heapOld (by simp) (heapOld (by simp) (heapOld (by simp) (heapNew (by simp)))))
 have b2:(firstMem w).heap[w.heap.size+1+1]? = some (.cells #[.int .i64 5,.int .i64 6] 3 (0,0)):=
  heapOld (by simp) (heapOld (by simp) (heapOld (by simp) (heapNew (by simp))))
 have b3:(firstMem w).heap[w.heap.size+1+1+1]? = some (.cells #[.int .i64 0,.slice (some ⟨w.heap.size+1+1,0,none⟩) 2 2] 42 (0,0)):=
  heapOld (by simp) (heapOld (by simp) (heapNew (by simp)))
 have b4:(firstMem w).heap[w.heap.size+1+1+1+1]? = some (.cells (codeRow firstCode).toArray 44 (0,0)):=
  heapOld (by simp) (heapNew (by simp))
 have b5:(firstMem w).heap[w.heap.size+1+1+1+1+1]? = some (.cells #[.slice (some ⟨w.heap.size+1+1+1+1,0,none⟩) 3 3] 45 (0,0)):=heapNew (by simp)
 have hbk:Bk w.heap.size col (firstMem w) w.heap.size (.slice none 0 0) 0:=bk_new b0 k2 (Nat.le_refl _) (fun b h=>by rw [k1 b h];omega)
 have hns:NetStays w.heap.size col (firstMem w) (.agg #[.slice (some ⟨w.heap.size+1,0,none⟩) 2 2,.slice (some ⟨w.heap.size+1+1+1,0,none⟩) 1 1,.slice (some ⟨w.heap.size+1+1+1+1+1,0,none⟩) 1 1]) firstNet:=fun wx hx=>by
  have hk:∀ b,w.heap.size<b→b<w.heap.size+6→wx.heap[b]? = (firstMem w).heap[b]? := fun b h h'=>hx.block b (by rw [firstMem_size];omega) (fun e=>by have:=e.2;rw [k3 b h h'] at this;omega)
  exact first_net ((hk _ (by omega) (by omega)).trans b1) ((hk _ (by omega) (by omega)).trans b2) ((hk _ (by omega) (by omega)).trans b3) ((hk _ (by omega) (by omega)).trans b4) ((hk _ (by omega) (by omega)).trans b5)
 refine (opens_add (vals:=[]) none 30 31 (by decide) (by decide) (by decide) (by decide) hbk ⟨rfl,Or.inl ⟨rfl,rfl⟩⟩ (fun g hg=>by cases hg) (by simp) hns first_short (by decide) first_valid (fun wz ez=>by cases ez)).mono fun e w' ⟨he,ha⟩=>⟨he,?_⟩
 obtain ⟨col',v0',sd,x,y,vs,vr,vw, -,q1,q2,q3,q4,q5,q6,q7, -,q8,q9,q10⟩:=ha.ex
 obtain ⟨a,cap,rfl,hcap,hg⟩:=own_row_get q2
 obtain ⟨g,rfl,hcell⟩:=hg 0 (by simp)
 refine ⟨g,cap,sd,x,_,q1.c0,hcell,(blk_cell (l:=[_,_,_,_,_]) q6 0 _ rfl).1,q7,fun b h=>?_,(firstMem_below w).trans ⟨q8.os,q8.tape,q8.output,q8.size,fun b h=>q8.block b (by rw [firstMem_size];omega) (fun e=>by have:=e.1;omega)⟩⟩
 have hs:=q8.size
 rw [firstMem_size] at hs
 refine ⟨by omega,?_⟩
 rw [q9 b (by rw [firstMem_size];omega) (by rw [k1 b h];omega),k1 b h];omega
theorem first_goes:(runM firstNet [0,0,0,0] 0 (initR firstNet firstNet.streams)).1=3∧(runM firstNet [0,0,0,0] 0 (initR firstNet firstNet.streams)).2.1=0∧histOf (srcd firstNet 1) ((runM firstNet [0,0,0,0] 0 (initR firstNet firstNet.streams)).2.2.s 1)=[10]:=by decide +kernel
set_option maxRecDepth 100000 in
set_option maxHeartbeats 4000000 in
theorem first_calls (w:World) :
  Calls Tryz.prog 7 #[] w fun e w'=>e=.returned (.bool true)∧Below w.heap.size w w':=by
 have HOp:=hide (first_opens w)
 obtain ⟨g1,g2,g3⟩:=first_goes
 have HRun:Hid (∀ wx x A,Has A x firstNet (initR firstNet firstNet.streams) wx→Calls Tryz.prog 10 #[.pointer (some ⟨x,0,none⟩),.slice (some ⟨wx.heap.size,0,none⟩) 4 4] (wx.alloc (.cells #[.int .i64 0,.int .i64 0,.int .i64 0,.int .i64 0] 3)) fun e w'=>e=.returned (.tuple #[.int .i64 3,.int .i64 0])∧Has A x firstNet (runM firstNet [0,0,0,0] 0 (initR firstNet firstNet.streams)).2.2 w'∧Keeps A wx w'):=fun wx x A hx=>by
  have hbl:Below wx.heap.size wx (wx.alloc (.cells #[.int .i64 0,.int .i64 0,.int .i64 0,.int .i64 0] 3)):=(Below.refl _ _).alloc (Nat.le_refl _) _
  have hnew:(wx.alloc (.cells #[.int .i64 0,.int .i64 0,.int .i64 0,.int .i64 0] 3)).heap[wx.heap.size]? = some (.cells #[.int .i64 0,.int .i64 0,.int .i64 0,.int .i64 0] 3 (0,0)):=heapNew rfl
  have hi:IntsAt (wx.alloc (.cells #[.int .i64 0,.int .i64 0,.int .i64 0,.int .i64 0] 3)) (.slice (some ⟨wx.heap.size,0,none⟩) 4 4) [0,0,0,0]:=by
   refine ⟨_,_,rfl,show (4:Nat)≤_ by decide,show (4:Nat)≤4 by decide,Or.inr ⟨wx.heap.size,0,rfl,fun i hi j hj=>?_⟩⟩
   have hi':i<4:=hi
   have hc:(i=0∨i=1∨i=2∨i=3)∧j=0:=by omega
   obtain ⟨rfl | rfl | rfl | rfl,rfl⟩:=hc<;>exact row_cell (l:=[_,_,_,_]) hnew rfl
  refine (has_run (hx.add hbl) hi (fun b hb=>?_) (init_roomR first_valid) (fun s hs=>?_)).mono fun e w' ⟨h1,h2,h3⟩=>⟨?_,h2.mono fun b h=>Or.inl h,?_⟩
  ·have:wx.heap.size=b:=by simpa [Value.ownBlock] using hb
   exact Or.inr (by simp;omega)
  ·have hs':s<2:=hs
   have hc:s=0∨s=1:=by omega
   rcases hc with rfl | rfl<;>decide +kernel
  ·rw [h1,g1,g2];rfl
  ·exact (Keeps.of_below hbl).trans (Fr.mono h3 fun b _ h h'=>h (Or.inl h'))
 have HHi:Hid (∀ wx x A,Has A x firstNet (runM firstNet [0,0,0,0] 0 (initR firstNet firstNet.streams)).2.2 wx→Calls Tryz.prog 11 #[.pointer (some ⟨x,0,none⟩),.int .i64 1] wx fun e w'=>∃ g c,e=.returned (.tuple #[.slice (some ⟨g,0,none⟩) 1 c,.int .i64 0])∧w'.cell? ⟨g,0,none⟩=some (.int .i64 10)∧1≤c∧Below wx.heap.size wx w'):=fun wx x A hx=>by
  refine (has_history hx 1 (by decide)).mono fun e w' ⟨a',c',h1,h2,h3⟩=>?_
  rw [g3] at h1 h2
  obtain ⟨a,cap,e2,hcap,hg⟩:=own_row_get h2
  cases e2
  obtain ⟨g,rfl,hcell⟩:=hg 0 (by simp [intRow])
  exact ⟨g,c',h1,hcell,hcap,h3⟩
 generalize (runM firstNet [0,0,0,0] 0 (initR firstNet firstNet.streams)).2.2=R' at *
 clear g1 g2 g3
 go_enter Tryz.func7,Tryz.ntmps7
 go_wp2_with fail
 refine (unhide HOp).mono ?_
 rintro e w1 ⟨rfl,g,cap,sd,x,A,hF⟩
 have c0:=hF.c0
 have c1:=hF.c1
 have c2:=hF.c2
 have HF:=hide hF
 clear hF HOp
 go_wp2_with fail
 refine (HRun.out w1 x A HF.out.has).mono ?_
 rintro e w2 ⟨rfl,hx,hk⟩
 have HX:=hide hx
 have HK:=hide hk
 clear hx hk HRun c0 c1 c2
 go_wp2_with fail
 refine (HHi.out w2 x A HX.out).mono ?_
 rintro e w3 ⟨gh,ch,rfl,hc,hc1,hb⟩
 have HB:=hide hb
 clear hb HHi
 go_wp2
 go_ret
 exact ⟨rfl,(HF.out.below.trans (HK.out.below HF.out.below.size HF.out.low)).trans (HB.out.mono (Nat.le_trans HF.out.below.size HK.out.size))⟩
theorem Did.book {base sd cx cy:Nat} {col col2 col3:Nat→Nat} {w w2 w3:World} {g0:Nat} (h:Did base sd cx cy col w col2 w2) (k:Fr (fun b=>b=g0∨(base≤b∧col2 b≤8)) w2 w3) (hg:w.heap.size≤g0) (h2:∀ b,b<w2.heap.size→b≠g0→col3 b=col2 b):Did base sd cx cy col w col3 w3:=by
 have hsz:=h.fr.size
 refine ⟨h.fr.trans k (fun b hb e=>?_),fun b hb h20=>?_⟩
 ·rcases e with e | e
  ·omega
  ·rcases Nat.lt_or_ge 20 (col b) with h20 | h20
   ·have:=h.old b hb h20;omega
   ·exact ⟨e.1,Or.inl h20⟩
 ·rw [h2 b (by omega) (by omega),h.old b hb h20]
section
variable {wz:World} {base p:Nat} {v0:Value} {c sd cx cy x y:Nat} {n:Net} {vs vr vw:Value} {col:Nat→Nat} {w:World} {Rx Ry:Rc}
theorem Sd.backed (h:Sd wz base p v0 c sd cx cy x y n vs vr vw col w Rx Ry) {g0:Nat} {w':World} (hg0:base≤g0∧col g0=22) (hk:Backed base col w p v0 c g0 w'):∃ col',Sd wz base p v0 (c+1) sd cx cy x y n vs vr vw col' w' Rx Ry∧Fr (fun b=>b=g0∨(base≤b∧col b≤8)) w w'∧∀ b,b<w.heap.size→b≠g0→col' b=col b:=by
 obtain ⟨col',h1,h2,h3, -⟩:=hk.ex
 have hz:Below wz.heap.size wz w':=h.wzm.trans ⟨hk.fr.os,hk.fr.tape,hk.fr.output,hk.fr.size,fun b hb=>hk.fr.block b (by have:=h.wzm.size;omega) (fun e=>by
  have h9:=h.bk.low b (by have:=h.wzb;omega)
  rcases e with e | e
  ·subst e;omega
  ·omega)⟩
 have hx:=h.x0
 have hy:=h.y0
 refine ⟨col',⟨h.at'.frame (fun b hb e=>?_) hz,h1,hz,h.wzb,h.x0,h.x9,h.y0,h.y9,h.ne,h.fits,h.net,h.short⟩,hk.fr,h2⟩
 have hn:b≠g0:=fun e'=>by subst e';omega
 exact ⟨hk.fr.block b hb (fun e'=>by rcases e' with e' | e';exact hn e';omega),h2 b hb hn⟩
theorem runM_cons {N:Net} {l:List Int} {i d:Nat} {R:Rc} (hi:i<l.length):runM N (l.drop i) d R=if inB l[i] N.workers.length then (if stateOf N R l[i].toNat=1 then runM N (l.drop (i+1)) (d+1) (doStep N R l[i].toNat) else runM N (l.drop (i+1)) d R) else (d,2,R):=by
 rw [List.drop_eq_getElem_cons hi];rfl
theorem runM_fine {N:Net} (hv:validB N=true) (hf:NetFits N):∀ (l:List Int) (k:Nat) (R:Rc) (d:Nat),Fine N R d→Fine N (runM N l k R).2.2 (d+l.length)
 | [],k,R,d,h=>h
 | a::l,k,R,d,h=>by
  have e:d+(a::l).length=(d+1)+l.length:=by simp;omega
  rw [e,runM]
  split
  ·rename_i hin
   have hk:a.toNat<N.workers.length:=by simp [inB] at hin;omega
   split
   ·exact runM_fine hv hf l _ _ _ (h.step hv hf hk)
   ·exact runM_fine hv hf l _ _ _ (h.mono (by omega))
  ·exact h.mono (by omega)
structure RunAt (wz:World) (base p:Nat) (v0:Value) (c sd cx cy x y:Nat) (n:Net) (vs vr vw:Value) (col:Nat→Nat) (w:World) (M:Nat×Int×Rc) (d i:Nat) (S:Rc) (wr:World):Prop where
 turn:Turn wz base p v0 c sd cx cy x y n vs vr vw col w M.2.2 S wr
 fine:Fine n S (d+i)
theorem RunAt.step {M:Nat×Int×Rc} {d i:Nat} {S:Rc} {wr:World} (h:RunAt wz base p v0 c sd cx cy x y n vs vr vw col w M d i S wr) (hd:d+i≤1099511627776) (k:Nat) (hk:k<n.workers.length) :
  Calls Tryz.prog 61 #[.pointer (some ⟨y,0,none⟩),.int .i64 k] wr fun e w'=>e=.returned (.int .i64 (stateOf n S k))∧RunAt wz base p v0 c sd cx cy x y n vs vr vw col w M d (i+1) (stepR n S k) w':=by
 obtain ⟨col1,h1,h2⟩:=h.turn.ex
 refine (sd_stepy h1 k hk (h.fine.small hd)).mono fun e w' ⟨q1,q2⟩=>⟨q1,⟨?_,h.fine.stepR h1.ok h1.fits hk⟩⟩
 obtain ⟨col2,h3,h4⟩:=q2.ex
 exact ⟨col2,h3,h2.trans h4⟩
theorem RunAt.drewN {M:Nat×Int×Rc} {d i:Nat} {S:Rc} {wr:World} (h:RunAt wz base p v0 c sd cx cy x y n vs vr vw col w M d i S wr) (q:Nat):RunAt wz base p v0 c sd cx cy x y n vs vr vw col w M d i S (wr.drewN q):=by
 obtain ⟨col1,h1,h2⟩:=h.turn.ex
 have hb:Below wr.heap.size wr (wr.drewN q):=below_drewN (Below.refl _ _) q
 exact ⟨⟨_,h1.belowQ 22 hb,h2.trans (Did.of_below hb)⟩,h.fine⟩
theorem RunAt.read {l:List Int} {M:Nat×Int×Rc} {d i:Nat} {S:Rc} {wr:World} {a:Option Addr} {cl:Nat} (h:RunAt wz base p v0 c sd cx cy x y n vs vr vw col w M d i S wr) (hl:IntsAt wz (.slice a l.length cl) l):(wr.cell? ⟨sd,1,none⟩=some (.pointer (some ⟨y,0,none⟩))∧∃ gW cW,wr.cell? ⟨y,1,none⟩=some (.slice (some ⟨gW,0,none⟩) n.workers.length cW))∧∀ k (hk:k<l.length),∃ b off,a=some ⟨b,off,none⟩∧wr.cell? ⟨b,off+k,none⟩=some (.int .i64 l[k]):=by
 obtain ⟨col1,h1,h2⟩:=h.turn.ex
 obtain ⟨-,q1,gS,gW,cS,cW, -,q2⟩:=h1.cells
 refine ⟨⟨q1,gW,cW,q2⟩,fun k hk=>?_⟩
 obtain ⟨a',cap,hv, -, -,hc⟩:=hl
 simp only [Value.slice.injEq,true_and] at hv
 obtain ⟨rfl,rfl⟩:=hv
 rcases hc with hc | ⟨b,off,rfl,hc⟩
 ·omega
 ·refine ⟨b,off,rfl,?_⟩
  have e:=hc k hk 0 (by decide)
  rw [Nat.mul_one,Nat.add_zero] at e
  rw [h1.wzm.cell (lt_of_cell e),e]
  dsimp only
  rw [getD_eq _ _ _ hk]
theorem runs_head {R:Rc} {d:Nat} {l:List Int} {v:Value} (h:Sd wz base p v0 c sd cx cy x y n vs vr vw col w R R) (hf:Fine n R d) (hd:d+l.length≤1099511627776) (hc:c≤1099511627776) (hl:IntsAt wz v l) (hll:l.length≤1048576) :
  Calls Tryz.prog 22 #[v] w fun e w1=>∃ ia ic,e=.returned (.tuple #[.slice (some ⟨w.heap.size,0,none⟩) (l.length+1) (l.length+1),.slice ia l.length ic])∧w1.cell? ⟨sd,0,none⟩=some (.pointer (some ⟨x,0,none⟩)) ∧
   Calls Tryz.prog 10 #[.pointer (some ⟨x,0,none⟩),.slice ia l.length ic] w1 fun e w2=>e=.returned (.tuple #[.int .i64 (runM n l 0 R).1,.int .i64 (runM n l 0 R).2.1]) ∧
    Calls Tryz.prog 29 #[.pointer (some ⟨p,0,none⟩),.slice (some ⟨w.heap.size,0,none⟩) (l.length+1) (l.length+1),v] w2 fun e w3=>e=.returned (.bool true)∧RunAt wz base p v0 (c+1) sd cx cy x y n vs vr vw col w (runM n l 0 R) d 0 R w3:=by
 have hlw:IntsAt w v l:=hl.below h.wzm
 refine (lent_ints hlw hll).mono fun e w1 ⟨ia,ic,q1,q2,q3⟩=>⟨ia,ic,q1,?_,?_⟩
 ·exact (h.belowQ 22 q3).cells.1
 ·have h1:=h.belowQ 22 q3
  have hsz1:=q3.size
  have hgl:=lt_of_blk q2.blk
  have hin:=q2.ints hll
  refine (has_run h1.at'.hx hin (fun b hb=>?_) hf.room (fun s hs=>by have:=hf.words s hs;omega)).mono fun e w2 ⟨r1,r2,r3⟩=>⟨r1,?_⟩
  ·have hbg:b=w.heap.size:=by
    rcases q2.val with e | ⟨-,e⟩
    ·rw [e] at hb;simpa [Value.ownBlock] using hb.symm
    ·rw [e] at hb;cases hb
   have hx:=h.x0
   exact ⟨by omega,by rw [newcol_new (by omega)];omega⟩
  ·obtain ⟨col2,h2,h3⟩:=(h1.keepsx r2 r3).ex
   have hx:=h.x0
   have hk2:=keeps_block r3 hgl (by rw [newcol_new (Nat.le_refl _)];omega)
   have hcg:col2 w.heap.size=22:=by
    rw [h3.old _ hgl (by rw [newcol_new (Nat.le_refl _)];omega),newcol_new (Nat.le_refl _)]
   refine (backInts_calls h2.bk (hk2.trans q2.blk) h.base_le (by rw [hcg];omega) (hl.below h2.wzm) hll hc).mono fun e w3 ⟨s1,s2⟩=>⟨s1,?_⟩
   obtain ⟨col3,k1,k2,k3⟩:=h2.backed ⟨h.base_le,hcg⟩ s2
   exact ⟨⟨col3,k1,((Did.of_below q3).trans h3).book k2 (Nat.le_refl _) k3⟩,hf⟩
set_option maxRecDepth 100000 in
set_option maxHeartbeats 4000000 in
theorem runs_calls {R:Rc} {d:Nat} {l:List Int} {v:Value} (h:Sd wz base p v0 c sd cx cy x y n vs vr vw col w R R) (hf:Fine n R d) (hd:d+l.length≤1099511627776) (hc:c≤1099511627776) (hl:IntsAt wz v l) (hll:l.length≤1048576) :
  Calls Tryz.prog 31 #[.pointer (some ⟨p,0,none⟩),.pointer (some ⟨sd,0,none⟩),v] w fun e w'=>e=.returned (.bool true)∧∃ R',Turn wz base p v0 (c+1) sd cx cy x y n vs vr vw col w R' R' w'∧Fine n R' (d+l.length):=by
 have HH:=hide (runs_head h hf hd hc hl hll)
 have s0:=h.cells.1
 have hok:=h.ok
 have HFi:=hide (runM_fine hok h.fits l 0 R d hf)
 have hM:runM n (l.drop 0) 0 R=runM n l 0 R:=by rw [List.drop_zero]
 obtain ⟨a,cl,rfl, -, -, -⟩:=hl.open
 have HL:=hide hl
 clear h hf hl
 generalize runM n l 0 R=M at *
 have HM:=hide hM
 clear hM
 obtain ⟨m1,m2,mR⟩:=M
 dsimp only at HFi
 go_enter Tryz.func31,Tryz.ntmps31
 go_wp2_with fail
 refine (unhide HH).mono ?_
 rintro e w1 ⟨ia,ic,rfl,s0,hrun⟩
 have HRu:=hide hrun
 clear hrun HH
 go_wp2_with fail
 refine (unhide HRu).mono ?_
 rintro e w2 ⟨rfl,hbk⟩
 have HBk:=hide hbk
 clear hbk HRu
 go_wp2_with fail
 refine (unhide HBk).mono ?_
 rintro e w3 ⟨rfl,hra⟩
 have HR0:=hide hra
 clear hra HBk s0
 go_wp2
 go_loopw [12,13,14,15] (fun wv f i _ wr=>∃ (j wn:Nat) (S:Rc),j≤l.length∧i=.int .i64 j∧wv=.int .i64 wn∧wn≤j∧RunAt wz base p v0 (c+1) sd cx cy x y n vs vr vw col w (m1,m2,mR) d j S wr∧((f=.int .i64 0∧runM n (l.drop j) wn S=(m1,m2,mR))∨(f=.int .i64 2∧(wn,(2:Int),S)=(m1,m2,mR)))) (fun _ _ i _ _=>l.length-(intOf i).toNat)
 case atStart=>exact ⟨0,0,R,Nat.zero_le _,rfl,rfl,Nat.le_refl _,HR0.out,Or.inl ⟨rfl,HM.out⟩⟩
 case round=>
  obtain ⟨j,wn,S,hj,rfl,rfl,hwn,hra,hcase⟩:=hrel
  clear HR0 HM
  by_cases hlt:j<l.length
  ·rcases hcase with ⟨rfl,hm⟩ | ⟨rfl,hm⟩
   ·obtain ⟨⟨s1,gW,cW,y1⟩,hget⟩:=hra.read HL.out
    obtain ⟨b,off,rfl,d0⟩:=hget j hlt
    rw [runM_cons hlt] at hm
    have hj0:(0:Int)≤(j:Int):=by omega
    have hj1:(j:Int)<(l.length:Int):=by omega
    have HRa:=hide hra
    rcases in_cases l[j] n.workers.length with ⟨k,hk,hkl⟩ | ⟨hin,hout⟩
    ·rw [hk] at d0 hm
     have hin:inB (k:Int) n.workers.length=true:=by simp [inB];omega
     rw [if_pos hin,Int.toNat_natCast] at hm
     have HSt:Hid (∀ q,Calls Tryz.prog 61 #[.pointer (some ⟨y,0,none⟩),.int .i64 k] (wr.drewN q) fun e w'=>e=.returned (.int .i64 (stateOf n S k))∧(w'.cell? ⟨sd,1,none⟩=some (.pointer (some ⟨y,0,none⟩))∧w'.cell? ⟨b,off+j,none⟩=some (.int .i64 (k:Int)))∧RunAt wz base p v0 (c+1) sd cx cy x y n vs vr vw col w (m1,m2,mR) d (j+1) (stepR n S k) w'):=fun q=>by
      refine ((hra.drewN q).step (by omega) k hkl).mono fun e w' ⟨q1,q2⟩=>⟨q1,?_,q2⟩
      obtain ⟨⟨r1, -⟩,r2⟩:=q2.read HL.out
      obtain ⟨b',off',e',r3⟩:=r2 j hlt
      cases e'
      rw [hk] at r3
      exact ⟨r1,r3⟩
     have HM2:Hid (if stateOf n S k=1 then runM n (l.drop (j+1)) (wn+1) (doStep n S k)=(m1,m2,mR) else runM n (l.drop (j+1)) wn S=(m1,m2,mR)):=by
      show if _ then _ else _
      split
      ·rename_i h1;rw [if_pos h1] at hm;exact hm
      ·rename_i h1;rw [if_neg h1] at hm;exact hm
     have HS2:Hid (stepR n S k=if stateOf n S k=1 then doStep n S k else S):=rfl
     have hk0:(0:Int)≤(k:Int):=by omega
     have hk1:(k:Int)<(n.workers.length:Int):=by omega
     clear hm hget hra hk HRa
     by_cases hs1:stateOf n S k=1
     ·have hm2:=HM2.out
      have hs2:=HS2.out
      rw [if_pos hs1] at hm2 hs2
      rw [hs1,hs2] at HSt
      have HM3:=hide hm2
      clear hm2 hs2 HM2 HS2 hs1
      go_wp2
      go_quiet (fail)
      go_wp2
      go_region_held3 (fun w'=>w'.cell? ⟨sd,1,none⟩=some (.pointer (some ⟨y,0,none⟩))∧w'.cell? ⟨b,off+j,none⟩=some (.int .i64 (k:Int))) (first | exact ⟨s1,d0⟩ | assumption | go_keep) ((go_at_call 61;refine (unhide HSt _).mono ?_;rintro e w4 ⟨rfl,hS4,hr4⟩;have HR4:=hide hr4;clear hr4))
      clear hS4
      go_wp2
      go_roundw
      case rel=>exact ⟨j+1,wn+1,_,by omega,by go_num,by go_num,by omega,HR4.out,Or.inl ⟨rfl,HM3.out⟩⟩
      case measure=>simp [intOf];omega
     ·have hm2:=HM2.out
      have hs2:=HS2.out
      rw [if_neg hs1] at hm2 hs2
      rw [hs2] at HSt
      have HM3:=hide hm2
      have qs:(((stateOf n S k:Nat):Int) == 1)=false:=by simp;omega
      generalize stateOf n S k=st at *
      clear hm2 hs2 HM2 HS2 hs1
      go_wp2
      go_quiet (fail)
      go_wp2
      go_region_held3 (fun w'=>w'.cell? ⟨sd,1,none⟩=some (.pointer (some ⟨y,0,none⟩))∧w'.cell? ⟨b,off+j,none⟩=some (.int .i64 (k:Int))) (first | exact ⟨s1,d0⟩ | assumption | go_keep) ((go_at_call 61;refine (unhide HSt _).mono ?_;rintro e w4 ⟨rfl,hS4,hr4⟩;have HR4:=hide hr4;clear hr4))
      clear hS4
      go_wp2
      go_roundw
      case rel=>exact ⟨j+1,wn,_,by omega,by go_num,rfl,by omega,HR4.out,Or.inl ⟨rfl,HM3.out⟩⟩
      case measure=>simp [intOf];omega
    ·rw [if_neg (by rw [hin];decide)] at hm
     have HM3:=hide hm
     have HR4:Hid (∀ q,RunAt wz base p v0 (c+1) sd cx cy x y n vs vr vw col w (m1,m2,mR) d (j+1) S (wr.drewN q)):=fun q=>⟨(hra.drewN q).turn,hra.fine.mono (by omega)⟩
     generalize l[j]=lk at *
     clear hm hget hra HRa hin
     rcases hout with hk | ⟨hk0,hk1⟩
     ·go_wp2
      go_quiet (fail)
      go_wp2
      go_roundw
      case rel=>exact ⟨j+1,wn,S,by omega,by go_num,rfl,by omega,HR4.out _,Or.inr ⟨rfl,HM3.out⟩⟩
      case measure=>simp [intOf];omega
     ·go_wp2
      go_quiet (fail)
      go_wp2
      go_roundw
      case rel=>exact ⟨j+1,wn,S,by omega,by go_num,rfl,by omega,HR4.out _,Or.inr ⟨rfl,HM3.out⟩⟩
      case measure=>simp [intOf];omega
   ·simp only [Prod.mk.injEq] at hm
    obtain ⟨rfl,rfl,rfl⟩:=hm
    have HT:=hide hra.turn
    clear hra
    go_wp2
    go_ret
    exact ⟨rfl,_,HT.out,HFi.out⟩
  ·have hje:j=l.length:=by omega
   rcases hcase with ⟨rfl,hm⟩ | ⟨rfl,hm⟩
   ·rw [hje,List.drop_length] at hm
    simp only [runM,Prod.mk.injEq] at hm
    obtain ⟨rfl,rfl,rfl⟩:=hm
    have HT:=hide hra.turn
    clear hra
    go_wp2
    go_ret
    exact ⟨rfl,_,HT.out,HFi.out⟩
   ·simp only [Prod.mk.injEq] at hm
    obtain ⟨rfl,rfl,rfl⟩:=hm
    have HT:=hide hra.turn
    clear hra
    go_wp2
    go_ret
    exact ⟨rfl,_,HT.out,HFi.out⟩
end
section
variable {wz:World} {base p:Nat} {v0:Value} {c sd cx cy x y:Nat} {n:Net} {vs vr vw:Value} {col:Nat→Nat} {w:World} {Rx Ry:Rc}
theorem Sd.more (h:Sd wz base p v0 c sd cx cy x y n vs vr vw col w Rx Ry) {c':Nat} (hc:c≤c'):Sd wz base p v0 c' sd cx cy x y n vs vr vw col w Rx Ry:=
 ⟨h.at',h.bk.frame (fun _ _ _=>rfl) (fun _ _ _=>rfl) h.bk.low (Nat.le_refl _) hc,h.wzm,h.wzb,h.x0,h.x9,h.y0,h.y9,h.ne,h.fits,h.net,h.short⟩
theorem Turn.more {w':World} (h:Turn wz base p v0 c sd cx cy x y n vs vr vw col w Rx Ry w') {c':Nat} (hc:c≤c'):Turn wz base p v0 c' sd cx cy x y n vs vr vw col w Rx Ry w':=by
 obtain ⟨col',h1,h2⟩:=h.ex
 exact ⟨col',h1.more hc,h2⟩
theorem Turn.cells {w':World} (h:Turn wz base p v0 c sd cx cy x y n vs vr vw col w Rx Ry w'):w'.cell? ⟨sd,0,none⟩=some (.pointer (some ⟨x,0,none⟩))∧w'.cell? ⟨sd,1,none⟩=some (.pointer (some ⟨y,0,none⟩)) ∧
  ∃ gS gW cS cW,w'.cell? ⟨y,0,none⟩=some (.slice (some ⟨gS,0,none⟩) n.streams.length cS)∧w'.cell? ⟨y,1,none⟩=some (.slice (some ⟨gW,0,none⟩) n.workers.length cW):=by
 obtain ⟨col',h1, -⟩:=h.ex
 exact h1.cells
theorem Turn.next {Rx' Ry':Rc} {c':Nat} {w1:World} {f:FuncId} {args:Array Value} {P:Ending→Prop} (h:Turn wz base p v0 c sd cx cy x y n vs vr vw col w Rx Ry w1)
  (k:∀ col1,Sd wz base p v0 c sd cx cy x y n vs vr vw col1 w1 Rx Ry→Calls Tryz.prog f args w1 fun e w'=>P e∧Turn wz base p v0 c' sd cx cy x y n vs vr vw col1 w1 Rx' Ry' w') :
  Calls Tryz.prog f args w1 fun e w'=>P e∧Turn wz base p v0 c' sd cx cy x y n vs vr vw col w Rx' Ry' w':=by
 obtain ⟨col1,h1,h2⟩:=h.ex
 refine (k col1 h1).mono fun e w' ⟨q1,q2⟩=>⟨q1,?_⟩
 obtain ⟨col2,h3,h4⟩:=q2.ex
 exact ⟨col2,h3,h2.trans h4⟩
set_option maxRecDepth 100000 in
set_option maxHeartbeats 4000000 in
theorem ended_calls {R:Rc} {d:Nat} (h:Sd wz base p v0 c sd cx cy x y n vs vr vw col w R R) (hf:Fine n R d) (hd:d≤1099511627776) (hc:c+100≤1099511627776) :
  Calls Tryz.prog 18 #[.pointer (some ⟨p,0,none⟩),.pointer (some ⟨sd,0,none⟩)] w fun e w'=>e=.returned (.bool true)∧Turn wz base p v0 (c+40) sd cx cy x y n vs vr vw col w R R w':=by
 obtain ⟨hs1,hs8,hw1,hw6⟩:=valid_counts h.ok
 have HLk:Hid (∀ wr (k:Int),Turn wz base p v0 c sd cx cy x y n vs vr vw col w R R wr→Calls Tryz.prog 32 #[.pointer (some ⟨sd,0,none⟩),.int .i64 k] wr fun e w'=>e=.returned (.bool true)∧Turn wz base p v0 c sd cx cy x y n vs vr vw col w R R w'):=fun wr k ht=>ht.next fun col1 h1=>looks_calls h1 k
 have HHi:Hid (∀ wr (k:Int) (j:Nat),j<10→Turn wz base p v0 (c+4*j) sd cx cy x y n vs vr vw col w R R wr→Calls Tryz.prog 33 #[.pointer (some ⟨p,0,none⟩),.pointer (some ⟨sd,0,none⟩),.int .i64 k] wr fun e w'=>e=.returned (.bool true)∧Turn wz base p v0 (c+4*(j+1)) sd cx cy x y n vs vr vw col w R R w'):=fun wr k j hj ht=>ht.next fun col1 h1=>by
  have:=histories_calls h1 hf hd (by omega) k
  rw [show c+4*j+4=c+4*(j+1) by omega] at this
  exact this
 have HRo:Hid (∀ wr (k:Int) (j:Nat),Turn wz base p v0 (c+4*j) sd cx cy x y n vs vr vw col w R R wr→Calls Tryz.prog 34 #[.pointer (some ⟨sd,0,none⟩),.int .i64 k] wr fun e w'=>e=.returned (.bool true)∧Turn wz base p v0 (c+4*j) sd cx cy x y n vs vr vw col w R R w'):=fun wr k j ht=>ht.next fun col1 h1=>rooms_calls h1 hf hd k
 have HT0:=hide h.refl
 clear h hf hd hc
 go_enter Tryz.func18,Tryz.ntmps18
 go_wp2
 go_loopw [5,6] (fun i _ wr=>∃ j:Nat,j≤n.workers.length+2∧i=.int .i64 ((j:Int)-1)∧Turn wz base p v0 c sd cx cy x y n vs vr vw col w R R wr) (fun i _ _=>n.workers.length+3-(intOf i+1).toNat)
 case atStart=>exact ⟨0,Nat.zero_le _,rfl,HT0.out⟩
 case round=>
  clear HT0
  obtain ⟨j,hj,rfl,ht⟩:=hrel
  obtain ⟨s0,s1,gS,gW,cS,cW,y0,y1⟩:=ht.cells
  by_cases hlt:j<n.workers.length+2
  ·have hle:(j:Int)-1≤(n.workers.length:Int):=by omega
   have HC:=hide (HLk.out wr ((j:Int)-1) ht)
   clear ht
   go_wp2_with fail
   refine (unhide HC).mono ?_
   rintro e w1 ⟨rfl,ht⟩
   have HT1:=hide ht
   clear ht HC
   go_wp2
   go_roundw
   case rel=>exact ⟨j+1,by omega,by go_num,HT1.out⟩
   case measure=>simp [intOf];omega
  ·have hgt:¬ (j:Int)-1≤(n.workers.length:Int):=by omega
   have HT1:=hide ht
   clear ht HLk
   go_wp2
   go_loopw [7,8,9] (fun i _ _ wr=>∃ j:Nat,j≤n.streams.length+2∧i=.int .i64 ((j:Int)-1)∧Turn wz base p v0 (c+4*j) sd cx cy x y n vs vr vw col w R R wr) (fun i _ _ _=>n.streams.length+3-(intOf i+1).toNat)
   case atStart=>exact ⟨0,Nat.zero_le _,rfl,HT1.out⟩
   case round=>
    clear HT1
    obtain ⟨j,hj,rfl,ht⟩:=hrel
    obtain ⟨s0,s1,gS,gW,cS,cW,y0,y1⟩:=ht.cells
    by_cases hlt:j<n.streams.length+2
    ·have hle:(j:Int)-1≤(n.streams.length:Int):=by omega
     have HC:=hide (HHi.out wr ((j:Int)-1) j (by omega) ht)
     clear ht
     go_wp2_with fail
     refine (unhide HC).mono ?_
     rintro e w1 ⟨rfl,ht⟩
     have HC1:=hide (HRo.out w1 ((j:Int)-1) (j+1) ht)
     clear ht HC
     go_wp2_with fail
     refine (unhide HC1).mono ?_
     rintro e w2 ⟨rfl,ht⟩
     have HT2:=hide ht
     clear ht HC1
     go_wp2
     go_roundw
     case rel=>exact ⟨j+1,by omega,by go_num,HT2.out⟩
     case measure=>simp [intOf];omega
    ·have hgt:¬ (j:Int)-1≤(n.streams.length:Int):=by omega
     have HT2:Hid (Turn wz base p v0 (c+40) sd cx cy x y n vs vr vw col w R R wr):=ht.more (by omega)
     clear ht HHi HRo
     go_wp2
     go_ret
     exact ⟨rfl,HT2.out⟩
end
structure OpV where
 kind:Int
 num:Int
 sched:List Int
 sa:Option Addr
 sc:Nat
 net:Net
 a0:Option Addr
 c0:Nat
 a1:Option Addr
 c1:Nat
 a2:Option Addr
 c2:Nat
 str:ByteArray
 which:Bool
def OpV.vals (o:OpV):List Value:=[.int .i64 o.kind,.int .i64 o.num,.slice o.sa o.sched.length o.sc,.slice o.a0 o.net.streams.length o.c0,.slice o.a1 o.net.sources.length o.c1,.slice o.a2 o.net.workers.length o.c2,.string o.str,.bool o.which]
structure OpAt (w:World) (o:OpV):Prop where
 sched:IntsAt w (.slice o.sa o.sched.length o.sc) o.sched
 slen:o.sched.length≤1048576
 net:NetAt w (.agg #[.slice o.a0 o.net.streams.length o.c0,.slice o.a1 o.net.sources.length o.c1,.slice o.a2 o.net.workers.length o.c2]) o.net
 short:ShortNet o.net
 str:o.str.size≤1048576
 num:Fits o.num
structure Went2 (wz:World) (base p:Nat) (v0:Value) (c d sd cx cy:Nat) (n:Net) (vs vr vw:Value) (col:Nat→Nat) (w w':World):Prop where
 ex:∃ x y R c',c'≤c+2097160∧Turn wz base p v0 c' sd cx cy x y n vs vr vw col w R R w'∧Fine n R (d+1048576)
def StepLaw (wz:World) (most:Int):Prop:=∀ (base p:Nat) (v0:Value) (c d sd cx cy x y:Nat) (n:Net) (vs vr vw:Value) (col:Nat→Nat) (w:World) (R:Rc) (o:OpV),Sd wz base p v0 c sd cx cy x y n vs vr vw col w R R→Fine n R d→d+1048576≤274877906944→c+4194304≤1099511627776→OpAt wz o→o.kind≤most →
 Calls Tryz.prog 16 #[.pointer (some ⟨p,0,none⟩),.pointer (some ⟨sd,0,none⟩),.agg #[.int .i64 o.kind,.int .i64 o.num,.slice o.sa o.sched.length o.sc,.slice o.a0 o.net.streams.length o.c0,.slice o.a1 o.net.sources.length o.c1,.slice o.a2 o.net.workers.length o.c2,.string o.str,.bool o.which]] w fun e w'=>e=.returned (.bool true)∧Went2 wz base p v0 c d sd cx cy n vs vr vw col w w'
section
variable {wz:World} {base p:Nat} {v0:Value} {c d sd cx cy x y:Nat} {n:Net} {vs vr vw:Value} {col:Nat→Nat} {w:World} {R:Rc}
theorem Sd.box (h:Sd wz base p v0 c sd cx cy x y n vs vr vw col w R R) (o:Obj):Sd wz base p v0 c sd cx cy x y n vs vr vw (newcol col w.heap.size 22) (w.alloc o) R R∧Did base sd cx cy col w (newcol col w.heap.size 22) (w.alloc o):=
 ⟨h.belowQ 22 ((Below.refl _ _).alloc (Nat.le_refl _) _),Did.of_below ((Below.refl _ _).alloc (Nat.le_refl _) _)⟩
theorem Went2.of {col1:Nat→Nat} {w1 w':World} {c':Nat} {R':Rc} (hd:Did base sd cx cy col w col1 w1) (ht:Turn wz base p v0 c' sd cx cy x y n vs vr vw col1 w1 R' R' w') (hc:c'≤c+2097160) (hf:Fine n R' (d+1048576)):Went2 wz base p v0 c d sd cx cy n vs vr vw col w w':=by
 obtain ⟨col2,h3,h4⟩:=ht.ex
 exact ⟨x,y,R',c',hc,⟨col2,h3,hd.trans h4⟩,hf⟩
set_option maxRecDepth 100000 in
set_option maxHeartbeats 4000000 in
theorem step_k1 (h:Sd wz base p v0 c sd cx cy x y n vs vr vw col w R R) (hf:Fine n R d) (hd:d+1048576≤274877906944) (hc:c+4194304≤1099511627776) {sched:List Int} {sa:Option Addr} {sc:Nat} (hl:IntsAt wz (.slice sa sched.length sc) sched) (hll:sched.length≤1048576) (num:Int) (net:Net) (a0:Option Addr) (c0:Nat) (a1:Option Addr) (c1:Nat) (a2:Option Addr) (c2:Nat) (str:ByteArray) (which:Bool) :
  Calls Tryz.prog 16 #[.pointer (some ⟨p,0,none⟩),.pointer (some ⟨sd,0,none⟩),.agg #[.int .i64 1,.int .i64 num,.slice sa sched.length sc,.slice a0 net.streams.length c0,.slice a1 net.sources.length c1,.slice a2 net.workers.length c2,.string str,.bool which]] w fun e w'=>e=.returned (.bool true)∧Went2 wz base p v0 c d sd cx cy n vs vr vw col w w':=by
 have _hu:=And.intro hd (And.intro hc (And.intro hl hll))
 have hbx:=h.box (.cells #[.int .i64 1,.int .i64 num,.slice sa sched.length sc,.slice a0 net.streams.length c0,.slice a1 net.sources.length c1,.slice a2 net.workers.length c2,.string str,.bool which] 65)
 have HC:Hid (Calls Tryz.prog 30 #[.pointer (some ⟨sd,0,none⟩),.int .i64 num] (w.alloc (.cells #[.int .i64 1,.int .i64 num,.slice sa sched.length sc,.slice a0 net.streams.length c0,.slice a1 net.sources.length c1,.slice a2 net.workers.length c2,.string str,.bool which] 65)) fun e w'=>e=.returned (.bool true)∧Went2 wz base p v0 c d sd cx cy n vs vr vw col w w'):=(steps_calls hbx.1 hf (by omega) num).mono fun e w' ⟨q1,R',q2,q3⟩=>⟨q1,Went2.of hbx.2 q2 (by omega) (q3.mono (by omega))⟩
 clear h hf hd hc hl hll hbx _hu
 go_enter Tryz.func16,Tryz.ntmps16
 go_wp2_with fail
 refine (unhide HC).mono ?_
 rintro e w1 ⟨rfl,ht⟩
 have HT:=hide ht
 clear ht HC
 go_wp2
 go_ret
 exact ⟨rfl,HT.out⟩
set_option maxRecDepth 100000 in
set_option maxHeartbeats 4000000 in
theorem step_k2 (h:Sd wz base p v0 c sd cx cy x y n vs vr vw col w R R) (hf:Fine n R d) (hd:d+1048576≤274877906944) (hc:c+4194304≤1099511627776) {sched:List Int} {sa:Option Addr} {sc:Nat} (hl:IntsAt wz (.slice sa sched.length sc) sched) (hll:sched.length≤1048576) (num:Int) (net:Net) (a0:Option Addr) (c0:Nat) (a1:Option Addr) (c1:Nat) (a2:Option Addr) (c2:Nat) (str:ByteArray) (which:Bool) :
  Calls Tryz.prog 16 #[.pointer (some ⟨p,0,none⟩),.pointer (some ⟨sd,0,none⟩),.agg #[.int .i64 2,.int .i64 num,.slice sa sched.length sc,.slice a0 net.streams.length c0,.slice a1 net.sources.length c1,.slice a2 net.workers.length c2,.string str,.bool which]] w fun e w'=>e=.returned (.bool true)∧Went2 wz base p v0 c d sd cx cy n vs vr vw col w w':=by
 have _hu:=And.intro hd (And.intro hc (And.intro hl hll))
 have hbx:=h.box (.cells #[.int .i64 2,.int .i64 num,.slice sa sched.length sc,.slice a0 net.streams.length c0,.slice a1 net.sources.length c1,.slice a2 net.workers.length c2,.string str,.bool which] 65)
 have HC:Hid (Calls Tryz.prog 31 #[.pointer (some ⟨p,0,none⟩),.pointer (some ⟨sd,0,none⟩),.slice sa sched.length sc] (w.alloc (.cells #[.int .i64 2,.int .i64 num,.slice sa sched.length sc,.slice a0 net.streams.length c0,.slice a1 net.sources.length c1,.slice a2 net.workers.length c2,.string str,.bool which] 65)) fun e w'=>e=.returned (.bool true)∧Went2 wz base p v0 c d sd cx cy n vs vr vw col w w'):=(runs_calls hbx.1 hf (by omega) (by omega) hl hll).mono fun e w' ⟨q1,R',q2,q3⟩=>⟨q1,Went2.of hbx.2 q2 (by omega) (q3.mono (by omega))⟩
 clear h hf hd hc hl hll hbx _hu
 go_enter Tryz.func16,Tryz.ntmps16
 go_wp2_with fail
 refine (unhide HC).mono ?_
 rintro e w1 ⟨rfl,ht⟩
 have HT:=hide ht
 clear ht HC
 go_wp2
 go_ret
 exact ⟨rfl,HT.out⟩
set_option maxRecDepth 100000 in
set_option maxHeartbeats 4000000 in
theorem step_k3 (h:Sd wz base p v0 c sd cx cy x y n vs vr vw col w R R) (hf:Fine n R d) (hd:d+1048576≤274877906944) (hc:c+4194304≤1099511627776) {sched:List Int} {sa:Option Addr} {sc:Nat} (hl:IntsAt wz (.slice sa sched.length sc) sched) (hll:sched.length≤1048576) (num:Int) (net:Net) (a0:Option Addr) (c0:Nat) (a1:Option Addr) (c1:Nat) (a2:Option Addr) (c2:Nat) (str:ByteArray) (which:Bool) :
  Calls Tryz.prog 16 #[.pointer (some ⟨p,0,none⟩),.pointer (some ⟨sd,0,none⟩),.agg #[.int .i64 3,.int .i64 num,.slice sa sched.length sc,.slice a0 net.streams.length c0,.slice a1 net.sources.length c1,.slice a2 net.workers.length c2,.string str,.bool which]] w fun e w'=>e=.returned (.bool true)∧Went2 wz base p v0 c d sd cx cy n vs vr vw col w w':=by
 have _hu:=And.intro hd (And.intro hc (And.intro hl hll))
 have hbx:=h.box (.cells #[.int .i64 3,.int .i64 num,.slice sa sched.length sc,.slice a0 net.streams.length c0,.slice a1 net.sources.length c1,.slice a2 net.workers.length c2,.string str,.bool which] 65)
 have HC:Hid (Calls Tryz.prog 32 #[.pointer (some ⟨sd,0,none⟩),.int .i64 num] (w.alloc (.cells #[.int .i64 3,.int .i64 num,.slice sa sched.length sc,.slice a0 net.streams.length c0,.slice a1 net.sources.length c1,.slice a2 net.workers.length c2,.string str,.bool which] 65)) fun e w'=>e=.returned (.bool true)∧Went2 wz base p v0 c d sd cx cy n vs vr vw col w w'):=(looks_calls hbx.1 num).mono fun e w' ⟨q1,q2⟩=>⟨q1,Went2.of hbx.2 q2 (by omega) (hf.mono (by omega))⟩
 clear h hf hd hc hl hll hbx _hu
 go_enter Tryz.func16,Tryz.ntmps16
 go_wp2_with fail
 refine (unhide HC).mono ?_
 rintro e w1 ⟨rfl,ht⟩
 have HT:=hide ht
 clear ht HC
 go_wp2
 go_ret
 exact ⟨rfl,HT.out⟩
set_option maxRecDepth 100000 in
set_option maxHeartbeats 4000000 in
theorem step_k4 (h:Sd wz base p v0 c sd cx cy x y n vs vr vw col w R R) (hf:Fine n R d) (hd:d+1048576≤274877906944) (hc:c+4194304≤1099511627776) {sched:List Int} {sa:Option Addr} {sc:Nat} (hl:IntsAt wz (.slice sa sched.length sc) sched) (hll:sched.length≤1048576) (num:Int) (net:Net) (a0:Option Addr) (c0:Nat) (a1:Option Addr) (c1:Nat) (a2:Option Addr) (c2:Nat) (str:ByteArray) (which:Bool) :
  Calls Tryz.prog 16 #[.pointer (some ⟨p,0,none⟩),.pointer (some ⟨sd,0,none⟩),.agg #[.int .i64 4,.int .i64 num,.slice sa sched.length sc,.slice a0 net.streams.length c0,.slice a1 net.sources.length c1,.slice a2 net.workers.length c2,.string str,.bool which]] w fun e w'=>e=.returned (.bool true)∧Went2 wz base p v0 c d sd cx cy n vs vr vw col w w':=by
 have _hu:=And.intro hd (And.intro hc (And.intro hl hll))
 have hbx:=h.box (.cells #[.int .i64 4,.int .i64 num,.slice sa sched.length sc,.slice a0 net.streams.length c0,.slice a1 net.sources.length c1,.slice a2 net.workers.length c2,.string str,.bool which] 65)
 have HC:Hid (Calls Tryz.prog 33 #[.pointer (some ⟨p,0,none⟩),.pointer (some ⟨sd,0,none⟩),.int .i64 num] (w.alloc (.cells #[.int .i64 4,.int .i64 num,.slice sa sched.length sc,.slice a0 net.streams.length c0,.slice a1 net.sources.length c1,.slice a2 net.workers.length c2,.string str,.bool which] 65)) fun e w'=>e=.returned (.bool true)∧Went2 wz base p v0 c d sd cx cy n vs vr vw col w w'):=(histories_calls hbx.1 hf (by omega) (by omega) num).mono fun e w' ⟨q1,q2⟩=>⟨q1,Went2.of hbx.2 q2 (by omega) (hf.mono (by omega))⟩
 clear h hf hd hc hl hll hbx _hu
 go_enter Tryz.func16,Tryz.ntmps16
 go_wp2_with fail
 refine (unhide HC).mono ?_
 rintro e w1 ⟨rfl,ht⟩
 have HT:=hide ht
 clear ht HC
 go_wp2
 go_ret
 exact ⟨rfl,HT.out⟩
set_option maxRecDepth 100000 in
set_option maxHeartbeats 4000000 in
theorem step_k5 (h:Sd wz base p v0 c sd cx cy x y n vs vr vw col w R R) (hf:Fine n R d) (hd:d+1048576≤274877906944) (hc:c+4194304≤1099511627776) {sched:List Int} {sa:Option Addr} {sc:Nat} (hl:IntsAt wz (.slice sa sched.length sc) sched) (hll:sched.length≤1048576) (num:Int) (net:Net) (a0:Option Addr) (c0:Nat) (a1:Option Addr) (c1:Nat) (a2:Option Addr) (c2:Nat) (str:ByteArray) (which:Bool) :
  Calls Tryz.prog 16 #[.pointer (some ⟨p,0,none⟩),.pointer (some ⟨sd,0,none⟩),.agg #[.int .i64 5,.int .i64 num,.slice sa sched.length sc,.slice a0 net.streams.length c0,.slice a1 net.sources.length c1,.slice a2 net.workers.length c2,.string str,.bool which]] w fun e w'=>e=.returned (.bool true)∧Went2 wz base p v0 c d sd cx cy n vs vr vw col w w':=by
 have _hu:=And.intro hd (And.intro hc (And.intro hl hll))
 have hbx:=h.box (.cells #[.int .i64 5,.int .i64 num,.slice sa sched.length sc,.slice a0 net.streams.length c0,.slice a1 net.sources.length c1,.slice a2 net.workers.length c2,.string str,.bool which] 65)
 have HC:Hid (Calls Tryz.prog 34 #[.pointer (some ⟨sd,0,none⟩),.int .i64 num] (w.alloc (.cells #[.int .i64 5,.int .i64 num,.slice sa sched.length sc,.slice a0 net.streams.length c0,.slice a1 net.sources.length c1,.slice a2 net.workers.length c2,.string str,.bool which] 65)) fun e w'=>e=.returned (.bool true)∧Went2 wz base p v0 c d sd cx cy n vs vr vw col w w'):=(rooms_calls hbx.1 hf (by omega) num).mono fun e w' ⟨q1,q2⟩=>⟨q1,Went2.of hbx.2 q2 (by omega) (hf.mono (by omega))⟩
 clear h hf hd hc hl hll hbx _hu
 go_enter Tryz.func16,Tryz.ntmps16
 go_wp2_with fail
 refine (unhide HC).mono ?_
 rintro e w1 ⟨rfl,ht⟩
 have HT:=hide ht
 clear ht HC
 go_wp2
 go_ret
 exact ⟨rfl,HT.out⟩
set_option maxRecDepth 100000 in
set_option maxHeartbeats 4000000 in
theorem step_k0 (h:Sd wz base p v0 c sd cx cy x y n vs vr vw col w R R) (hf:Fine n R d) (hd:d+1048576≤274877906944) (hc:c+4194304≤1099511627776) {sched:List Int} {sa:Option Addr} {sc:Nat} (hl:IntsAt wz (.slice sa sched.length sc) sched) (hll:sched.length≤1048576) (num:Int) (net:Net) (a0:Option Addr) (c0:Nat) (a1:Option Addr) (c1:Nat) (a2:Option Addr) (c2:Nat) (str:ByteArray) (which:Bool) (kind:Int) (q1:(kind == 1)=false) (q2:(kind == 2)=false) (q3:(kind == 3)=false) (q4:(kind == 4)=false) (q5:(kind == 5)=false) (q6:(kind == 6)=false) (q7:(kind == 7)=false) (q8:(kind == 8)=false) (q9:(kind == 9)=false) (q10:(kind == 10)=false) (q11:(kind == 11)=false) :
  Calls Tryz.prog 16 #[.pointer (some ⟨p,0,none⟩),.pointer (some ⟨sd,0,none⟩),.agg #[.int .i64 kind,.int .i64 num,.slice sa sched.length sc,.slice a0 net.streams.length c0,.slice a1 net.sources.length c1,.slice a2 net.workers.length c2,.string str,.bool which]] w fun e w'=>e=.returned (.bool true)∧Went2 wz base p v0 c d sd cx cy n vs vr vw col w w':=by
 have _hu:=And.intro hd (And.intro hc (And.intro hl hll))
 have hbx:=h.box (.cells #[.int .i64 kind,.int .i64 num,.slice sa sched.length sc,.slice a0 net.streams.length c0,.slice a1 net.sources.length c1,.slice a2 net.workers.length c2,.string str,.bool which] 65)
 have HC:Hid (Went2 wz base p v0 c d sd cx cy n vs vr vw col w (w.alloc (.cells #[.int .i64 kind,.int .i64 num,.slice sa sched.length sc,.slice a0 net.streams.length c0,.slice a1 net.sources.length c1,.slice a2 net.workers.length c2,.string str,.bool which] 65))):=Went2.of hbx.2 hbx.1.refl (by omega) (hf.mono (by omega))
 clear h hf hd hc hl hll hbx _hu
 go_enter Tryz.func16,Tryz.ntmps16
 go_wp2
 go_ret
 exact ⟨rfl,HC.out⟩
theorem steps_law:StepLaw wz 5:=fun base p v0 c d sd cx cy x y n vs vr vw col w R o h hf hd hc ho hk=>by
 obtain ⟨kind,num,sched,sa,sc,net,a0,c0,a1,c1,a2,c2,str,which⟩:=o
 dsimp only at hk ⊢
 rcases (show kind=1∨kind=2∨kind=3∨kind=4∨kind=5∨kind≤0 by omega) with rfl | rfl | rfl | rfl | rfl | h0
 ·exact step_k1 h hf hd hc ho.sched ho.slen num net a0 c0 a1 c1 a2 c2 str which
 ·exact step_k2 h hf hd hc ho.sched ho.slen num net a0 c0 a1 c1 a2 c2 str which
 ·exact step_k3 h hf hd hc ho.sched ho.slen num net a0 c0 a1 c1 a2 c2 str which
 ·exact step_k4 h hf hd hc ho.sched ho.slen num net a0 c0 a1 c1 a2 c2 str which
 ·exact step_k5 h hf hd hc ho.sched ho.slen num net a0 c0 a1 c1 a2 c2 str which
 ·exact step_k0 h hf hd hc ho.sched ho.slen num net a0 c0 a1 c1 a2 c2 str which kind (by simp;omega) (by simp;omega) (by simp;omega) (by simp;omega) (by simp;omega) (by simp;omega) (by simp;omega) (by simp;omega) (by simp;omega) (by simp;omega) (by simp;omega)
end
end Go.Proofs.YthfdgdfnflilfaaGreatDoor

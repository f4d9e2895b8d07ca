/- Part 15: Workers4, RefL1, RefL2, RefL3, Bent. -/
import Derived.Laws.BytesArg
import Derived.Lib.ConvBytes
import Derived.StillTailTactics
import Derived.Deep.CutRange
import Derived.Deep.Cut
import Derived.Deep.Upon
import Derived.Test.YthfdgdfnflilfaaGreatDoorPart10
import Derived.Test.YthfdgdfnflilfaaGreatDoorPart11
namespace Go.Proofs.YthfdgdfnflilfaaGreatDoor
open Go.RowKit Go.Conc
def lookVal (x:Wk) (s:Int):Value:=.agg #[.int .i64 x.place,.int .i64 (x.r 0),.int .i64 (x.r 1),.int .i64 (x.r 2),.int .i64 (x.r 3),.int .i64 x.steps,.int .i64 s]
theorem below_set7 {w w1:World} (h:Below w.heap.size w w1) (v0 v1 v2 v3 v4 v5 v6:Value) :
  Below w.heap.size w (((((((w1.setCell ⟨w.heap.size,0,none⟩ v0).setCell ⟨w.heap.size,1,none⟩ v1).setCell ⟨w.heap.size,2,none⟩ v2).setCell ⟨w.heap.size,3,none⟩ v3).setCell ⟨w.heap.size,4,none⟩ v4).setCell ⟨w.heap.size,5,none⟩ v5).setCell ⟨w.heap.size,6,none⟩ v6):=
 have h0:=Below.setCell (p:=⟨w.heap.size,0,none⟩) h (Nat.le_refl _) v0
 have h1:=Below.setCell (p:=⟨w.heap.size,1,none⟩) h0 (Nat.le_refl _) v1
 have h2:=Below.setCell (p:=⟨w.heap.size,2,none⟩) h1 (Nat.le_refl _) v2
 have h3:=Below.setCell (p:=⟨w.heap.size,3,none⟩) h2 (Nat.le_refl _) v3
 have h4:=Below.setCell (p:=⟨w.heap.size,4,none⟩) h3 (Nat.le_refl _) v4
 have h5:=Below.setCell (p:=⟨w.heap.size,5,none⟩) h4 (Nat.le_refl _) v5
 Below.setCell (p:=⟨w.heap.size,6,none⟩) h5 (Nat.le_refl _) v6
set_option maxRecDepth 100000 in
set_option maxHeartbeats 600000 in
theorem wlook_calls {w:World} {b:Nat} {vc va:Value} {code:List Ins} {x:Wk} {n:Nat} {st:Nat→Nat} {VW:Nat→Value} {CH:Nat→Option Nat} {SRC:Nat→Bool} {M:Nat→Sm}
  (hw:WkAt w b vc code x) (he:Env w va n st VW CH SRC M) (hc:CodeOk code n CH SRC) :
  Calls Tryz.prog 85 #[.pointer (some ⟨b,0,none⟩),va] w fun e w'=>e=.returned (lookVal x (stateL code x CH SRC M))∧Below w.heap.size w w':=by
 obtain ⟨ga,gcap,hva, -, -⟩:=along_at he.along
 have hblk:∀ wx,Below w.heap.size w wx→wx.cell? ⟨b,1,none⟩=some (.int .i64 x.place)∧wx.cell? ⟨b,2,none⟩=some (.int .i64 (x.r 0))∧wx.cell? ⟨b,3,none⟩=some (.int .i64 (x.r 1))∧wx.cell? ⟨b,4,none⟩=some (.int .i64 (x.r 2))∧wx.cell? ⟨b,5,none⟩=some (.int .i64 (x.r 3))∧wx.cell? ⟨b,6,none⟩=some (.int .i64 x.steps):=fun wx hx=>
  let h:=(hw.below hx).cells; ⟨h.2.1,h.2.2.1,h.2.2.2.1,h.2.2.2.2.1,h.2.2.2.2.2.1,h.2.2.2.2.2.2.1⟩
 have hbs:b<w.heap.size:=lt_of_blk hw.blk
 obtain ⟨c1,c2,c3,c4,c5,c6⟩:=hblk w (Below.refl _ _)
 have HS:Hid (∀ wx,Below (w.heap.size+1) (w.alloc (.cells #[.int .i64 0,.int .i64 0,.int .i64 0,.int .i64 0,.int .i64 0,.int .i64 0,.int .i64 0] 123)) wx→Calls Tryz.prog 87 #[.pointer (some ⟨b,0,none⟩),va] wx fun e w'=>e=.returned (.int .i64 (stateL code x CH SRC M)) ∧
   (w'.cell? ⟨b,1,none⟩=some (.int .i64 x.place)∧w'.cell? ⟨b,2,none⟩=some (.int .i64 (x.r 0))∧w'.cell? ⟨b,3,none⟩=some (.int .i64 (x.r 1))∧w'.cell? ⟨b,4,none⟩=some (.int .i64 (x.r 2))∧w'.cell? ⟨b,5,none⟩=some (.int .i64 (x.r 3))∧w'.cell? ⟨b,6,none⟩=some (.int .i64 x.steps)) ∧
   w'.heap[w.heap.size]? = some (.cells #[.int .i64 0,.int .i64 0,.int .i64 0,.int .i64 0,.int .i64 0,.int .i64 0,.int .i64 0] 123 (0,0)) ∧
   Below w.heap.size w w'):=fun wx hx=>(wstate_calls (hw.below (below_box hx)) (he.below (below_box hx)) hc).mono fun e w' h=>by
  have hx':=hx.trans (h.2.mono (by have:=hx.size;simpa using this))
  refine ⟨h.1,hblk w' (below_box hx'),?_,below_box hx'⟩
  rw [hx'.block _ (by omega)]
  exact heap_alloc_new _ _
 clear hblk hw he hc
 subst hva
 obtain ⟨p,hp⟩:∃ p:Int,p=x.place:=⟨_,rfl⟩
 have HV:Hid (lookVal x (stateL code x CH SRC M)=.agg #[.int .i64 x.place,.int .i64 (x.r 0),.int .i64 (x.r 1),.int .i64 (x.r 2),.int .i64 (x.r 3),.int .i64 x.steps,.int .i64 (stateL code x CH SRC M)]):=rfl
 generalize (stateL code x CH SRC M:Int)=sv at *
 generalize x.r 0=r0 at *
 generalize x.r 1=r1 at *
 generalize x.r 2=r2 at *
 generalize x.r 3=r3 at *
 generalize x.steps=sp at *
 have n0:=World.new_ne w _ c1
 go_enter Tryz.func85,Tryz.ntmps85
 go_wp2
 have hb0:Below (w.heap.size+1) (w.alloc (.cells #[.int .i64 0,.int .i64 0,.int .i64 0,.int .i64 0,.int .i64 0,.int .i64 0,.int .i64 0] 123)) (w.alloc (.cells #[.int .i64 0,.int .i64 0,.int .i64 0,.int .i64 0,.int .i64 0,.int .i64 0,.int .i64 0] 123)):=Below.refl _ _
 go_region_held3 (fun w'=>w'.cell? ⟨b,1,none⟩=some (.int .i64 x.place)∧w'.cell? ⟨b,2,none⟩=some (.int .i64 r0)∧w'.cell? ⟨b,3,none⟩=some (.int .i64 r1)∧w'.cell? ⟨b,4,none⟩=some (.int .i64 r2)∧w'.cell? ⟨b,5,none⟩=some (.int .i64 r3)∧w'.cell? ⟨b,6,none⟩=some (.int .i64 sp)) (go_keep)
  ((go_at_call 87;refine (unhide HS _ ?_).mono ?_; (repeat (first | exact hb0 | apply Below.drew | apply below_drewN));rintro e w1 ⟨rfl,⟨s1,s2,s3,s4,s5,s6⟩,t0,hb1⟩;have z0:=blk_cell t0 0 _ rfl;have z1:=blk_cell t0 1 _ rfl;have z2:=blk_cell t0 2 _ rfl;have z3:=blk_cell t0 3 _ rfl;have z4:=blk_cell t0 4 _ rfl;have z5:=blk_cell t0 5 _ rfl;have z6:=blk_cell t0 6 _ rfl))
 go_wp2
 refine bodyPost_ret (v:=.agg #[.int .i64 x.place,.int .i64 r0,.int .i64 r1,.int .i64 r2,.int .i64 r3,.int .i64 sp,.int .i64 sv]) ?_ rfl ⟨by rw [HV.out],?_⟩
 ·simp [results,Tryz.results85,go_sem,z0,z1,z2,z3,z4,z5,z6]
 ·exact below_set7 hb1 _ _ _ _ _ _ _
set_option maxRecDepth 100000 in
theorem refNumber_out (s:ByteArray) (k:Int) (w:World) (h:k<0∨(0≤k∧(s.size:Int)<k+8)) (hk:k≤1099511627776000) :
  Calls Tryz.prog 91 #[.string s,.int .i64 k] w fun e w'=>e=.returned (.tuple #[.int .i64 0,.int .i64 (-1)])∧w'=w:=by
 rcases h with h | ⟨h0,h1⟩
 ·have q:decide (k<0)=true:=by simpa using h
  go_enter Tryz.func91,Tryz.ntmps91
  go_wp2
  go_ret2
  exact ⟨rfl,rfl⟩
 ·have q:decide (k<0)=false:=by simpa using h0
  have wr1:wrap64 (k+8)=k+8:=by unfold wrap64;omega
  go_enter Tryz.func91,Tryz.ntmps91
  go_wp2
  go_ret2
  exact ⟨rfl,rfl⟩
theorem ofInt_wrap (z:Int):BitVec.ofInt 64 (wrap64 z)=BitVec.ofInt 64 z:=by
 apply BitVec.eq_of_toNat_eq
 simp only [BitVec.toNat_ofInt]
 unfold wrap64
 congr 1
 omega
theorem or_low_i (a b:Int) (ha:0≤a) (ha1:a<72057594037927936) (hb:0≤b) (hb1:b<256):bits .or .i64 (wrap64 (a*256)) b=wrap64 (a*256+b):=by
 have h:=or_low a b ha ha1 hb hb1
 have e:bits .or .i64 (wrap64 (a*256)) b=IntKind.i64.wrap (((BitVec.ofInt 64 (wrap64 (a*256)) ||| BitVec.ofInt 64 b).toNat:Nat):Int):=rfl
 have e2:bits .or .u64 (a*256) b=IntKind.u64.wrap (((BitVec.ofInt 64 (a*256) ||| BitVec.ofInt 64 b).toNat:Nat):Int):=rfl
 rw [e2,wrap_u64] at h
 have hlt:(BitVec.ofInt 64 (a*256) ||| BitVec.ofInt 64 b).toNat<18446744073709551616:=(BitVec.ofInt 64 (a*256) ||| BitVec.ofInt 64 b).isLt
 rw [e,ofInt_wrap]
 generalize (BitVec.ofInt 64 (a*256) ||| BitVec.ofInt 64 b).toNat=t at *
 have:(t:Int)=a*256+b:=by omega
 rw [this,IntKind.wrap_i64]
 unfold wrap64
 omega
def bytesL (s:ByteArray):List Int:=s.data.toList.map fun x=>(x.toNat:Int)
theorem bytesL_length (s:ByteArray):(bytesL s).length=s.size:=by unfold bytesL;rw [List.length_map,Array.length_toList];rfl
theorem bytesL_bd (s:ByteArray):∀ x∈bytesL s,0≤x∧x<256:=fun x hx=>by
 obtain ⟨y, -,rfl⟩:=List.mem_map.1 hx
 have:=y.toNat_lt
 omega
theorem bytesL_get (s:ByteArray) (i:Nat) (h:i<s.size):((s[i]'h).toNat:Int)=(bytesL s).getD i 0:=by
 have h':i<s.data.toList.length:=by rw [Array.length_toList];exact h
 simp only [bytesL,List.getD,List.getElem?_map,List.getElem?_eq_getElem h',Option.map_some,Option.getD_some]
 rfl
theorem eightB_of (b0 b1 b2 b3 b4 b5 b6 b7:Int) (h0:0≤b0∧b0<256) (h1:0≤b1∧b1<256) (h2:0≤b2∧b2<256) (h3:0≤b3∧b3<256) (h4:0≤b4∧b4<256) (h5:0≤b5∧b5<256) (h6:0≤b6∧b6<256) (h7:0≤b7∧b7<256) :
  ∃ x,Fits64 x∧eightB x=[b0,b1,b2,b3,b4,b5,b6,b7]:=by
 obtain ⟨u,hu⟩:∃ u,u=b0*72057594037927936+b1*281474976710656+b2*1099511627776+b3*4294967296+b4*16777216+b5*65536+b6*256+b7:=⟨_,rfl⟩
 refine ⟨wrap64 u,by unfold Fits64 wrap64;omega,?_⟩
 have e:wrap64 u%18446744073709551616=u:=by unfold wrap64;omega
 simp only [eightB,byteAt,e,List.range,List.range.loop,List.map_cons,List.map_nil,Nat.reduceMul,Nat.reduceSub,Int.reducePow]
 refine List.cons_eq_cons.2 ⟨by omega,List.cons_eq_cons.2 ⟨by omega,List.cons_eq_cons.2 ⟨by omega,List.cons_eq_cons.2 ⟨by omega,List.cons_eq_cons.2 ⟨by omega,List.cons_eq_cons.2 ⟨by omega,List.cons_eq_cons.2 ⟨by omega,List.cons_eq_cons.2 ⟨by omega,rfl⟩⟩⟩⟩⟩⟩⟩⟩
theorem bytes_split:∀ (n:Nat) (b:List Int),b.length≤n→(∀ x∈b,0≤x∧x<256)→∃ l rs,b=bytesOf l++rs∧rs.length<8∧∀ x∈l,Fits64 x
 | 0,b,hn,_=>⟨[],b,rfl,by omega,fun x hx=>by cases hx⟩
 | n+1,b,hn,hb=>by
  match b,hn,hb with
  | b0::b1::b2::b3::b4::b5::b6::b7::b',hn,hb=>
   obtain ⟨l,rs,e,h8,hf⟩:=bytes_split n b' (by simp at hn;omega) fun x hx=>hb x (by simp [hx])
   obtain ⟨x,hx,ex⟩:=eightB_of b0 b1 b2 b3 b4 b5 b6 b7 (hb _ (by simp)) (hb _ (by simp)) (hb _ (by simp)) (hb _ (by simp)) (hb _ (by simp)) (hb _ (by simp)) (hb _ (by simp)) (hb _ (by simp))
   refine ⟨x::l,rs,?_,h8,fun y hy=>?_⟩
   ·rw [bytesOf_cons,ex,e];rfl
   ·rcases List.mem_cons.1 hy with rfl | hy
    ·exact hx
    ·exact hf y hy
  | [],_,_=>exact ⟨[],[],rfl,by decide,fun x hx=>by cases hx⟩
  | [a],_,_=>exact ⟨[],[a],rfl,by simp only [List.length_cons,List.length_nil];omega,fun x hx=>by cases hx⟩
  | [a,b],_,_=>exact ⟨[],[a,b],rfl,by simp only [List.length_cons,List.length_nil];omega,fun x hx=>by cases hx⟩
  | [a,b,c],_,_=>exact ⟨[],[a,b,c],rfl,by simp only [List.length_cons,List.length_nil];omega,fun x hx=>by cases hx⟩
  | [a,b,c,d],_,_=>exact ⟨[],[a,b,c,d],rfl,by simp only [List.length_cons,List.length_nil];omega,fun x hx=>by cases hx⟩
  | [a,b,c,d,e],_,_=>exact ⟨[],[a,b,c,d,e],rfl,by simp only [List.length_cons,List.length_nil];omega,fun x hx=>by cases hx⟩
  | [a,b,c,d,e,f],_,_=>exact ⟨[],[a,b,c,d,e,f],rfl,by simp only [List.length_cons,List.length_nil];omega,fun x hx=>by cases hx⟩
  | [a,b,c,d,e,f,g],_,_=>exact ⟨[],[a,b,c,d,e,f,g],rfl,by simp only [List.length_cons,List.length_nil];omega,fun x hx=>by cases hx⟩
structure StrIs (s:ByteArray) (l rs:List Int):Prop where
 eq:bytesL s=bytesOf l++rs
 short:rs.length<8
 fits:∀ x∈l,Fits64 x
theorem str_is (s:ByteArray):∃ l rs,StrIs s l rs:=by
 obtain ⟨l,rs,h1,h2,h3⟩:=bytes_split _ _ (Nat.le_refl _) (bytesL_bd s)
 exact ⟨l,rs,h1,h2,h3⟩
theorem StrIs.size {s:ByteArray} {l rs:List Int} (h:StrIs s l rs):s.size=8*l.length+rs.length:=by
 rw [← bytesL_length,h.eq,List.length_append,bytesOf_length]
theorem bytesOf_getD (l rs:List Int) (k j:Nat) (hk:k<l.length) (hj:j<8):(bytesOf l++rs).getD (8*k+j) 0=byteAt (l.getD k 0) (56-8*j):=by
 have e:l=l.take k++l[k]::l.drop (k+1):=by rw [← List.drop_eq_getElem_cons hk,List.take_append_drop]
 have e2:bytesOf l=bytesOf (l.take k)++(eightB l[k]++bytesOf (l.drop (k+1))):=by
  conv=>lhs;rw [e,bytesOf_append,bytesOf_cons]
 have hl:(bytesOf (l.take k)).length=8*k:=by rw [bytesOf_length,List.length_take];omega
 rw [e2,List.append_assoc, ← hl,getD_append_right,List.append_assoc,getD_append_left _ _ _ _ (by rw [eightB_length];exact hj),eightB_getD _ _ hj,getD_eq _ _ _ hk]
def atN (L k:Nat):Int:=if k≤L then 8*k else -1
set_option maxRecDepth 100000 in
set_option maxHeartbeats 2000000 in
theorem refNumber_in {s:ByteArray} {l rs:List Int} (h:StrIs s l rs) (k:Nat) (hk:k<l.length) (hl:l.length≤4398046511104) (w:World) :
  Calls Tryz.prog 91 #[.string s,.int .i64 (8*k:Int)] w fun e w'=>e=.returned (.tuple #[.int .i64 (l.getD k 0),.int .i64 (8*k+8:Int)])∧w'=w:=by
 have hsz:=h.size
 have hfx:Fits64 (l.getD k 0):=by rw [getD_eq _ _ _ hk];exact h.fits _ (List.getElem_mem hk)
 have HI:Hid (∀ j (hj:j<8) (hi:8*k+j<s.size),((s[8*k+j]'hi).toNat:Int)=byteAt (l.getD k 0) (56-8*j)):=fun j hj hi=>by
  rw [bytesL_get,h.eq,bytesOf_getD _ _ _ _ hk hj]
 have q0:decide ((8*k:Int)<0)=false:=by simp;omega
 have wr1:wrap64 (8*k+8:Int)=8*k+8:=by unfold wrap64;omega
 have q1:¬ ((s.size:Int)<8*k+8):=by omega
 have hk0:(0:Int)≤8*(k:Int):=by omega
 have hk1:(8*(k:Int))+8≤(s.size:Int):=by omega
 obtain ⟨x,hx⟩:∃ x,x=l.getD k 0:=⟨_,rfl⟩
 rw [← hx] at hfx HI ⊢
 have hu0:(0:Int)≤x%18446744073709551616:=by omega
 have hu1:x%18446744073709551616<18446744073709551616:=by omega
 have HB:Hid (∀ j,byteAt x (56-8*j)=x%18446744073709551616 / 2^(56-8*j)%256):=fun j=>rfl
 have HE:Hid (wrap64 (accN (x%18446744073709551616) 8)=x):=by
  unfold Hid accN wrap64
  simp
  obtain ⟨q1,q2⟩:=hfx
  omega
 have H0:Hid (wrap64 (accN (x%18446744073709551616) 0)=0):=by
  unfold Hid accN wrap64
  simp
  omega
 clear h hfx hx hsz
 generalize x%18446744073709551616=u at *
 go_enter Tryz.func91,Tryz.ntmps91
 go_wp2
 go_loopw [6,7] (fun v i wr=>∃ j:Nat,j≤8∧i=.int .i64 j∧v=.int .i64 (wrap64 (accN u j))∧wr=w) (fun _ i _=>8-(intOf i).toNat)
 case atStart=>exact ⟨0,by omega,rfl,by rw [H0.out],rfl⟩
 case round=>
  obtain ⟨j,hj,rfl,rfl,hwr⟩:=hrel
  subst hwr
  by_cases hlt:j<8
  ·have hi0:8*k+j<s.size:=by omega
   have hb:=HI.out j hlt hi0
   have hst:=accN_step u j hlt
   rw [← HB.out j] at hst
   obtain ⟨ha0,ha1⟩:=accN_bd u j hu0 hu1 hlt
   obtain ⟨hb0,hb1⟩:=byteAt_bd x (56-8*j)
   have hor:=or_low_i (accN u j) (byteAt x (56-8*j)) ha0 ha1 hb0 hb1
   have wr2:wrap64 (8*(k:Int)+j)=((8*k+j:Nat):Int):=by unfold wrap64;omega
   have hsh:wrap64 (wrap64 (accN u j)*256)=wrap64 (accN u j*256):=by unfold wrap64;omega
   have HST:=hide hst
   clear hst HB HI
   generalize byteAt x (56-8*j)=bt at *
   generalize accN u j=ac at *
   go_wp2
   go_roundw
   case rel=>exact ⟨j+1,by omega,by go_num,by rw [HST.out],by first | rfl | trivial⟩
   case measure=>simp [intOf];omega
  ·have hj8:j=8:=by omega
   subst hj8
   rw [HE.out]
   go_wp2
   go_ret2
   exact ⟨rfl,rfl⟩
theorem refNumber_calls {s:ByteArray} {l rs:List Int} (h:StrIs s l rs) (k:Nat) (hl:l.length≤4398046511104) (w:World) :
  Calls Tryz.prog 91 #[.string s,.int .i64 (atN l.length k)] w fun e w'=>e=.returned (.tuple #[.int .i64 (l.getD k 0),.int .i64 (atN l.length (k+1))])∧w'=w:=by
 have hsz:=h.size
 have hsh:=h.short
 rcases Nat.lt_or_ge k l.length with hk | hk
 ·have e1:atN l.length k=8*k:=by unfold atN;rw [if_pos (by omega)]
  have e2:atN l.length (k+1)=8*k+8:=by unfold atN;rw [if_pos (by omega)];omega
  rw [e1,e2]
  exact refNumber_in h k hk hl w
 ·have e2:atN l.length (k+1) = -1:=by unfold atN;rw [if_neg (by omega)]
  have e3:l.getD k 0=0:=by simp [List.getD,List.getElem?_eq_none hk]
  rw [e2,e3]
  refine refNumber_out s _ w ?_ ?_
  ·unfold atN;split<;>omega
  ·unfold atN;split<;>omega
structure BentAt (w0:World) (bb n:Nat) (wr:World):Prop where
 cells:∃ f:Nat→Int,∀ j,j<n→(wr.cell? ⟨bb,j,none⟩=some (.int .u8 (f j))∧wr.frozen? ⟨bb,j,none⟩=false)∧0≤f j∧f j<256
 below:Below w0.heap.size w0 wr
 ge:w0.heap.size≤bb
theorem bent_start (w:World) (s:ByteArray):BentAt w w.heap.size s.size (Lib.bytesWorld w 5 s):=by
 refine ⟨⟨fun j=>((s.data.toList.getD j 0).toNat:Int),fun j hj=>⟨⟨Lib.bytesWorld_cell w _ s j hj,?_⟩,?_⟩⟩,⟨rfl,rfl,rfl,by rw [Lib.bytesWorld_size];omega,fun b hb=>Lib.bytesWorld_at_old w _ s b hb⟩,Nat.le_refl _⟩
 ·have hsz:s.size≤(Lib.bytesCells w 5 s).size:=by
   simp only [Lib.bytesCells,Array.size_append,Array.size_map]
   exact Nat.le_add_right _ _
  simp only [World.frozen?,Lib.bytesWorld_at_new]
  simp
  omega
 ·have:=(s.data.toList.getD j 0).toNat_lt
  dsimp only
  omega
theorem BentAt.set {w0 wr:World} {bb n:Nat} (h:BentAt w0 bb n wr) {i:Nat} (hi:i<n) (v:Int) (h0:0≤v) (h1:v<256):BentAt w0 bb n (wr.setCell ⟨bb,i,none⟩ (.int .u8 v)):=by
 obtain ⟨f,hf⟩:=h.cells
 refine ⟨⟨fun j=>if j=i then v else f j,fun j hj=>?_⟩,h.below.setCell (p:=⟨bb,i,none⟩) h.ge _,h.ge⟩
 obtain ⟨⟨c1,c2⟩,c3,c4⟩:=hf j hj
 have hfr:(wr.setCell ⟨bb,i,none⟩ (.int .u8 v)).frozen? ⟨bb,j,none⟩=false:=by
  rw [← c2];exact World.frozen?_setCell _ _ _ _
 by_cases e:j=i
 ·subst e
  simp only [if_true]
  exact ⟨⟨World.cell?_setCell_same _ _ _ c1,hfr⟩,h0,h1⟩
 ·simp only [e,if_false]
  exact ⟨⟨by rw [World.cell?_setCell_other _ _ _ _ (fun e'=>e (by injection e' with _ e2;exact e2.symm)),c1],hfr⟩,c3,c4⟩
theorem BentAt.drewN {w0 wr:World} {bb n:Nat} (h:BentAt w0 bb n wr) (q:Nat):BentAt w0 bb n (wr.drewN q):=⟨h.cells,below_drewN h.below q,h.ge⟩
theorem BentAt.conv {w0 wr:World} {bb n cap:Nat} (h:BentAt w0 bb n wr):∃ t:ByteArray,t.size=n∧(convert 100 9 (.slice (some ⟨bb,0,none⟩) n cap)).run Tryz.prog wr=.ok (.string t) wr:=by
 obtain ⟨f,hf⟩:=h.cells
 refine ⟨strOfNums ((List.range n).map f),by rw [strOfNums_size];simp,?_⟩
 refine run_convert_bytes_arg wr 100 5 Tryz.underlying100 Tryz.underlying5 bb 0 n cap _ (by simp) (fun i hi=>?_) 9 Tryz.underlying9
 rw [Nat.zero_add,(hf i hi).1.1]
 simp [List.getD,hi]
set_option maxRecDepth 100000 in
set_option maxHeartbeats 4000000 in
theorem bent_calls (s t:ByteArray) (at_:Int) (hs:s.size≤70368744177664) (ht:t.size≤1048576) (w:World) :
  Calls Tryz.prog 77 #[.string s,.string t,.int .i64 at_] w fun e w'=>∃ r:ByteArray,r.size=s.size∧e=.returned (.string r)∧Below w.heap.size w w':=by
 have hcv:(convert 9 100 (.string s)).run Tryz.prog w=.ok (.slice (some ⟨w.heap.size,0,none⟩) s.size (grownCap w s.size 0 5)) (Lib.bytesWorld w 5 s):=Lib.run_convert_string_bytes w _ _ _ s Tryz.underlying9 Tryz.underlying100 Tryz.underlying5
 have hcap:=grownCap_ge w s.size 0 5
 have H0:=hide (bent_start w s)
 generalize grownCap w s.size 0 5=cap at *
 generalize Lib.bytesWorld w 5 s=w1 at *
 go_enter Tryz.func77,Tryz.ntmps77
 go_wp2
 generalize hbb:w.heap.size=bb at *
 clear hcv
 go_loopw [8] (fun i wr=>∃ j:Nat,j≤t.size∧i=.int .i64 j∧BentAt w bb s.size wr) (fun i _=>t.size-(intOf i).toNat)
 case atStart=>exact ⟨0,Nat.zero_le _,rfl,H0.out⟩
 case round=>
  clear H0
  obtain ⟨j,hj,rfl,hb⟩:=hrel
  by_cases hgo:j<t.size∧0<s.size
  ·obtain ⟨h1,h2⟩:=hgo
   have hj1:decide ((j:Int)<(t.size:Int))=true:=by simp;omega
   have hj2:decide ((0:Int)<(s.size:Int))=true:=by simp;omega
   have hj0:(0:Int)≤(j:Int):=by omega
   have hjl:(j:Int)<(t.size:Int):=by omega
   obtain ⟨f,hf⟩:=hb.cells
   have HSt:Hid (∀ i,i<s.size→∀ v,0≤v→v<256→BentAt w bb s.size ((wr.setCell ⟨bb,i,none⟩ (.int .u8 v)).drewN 1)):=fun i hi v h0 h1=>(hb.set hi v h0 h1).drewN 1
   have HF:=hide hf
   clear hb hf
   obtain ⟨k0,hk0⟩:∃ k0,k0=wrap64 (at_+(j:Int)):=⟨_,rfl⟩
   have hk1 : -9223372036854775808≤k0∧k0≤9223372036854775807:=by rw [hk0];unfold wrap64;omega
   have hk2:wrap64 (at_+(j:Int))=k0:=hk0.symm
   clear hk0
   obtain ⟨hk3,hk4⟩:=hk1
   obtain ⟨K,hK⟩:∃ K:Nat,(K:Int)=if k0<0 then -(k0+1) else k0:=⟨(if k0<0 then -(k0+1) else k0).toNat,by split<;>omega⟩
   have hkl:K%s.size<s.size:=Nat.mod_lt _ h2
   obtain ⟨⟨c1,c2⟩,c3,c4⟩:=HF.out _ hkl
   have hrem:IntKind.i64.wrap ((K:Int).tmod (s.size:Int))=((K%s.size:Nat):Int):=by
    have e:(K:Int).tmod (s.size:Int)=((K%s.size:Nat):Int):=by rw [Int.tmod_eq_emod_of_nonneg (by omega)];omega
    rw [e,IntKind.wrap_i64];omega
   obtain ⟨tb,htb⟩:∃ tb:Int,tb=((t[j]'h1).toNat:Int):=⟨_,rfl⟩
   have hrem2:(K:Int).tmod (s.size:Int)=((K%s.size:Nat):Int):=by rw [Int.tmod_eq_emod_of_nonneg (by omega)];omega
   have hsn:¬ (s.size:Int)=0:=by omega
   have hse:¬ s=ByteArray.empty:=fun e=>by rw [e] at h2;exact absurd h2 (by decide)
   have HSt1:=hide (HSt.out _ hkl)
   generalize hkk:K%s.size=kk at *
   have hkk0:(0:Int)≤(kk:Int):=by omega
   have hkk1:(kk:Int)<(s.size:Int):=by omega
   generalize f kk=fk at *
   have hcl:=lt_of_cell c1
   clear HF HSt hkk
   by_cases hneg:k0<0
   ·rw [if_pos hneg] at hK
    have hw1:wrap64 (k0+1)=k0+1:=by unfold wrap64;omega
    have hw2:wrap64 (-(k0+1)) = -(k0+1):=by unfold wrap64;omega
    have HK:=hide hK
    clear hK
    go_upto_region 8 with fail
    rw [← HK.out]
    refine wp_region_still_tail 12 Tryz.mixed (by kernel_rfl) ?_
    simp only [List.take_succ_cons,List.take_zero,List.drop_succ_cons,List.drop_zero]
    iterate 12 still_step
    refine wpStill_nil ?_
    show wpList _ _ _ _ _ wr.drew
    go_wp2
    go_roundw
    case rel=>exact ⟨j+1,by omega,by go_num,HSt1.out _ (by omega) (by omega)⟩
    case measure=>simp [intOf];omega
   ·rw [if_neg hneg] at hK
    have HK:=hide hK
    clear hK
    go_upto_region 8 with fail
    rw [hk2, ← HK.out]
    refine wp_region_still_tail 12 Tryz.mixed (by kernel_rfl) ?_
    simp only [List.take_succ_cons,List.take_zero,List.drop_succ_cons,List.drop_zero]
    iterate 12 still_step
    refine wpStill_nil ?_
    show wpList _ _ _ _ _ wr.drew
    go_wp2
    go_roundw
    case rel=>exact ⟨j+1,by omega,by go_num,HSt1.out _ (by omega) (by omega)⟩
    case measure=>simp [intOf];omega
  ·obtain ⟨r,hr,hcv⟩:=hb.conv (cap:=cap)
   have HB:Hid (Below bb w wr):=by unfold Hid;rw [← hbb];exact hb.below
   clear hb
   by_cases h1:j<t.size
   ·have hj1:decide ((j:Int)<(t.size:Int))=true:=by simp;omega
    have hj2:decide ((0:Int)<(s.size:Int))=false:=by
     have:¬ 0<s.size:=fun h'=>hgo ⟨h1,h'⟩
     exact decide_eq_false (by omega)
    have hjl:(j:Int)<(t.size:Int):=by omega
    go_wp2
    go_ret
    exact ⟨r,hr,rfl,by first | exact HB.out | (rw [hbb];exact HB.out)⟩
   ·have hj1:decide ((j:Int)<(t.size:Int))=false:=by simp;omega
    have hjl:¬ (j:Int)<(t.size:Int):=by omega
    go_wp2
    go_ret
    exact ⟨r,hr,rfl,HB.out⟩
end Go.Proofs.YthfdgdfnflilfaaGreatDoor

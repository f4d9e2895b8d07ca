/- Part 14: Save2, Load1, Load2, Load3, Load4, Load5. -/
import Derived.Lib.EndianBits
import Derived.Laws.Bits64b
import Derived.Deep.RegionHeld3
import Derived.Test.YthfdgdfnflilfaaGreatDoorPart13
namespace Go.Proofs.YthfdgdfnflilfaaGreatDoor
open Go.RowKit Go.Conc
def wkNums (x:Wk):List Int:=[(x.place:Int),x.r 0,x.r 1,x.r 2,x.r 3,x.steps]
def stNums (sourced:Bool) (m:Sm):List Int:=if sourced then [(m.read:Int)] else [(m.room:Int),(m.read:Int),(m.words.length:Int)]++m.words
theorem SvAt.below {B:Nat} {w w':World} {v:Value} {s:List Int} (h:SvAt B w v s) (hb:Below w.heap.size w w'):SvAt B w' v s:=own_of_blockB h fun g hg=>by
 obtain ⟨cur,hc⟩:=own_blockB h hg
 exact hb.block g (lt_of_blk hc)
theorem SvAt.lt {B:Nat} {w:World} {v:Value} {s:List Int} (h:SvAt B w v s) {g:Nat} (hg:v.ownBlock=some g):g<w.heap.size∧B≤g:=by
 obtain ⟨cur,hc⟩:=own_blockB h hg
 exact ⟨lt_of_blk hc,own_baseB h hg⟩
theorem SvAt.ne {B:Nat} {w:World} {v:Value} {s:List Int} (h:SvAt B w v s) {b:Nat} {c:Array Value} {t:TypeId} {f:Nat×Nat} (hb:w.heap[b]? = some (.cells c t f)) (ht:t≠5):v.ownBlock≠some b:=fun e=>by
 obtain ⟨cur,hc⟩:=own_blockB h e
 exact ne_of_types hb hc ht rfl
theorem SvAt.ne_chan {B:Nat} {w:World} {v:Value} {s:List Int} (h:SvAt B w v s) {b cap:Nat} {buf:Array Value} {cl tm:Bool} {x y:Nat} (hb:w.heap[b]? = some (.chan cap buf cl x y tm)):v.ownBlock≠some b:=fun e=>by
 obtain ⟨cur,hc⟩:=own_blockB h e
 exact ne_of_chan hc hb rfl
theorem Wrote.of_alloc {B:Nat} {w w':World} {o:Obj} {v v':Value} {s:List Int} (h:Wrote B (w.alloc o) v s v' w'):Wrote B w v s v' w':=
 ⟨h.at',(Fr.of_below ((Below.refl _ _).alloc (Nat.le_refl _) o)).trans h.fr fun _ _ e=>e,fun g hg=>by
  rcases h.own g hg with h1 | h1
  ·exact Or.inl h1
  ·exact Or.inr (by simp at h1;omega)⟩
theorem Wrote.of_draw {B:Nat} {w w':World} {q:Nat} {v v':Value} {s:List Int} (h:Wrote B (w.drewN q) v s v' w'):Wrote B w v s v' w':=
 ⟨h.at',⟨h.fr.os,h.fr.tape,h.fr.output,h.fr.size,h.fr.block⟩,h.own⟩
theorem ints_new {w:World} {l:List Int} (hl:l.length≤1000):IntsAt (w.alloc (.cells (intRow l).toArray 3)) (.slice (some ⟨w.heap.size,0,none⟩) l.length l.length) l:=by
 refine ⟨_,_,rfl,by omega,Nat.le_refl _,Or.inr ⟨w.heap.size,0,rfl,fun i hi j hj=>?_⟩⟩
 have hj0:j=0:=by omega
 subst hj0
 have:=row_cell (i:=i) (v:=.int .i64 (l.getD i 0)) (heap_alloc_new w (.cells (intRow l).toArray 3)) (by rw [intRow_get _ _ hi,getD_eq _ _ _ hi])
 simpa using this
theorem append_new {B:Nat} {w:World} {v:Value} {s:List Int} (l:List Int) (hl:l.length≤1000) (hB:B≤w.heap.size) (hs:SvAt B w v s) (hlen:s.length≤52776558133248) :
  Calls Tryz.prog 88 #[v,.slice (some ⟨w.heap.size,0,none⟩) l.length l.length] (w.alloc (.cells (intRow l).toArray 3)) fun e w'=>∃ v',e=.returned v'∧Wrote B w v (s++bytesOf l) v' w':=by
 have hb:Below w.heap.size w (w.alloc (.cells (intRow l).toArray 3)):=(Below.refl _ _).alloc (Nat.le_refl _) _
 refine (append_calls (by simp;omega) (hs.below hb) (ints_new hl) (fun g hg e=>?_) (by omega)).mono fun e w' ⟨v',h1,h2⟩=>⟨v',h1,h2.of_alloc⟩
 have:=(hs.lt hg).1
 have:w.heap.size=g:=by simpa [Value.ownBlock] using e
 omega
set_option maxRecDepth 100000 in
set_option maxHeartbeats 2000000 in
theorem wsave_calls {w:World} {b:Nat} {vc:Value} {code:List Ins} {x:Wk} (hw:WkAt w b vc code x) {B:Nat} {v:Value} {s:List Int} (hB:B≤w.heap.size) (hs:SvAt B w v s) (hlen:s.length≤35184372088832) :
  Calls Tryz.prog 72 #[.pointer (some ⟨b,0,none⟩),v] w fun e w'=>∃ v',e=.returned v'∧Wrote B w v (s++bytesOf (wkNums x)) v' w':=by
 obtain ⟨-,c1, -⟩:=hw.cells
 have HA1:Hid (Calls Tryz.prog 88 #[v,.slice (some ⟨w.heap.size,0,none⟩) 1 1] (w.alloc (.cells #[.int .i64 x.place] 3)) fun e w'=>∃ v',e=.returned v'∧Wrote B w v (s++bytesOf [(x.place:Int)]) v' w'):=append_new [(x.place:Int)] (by simp) hB hs (by omega)
 have HA2:Hid (∀ v1 w1,Wrote B w v (s++bytesOf [(x.place:Int)]) v1 w1→Calls Tryz.prog 88 #[v1,.slice (some ⟨b,2,none⟩) 4 4] w1 fun e w'=>∃ v',e=.returned v'∧Wrote B w v (s++bytesOf [(x.place:Int)]++bytesOf [x.r 0,x.r 1,x.r 2,x.r 3]) v' w'):=fun v1 w1 h1=>by
  have hw1:WkAt w1 b vc code x:=hw.stays fun y hy=>by
   have hyb:∃ c t f,w.heap[y]? = some (.cells c t f)∧t≠5:=by
    rcases hy with rfl | hy
    ·exact ⟨_,_,_,hw.blk,by decide⟩
    ·obtain ⟨cur,hc⟩:=own_block hw.own hy;exact ⟨_,_,_,hc,by decide⟩
   obtain ⟨c,t,f,hc,ht⟩:=hyb
   exact h1.fr.block y (lt_of_blk hc) (hs.ne hc ht)
  obtain ⟨-, -,d2,d3,d4,d5, -⟩:=hw1.cells
  have hi:IntsAt w1 (.slice (some ⟨b,2,none⟩) 4 4) [x.r 0,x.r 1,x.r 2,x.r 3]:=by
   refine ⟨_,_,rfl,by simp,by simp,Or.inr ⟨b,2,rfl,fun i hi j hj=>?_⟩⟩
   have hi':i<4:=hi
   have hc:(i=0∨i=1∨i=2∨i=3)∧j=0:=by omega
   obtain ⟨rfl | rfl | rfl | rfl,rfl⟩:=hc
   ·exact d2
   ·exact d3
   ·exact d4
   ·exact d5
  refine (append_calls (Nat.le_trans hB h1.fr.size) h1.at' hi (fun g hg e=>?_) (by simp [bytesOf_length];omega)).mono fun e w' ⟨v',q1,q2⟩=>⟨v',q1,h1.trans q2⟩
  have:b=g:=by simpa [Value.ownBlock] using e
  subst this
  exact h1.at'.ne hw1.blk (by decide) hg
 have HA3:Hid (∀ v1 w1,Wrote B w v (s++bytesOf [(x.place:Int)]++bytesOf [x.r 0,x.r 1,x.r 2,x.r 3]) v1 w1→w1.cell? ⟨b,6,none⟩=some (.int .i64 x.steps)∧Calls Tryz.prog 88 #[v1,.slice (some ⟨w1.heap.size,0,none⟩) 1 1] (w1.alloc (.cells #[.int .i64 x.steps] 3)) fun e w'=>∃ v',e=.returned v'∧Wrote B w v (s++bytesOf (wkNums x)) v' w'):=fun v1 w1 h1=>by
  have e6:w1.cell? ⟨b,6,none⟩=some (.int .i64 x.steps):=by
   rw [← hw.cells.2.2.2.2.2.2.1]
   exact World.cell?_of_block (w:=w) (h1.fr.block b (lt_of_blk hw.blk) (hs.ne hw.blk (by decide)))
  refine ⟨e6,(append_new [x.steps] (by simp) (Nat.le_trans hB h1.fr.size) h1.at' (by simp [bytesOf_length];omega)).mono fun e w' ⟨v',q1,q2⟩=>⟨v',q1,?_⟩⟩
  have e:s++bytesOf [(x.place:Int)]++bytesOf [x.r 0,x.r 1,x.r 2,x.r 3]++bytesOf [x.steps]=s++bytesOf (wkNums x):=by simp [bytesOf,wkNums]
  rw [e] at q2
  exact h1.trans q2
 clear hs hw
 go_enter Tryz.func72,Tryz.ntmps72
 go_wp2_with fail
 refine (unhide HA1).mono ?_
 rintro e w1 ⟨v1,rfl,h1⟩
 have H1:=hide (HA2.out v1 w1 h1)
 clear h1 HA1 HA2
 go_wp2_with fail
 refine (unhide H1).mono ?_
 rintro e w2 ⟨v2,rfl,h2⟩
 obtain ⟨c6,h3⟩:=HA3.out v2 w2 h2
 have H3:=hide h3
 clear h2 HA3 H1 h3
 go_wp2_with fail
 refine (unhide H3).mono ?_
 rintro e w3 ⟨v3,rfl,h4⟩
 have H4:=hide h4
 clear h4 H3
 go_wp2
 go_ret
 exact ⟨v3,rfl,H4.out⟩
def BytesAt (w:World) (v:Value) (l:List Int):Prop:=Sl w v l.length 1 fun i _=>.int .u8 (l.getD i 0)
structure RdAt (rs:List Int) (B:Nat) (w:World) (rb:Nat) (l:List Int):Prop where
 blk:∃ v,w.heap[rb]? = some (.cells #[v] 158 (0,0))∧BytesAt w v (bytesOf l++rs)∧∀ g,v.ownBlock=some g→g<B
 ge:B≤rb
 small:l.length≤4398046511104
 short:rs.length<8
variable {rs:List Int}
theorem RdAt.keep {B:Nat} {w w':World} {rb:Nat} {l:List Int} (h:RdAt rs B w rb l) (hb:Below B w w') (hr:w'.heap[rb]? = w.heap[rb]?):RdAt rs B w' rb l:=by
 obtain ⟨v,h1,⟨a,cap,hv,hn,hcap,hc⟩,h3⟩:=h.blk
 refine ⟨⟨v,hr.trans h1,⟨a,cap,hv,hn,hcap,?_⟩,h3⟩,h.ge,h.small,h.short⟩
 rcases hc with hc | ⟨b,off,ha,hc⟩
 ·exact Or.inl hc
 ·refine Or.inr ⟨b,off,ha,fun i hi j hj=>?_⟩
  rw [← hc i hi j hj]
  exact hb.cell (p:=⟨b,_,none⟩) (h3 b (by rw [hv,ha];rfl))
def Fits64 (x:Int):Prop := -9223372036854775808≤x∧x≤9223372036854775807
theorem getD_append_left {α : Type} (a b:List α) (i:Nat) (d : α) (h:i<a.length):(a++b).getD i d=a.getD i d:=by simp only [List.getD,List.getElem?_append_left h]
theorem getD_append_right {α : Type} (a b:List α) (i:Nat) (d : α):(a++b).getD (a.length+i) d=b.getD i d:=by simp only [List.getD];rw [List.getElem?_append_right (by omega),Nat.add_sub_cancel_left]
theorem bytesOf_cons (x:Int) (l:List Int):bytesOf (x::l)=eightB x++bytesOf l:=by simp [bytesOf]
theorem eightB_getD (x:Int) (j:Nat) (h:j<8):(eightB x).getD j 0=byteAt x (56-8*j):=by simp [eightB,List.getD,h]
def accN (u:Int) (j:Nat):Int:=u / 2^(64-8*j)
theorem accN_step (u:Int) (j:Nat) (h:j<8):accN u (j+1)=accN u j*256+u / 2^(56-8*j)%256:=by
 have:j=0∨j=1∨j=2∨j=3∨j=4∨j=5∨j=6∨j=7:=by omega
 rcases this with rfl | rfl | rfl | rfl | rfl | rfl | rfl | rfl<;>(simp [accN];omega)
theorem accN_bd (u:Int) (j:Nat) (h0:0≤u) (h1:u<18446744073709551616) (hj:j<8):0≤accN u j∧accN u j<72057594037927936:=by
 have:j=0∨j=1∨j=2∨j=3∨j=4∨j=5∨j=6∨j=7:=by omega
 rcases this with rfl | rfl | rfl | rfl | rfl | rfl | rfl | rfl<;>(simp [accN];omega)
theorem or_low (a b:Int) (ha:0≤a) (ha1:a<72057594037927936) (hb:0≤b) (hb1:b<256):bits .or .u64 (a*256) b=a*256+b:=by
 obtain ⟨x,rfl⟩:∃ x:Nat,a=x:=⟨a.toNat,by omega⟩
 obtain ⟨y,rfl⟩:∃ y:Nat,b=y:=⟨b.toNat,by omega⟩
 have e:bits .or .u64 ((x:Int)*256) (y:Int)=bits .or .u64 (y:Int) ((x:Int)*256):=by
  have:=bits_or_u64_nat (x*256) y (by omega) (by omega)
  have h2:=bits_or_u64_nat y (x*256) (by omega) (by omega)
  rw [Nat.or_comm] at h2
  simp only [Int.natCast_mul,Int.cast_ofNat_Int] at this h2
  rw [this,h2]
 rw [e,u64_or8 (x:=(x:Int)*256) (y:=(y:Int)) (by omega) (by omega) (by omega) (by omega) (by omega)]
 omega
theorem byteAt_bd (x:Int) (sh:Nat):0≤byteAt x sh∧byteAt x sh<256:=by unfold byteAt;omega
set_option maxRecDepth 100000 in
set_option maxHeartbeats 2000000 in
theorem number_calls {B:Nat} {w:World} {rb:Nat} {x:Int} {l:List Int} (h:RdAt rs B w rb (x::l)) (hx:Fits64 x) :
  Calls Tryz.prog 105 #[.pointer (some ⟨rb,0,none⟩)] w fun e w'=>e=.returned (.int .i64 x)∧RdAt rs B w' rb l∧Fr (fun y=>y=rb) w w':=by
 obtain ⟨v,hblk,hby,hown⟩:=h.blk
 obtain ⟨a,cap,rfl,hn,hcap,hc⟩:=hby
 obtain ⟨m,hm⟩:∃ m,m=8*l.length+rs.length:=⟨_,rfl⟩
 have hlen:(bytesOf (x::l)++rs).length=m+8:=by rw [List.length_append,bytesOf_length];simp;omega
 have hlm:(bytesOf l++rs).length=m:=by rw [List.length_append,bytesOf_length];omega
 rw [hlen] at hn hcap hc hblk
 have hsm:=h.small
 have hsh:=h.short
 simp only [List.length_cons] at hsm
 rcases hc with hc | ⟨g,off,rfl,hc⟩
 ·omega
 have hgB:=hown g rfl
 have hge:=h.ge
 have z0:=blk_cell hblk 0 _ rfl
 obtain ⟨z1,z2⟩:=z0
 have hcell:∀ (wx:World),Below B w wx→∀ j,j<8→wx.cell? ⟨g,off+j,none⟩=some (.int .u8 (byteAt x (56-8*j))):=fun wx hb j hj=>by
  have:=hc j (by omega) 0 (by decide)
  dsimp only at this
  rw [bytesOf_cons,List.append_assoc,getD_append_left _ _ _ _ (by rw [eightB_length];exact hj),eightB_getD x j hj] at this
  rw [← this]
  simpa using hb.cell (p:=⟨g,off+j,none⟩) hgB
 have HC:=hide hcell
 have HF:Hid (RdAt rs B (w.setCell ⟨rb,0,none⟩ (.slice (some ⟨g,off+8,none⟩) m (cap-8))) rb l∧Fr (fun y=>y=rb) w (w.setCell ⟨rb,0,none⟩ (.slice (some ⟨g,off+8,none⟩) m (cap-8)))):=by
  refine ⟨⟨⟨.slice (some ⟨g,off+8,none⟩) m (cap-8),?_,⟨_,_,by rw [hlm],by rw [hlm];omega,by rw [hlm];omega,Or.inr ⟨g,off+8,rfl,fun i hi j hj=>?_⟩⟩,fun y hy=>hown y hy⟩,hge,by omega,hsh⟩,(Fr.refl (fun y=>y=rb) w).setCell (p:=⟨rb,0,none⟩) (Or.inr rfl) _⟩
  ·have:=blk_set (w:=w) hblk 0 (.slice (some ⟨g,off+8,none⟩) m (cap-8))
   simpa using this
  ·rw [hlm] at hi
   have hj0:j=0:=by omega
   subst hj0
   have:=hc (8+i) (by omega) 0 (by decide)
   dsimp only at this
   rw [bytesOf_cons,List.append_assoc,show 8+i=(eightB x).length+i by rw [eightB_length],getD_append_right,eightB_length] at this
   have e:w.cell? ⟨g,off+8+i*1+0,none⟩=w.cell? ⟨g,off+(8+i)*1+0,none⟩:=by
    have:off+8+i*1+0=off+(8+i)*1+0:=by omega
    rw [this]
   rw [← this, ← e]
   exact World.cell?_of_block (w:=w) (Below.heap_setCell _ _ _ _ (by dsimp only;omega))
 have HF2:Hid (cap≤8→RdAt rs B (w.setCell ⟨rb,0,none⟩ (.slice (some ⟨g,off,none⟩) m 0)) rb l∧Fr (fun y=>y=rb) w (w.setCell ⟨rb,0,none⟩ (.slice (some ⟨g,off,none⟩) m 0))):=fun h8=>by
  refine ⟨⟨⟨.slice (some ⟨g,off,none⟩) m 0,?_,⟨_,_,by rw [hlm],by rw [hlm];omega,by rw [hlm];omega,Or.inl (by rw [hlm];omega)⟩,fun y hy=>hown y hy⟩,hge,by omega,hsh⟩,(Fr.refl (fun y=>y=rb) w).setCell (p:=⟨rb,0,none⟩) (Or.inr rfl) _⟩
  have:=blk_set (w:=w) hblk 0 (.slice (some ⟨g,off,none⟩) m 0)
  simpa using this
 have hu0:(0:Int)≤x%18446744073709551616:=by omega
 have hu1:x%18446744073709551616<18446744073709551616:=by omega
 have HB:Hid (∀ j,byteAt x (56-8*j)=x%18446744073709551616 / 2^(56-8*j)%256):=fun j=>rfl
 have HE:Hid (IntKind.i64.wrap (accN (x%18446744073709551616) 8)=x):=by
  unfold Hid accN
  rw [IntKind.wrap_i64]
  simp
  obtain ⟨q1,q2⟩:=hx
  omega
 have H0:Hid (accN (x%18446744073709551616) 0=0):=by
  unfold Hid accN
  simp
  omega
 clear hc hcell hblk hown h hx hm hlen hlm
 generalize x%18446744073709551616=u at *
 go_enter Tryz.func105,Tryz.ntmps105
 go_wp2
 go_loopw [3,19] (fun nu i wr=>∃ j:Nat,j≤8∧i=.int .i64 j∧nu=.int .u64 (accN u j)∧wr=w) (fun _ i _=>8-(intOf i).toNat)
 case atStart=>exact ⟨0,by omega,rfl,by rw [H0.out],rfl⟩
 case round=>
  obtain ⟨j,hj,rfl,rfl,hwr⟩:=hrel
  subst hwr
  by_cases hlt:j<8
  ·have d0:=HC.out wr (Below.refl _ _) j hlt
   have hst:=accN_step u j hlt
   rw [← HB.out j] at hst
   have hbd:=accN_bd u j hu0 hu1 hlt
   obtain ⟨hb0,hb1⟩:=byteAt_bd x (56-8*j)
   obtain ⟨ha0,ha1⟩:=hbd
   have hor:=or_low (accN u j) (byteAt x (56-8*j)) ha0 ha1 hb0 hb1
   have HST:=hide hst
   clear HC hst HB
   generalize byteAt x (56-8*j)=bt at *
   generalize accN u j=ac at *
   go_wp2
   go_roundw
   case rel=>exact ⟨j+1,by omega,by go_num,by rw [HST.out],by first | rfl | trivial⟩
   case measure=>simp [intOf];omega
  ·have hj8:j=8:=by omega
   subst hj8
   have he:=HE.out
   go_wp2
   all_goals go_ret
   all_goals first
    | exact ⟨rfl,HF.out⟩
    | exact ⟨rfl,HF2.out (by omega)⟩
variable {rs:List Int}
set_option maxHeartbeats 1000000 in
theorem within_calls {B:Nat} {w:World} {rb:Nat} {x:Int} {l:List Int} (h:RdAt rs B w rb (x::l)) (hx:Fits64 x) (least most:Int) (h1:least≤x) (h2:x≤most) :
  Calls Tryz.prog 104 #[.pointer (some ⟨rb,0,none⟩),.int .i64 least,.int .i64 most] w fun e w'=>e=.returned (.int .i64 x)∧RdAt rs B w' rb l∧Fr (fun y=>y=rb) w w':=by
 have HN:=hide (number_calls h hx)
 have q1:decide (x<least)=false:=by simp;omega
 have q2:decide (most<x)=false:=by simp;omega
 clear h hx
 go_enter Tryz.func104,Tryz.ntmps104
 go_wp2_with fail
 refine (unhide HN).mono ?_
 rintro e w1 ⟨rfl,hr,hf⟩
 have HR:=hide hr
 have HF:=hide hf
 clear hr hf HN
 go_wp2
 go_ret
 exact ⟨rfl,HR.out,HF.out⟩
set_option maxHeartbeats 1000000 in
theorem count_calls {B:Nat} {w:World} {rb:Nat} {x:Int} {l:List Int} (h:RdAt rs B w rb (x::l)) (hx:Fits64 x) (h1:0≤x) (h2:x≤l.length) :
  Calls Tryz.prog 109 #[.pointer (some ⟨rb,0,none⟩)] w fun e w'=>e=.returned (.int .i64 x)∧RdAt rs B w' rb l∧Fr (fun y=>y=rb) w w':=by
 have HN:=hide (number_calls h hx)
 have hsm:=h.small
 simp only [List.length_cons] at hsm
 have q1:decide (x<0)=false:=by simp;omega
 clear h hx
 go_enter Tryz.func109,Tryz.ntmps109
 go_wp2_with fail
 refine (unhide HN).mono ?_
 rintro e w1 ⟨rfl,hr,hf⟩
 have HR:=hide hr
 have HF:=hide hf
 obtain ⟨v,hblk,⟨a,cap,rfl,hn,hcap, -⟩, -⟩:=hr.blk
 obtain ⟨m,hm⟩:∃ m,m=8*l.length+rs.length:=⟨_,rfl⟩
 have hsh:=hr.short
 rw [List.length_append,bytesOf_length, ← hm] at hblk hn
 have z0:=(blk_cell hblk 0 _ rfl).1
 have q2:decide ((l.length:Int)<x)=false:=by simp;omega
 have e8:(m:Int) / 8=l.length:=by omega
 clear hr hf HN hblk hm
 go_wp2
 go_ret
 exact ⟨rfl,HR.out,HF.out⟩
set_option maxHeartbeats 1000000 in
theorem end_calls {B:Nat} {w:World} {rb:Nat} (h:RdAt [] B w rb []) :
  Calls Tryz.prog 99 #[.pointer (some ⟨rb,0,none⟩)] w fun e w'=>e=.returned (.tuple #[])∧w'=w:=by
 obtain ⟨v,hblk,⟨a,cap,rfl,hn,hcap, -⟩, -⟩:=h.blk
 rw [List.append_nil,bytesOf_length] at hblk
 have z0:=(blk_cell hblk 0 _ rfl).1
 simp only [List.length_nil,Nat.mul_zero] at z0
 clear hblk h
 go_enter Tryz.func99,Tryz.ntmps99
 go_wp2
 go_end0
 exact ⟨rfl,rfl⟩
set_option maxRecDepth 100000 in
set_option maxHeartbeats 2000000 in
theorem numbers_calls {B:Nat} {w:World} {rb:Nat} {ms l:List Int} (h:RdAt rs B w rb (ms++l)) (hx:∀ x∈ms,Fits64 x) (hB:B≤w.heap.size) (hm:ms.length≤1099511627776) :
  Calls Tryz.prog 108 #[.pointer (some ⟨rb,0,none⟩),.int .i64 ms.length] w fun e w'=>∃ v,e=.returned v∧w'.ownsRow w.heap.size 3 1 v ms.length (intRow ms)∧RdAt rs B w' rb l∧Fr (fun y=>y=rb) w w':=by
 obtain ⟨i0,hi,hz0,hz1,hz2⟩:=info_parts Tryz.info3
 have hrb:rb<w.heap.size:=by obtain ⟨v,hblk, -⟩:=h.blk;exact lt_of_blk hblk
 have HN:Hid (∀ wx k (hk:k<ms.length),RdAt rs B wx rb (ms.drop k++l)→Calls Tryz.prog 105 #[.pointer (some ⟨rb,0,none⟩)] wx fun e w'=>e=.returned (.int .i64 ms[k])∧RdAt rs B w' rb (ms.drop (k+1)++l)∧Fr (fun y=>y=rb) wx w'):=fun wx k hk hr=>by
  rw [List.drop_eq_getElem_cons hk] at hr
  exact number_calls hr (hx _ (List.getElem_mem hk))
 have H0:Hid (RdAt rs B w rb (ms.drop 0++l)):=by unfold Hid;simpa using h
 clear h hx
 go_enter Tryz.func108,Tryz.ntmps108
 go_wp2
 go_loopw [5,7] (fun st i wr=>∃ (k:Nat) (v':Value),k≤ms.length∧i=.int .i64 k∧v'=st∧wr.ownsRow w.heap.size 3 1 v' k (intRow (ms.take k))∧RdAt rs B wr rb (ms.drop k++l)∧Fr (fun y=>y=rb) w wr) (fun _ i _=>ms.length-(intOf i).toNat)
 case atStart=>exact ⟨0,_,Nat.zero_le _,rfl,rfl,⟨rfl,Or.inl ⟨rfl,rfl⟩⟩,H0.out,Fr.refl _ _⟩
 case round=>
  clear H0
  obtain ⟨k,v1,hk,rfl,rfl,hown,hr,hf⟩:=hrel
  by_cases hlt:k<ms.length
  ·have HN1:=hide (HN.out wr k hlt hr)
   have HO:=hide hown
   have HF:=hide hf
   have hsz:=hf.size
   obtain ⟨a2,cap2,rfl⟩:=own_slice hown
   have HT:Hid (intRow (ms.take (k+1))=intRow (ms.take k)++[.int .i64 ms[k]]):=by
    unfold Hid
    rw [List.take_succ_eq_append_getElem hlt];exact intRow_snoc _ _
   clear HN hr hown hf
   generalize ms[k]=x at *
   go_wp2_with fail
   refine (unhide HN1).mono ?_
   rintro e w1 ⟨rfl,hr1,hf1⟩
   have HO1:Hid (w1.ownsRow w.heap.size 3 1 (.slice a2 k cap2) k (intRow (ms.take k))):=own_of_blockB HO.out fun g hg=>by
    obtain ⟨cur,hc⟩:=own_blockB HO.out hg
    have:=own_baseB HO.out hg
    exact hf1.block g (lt_of_blk hc) (by omega)
   have HR1:=hide hr1
   have HF1:Hid (Fr (fun y=>y=rb) w w1):=HF.out.trans hf1 fun _ _ e=>e
   have hsz1:w.heap.size≤w1.heap.size:=Nat.le_trans hsz hf1.size
   have hrb1:rb<w1.heap.size:=by omega
   clear hr1 hf1 HN1 HO HF
   have h63:k+1≤maxLen:=by unfold maxLen;omega
   have hbytes:(k+1)*8≤140737488355328:=by omega
   go_wp2_with (at_builtin;refine wpList_append_lies _ rfl (.tmp 9) (.tmp 12) 22 rfl w.heap.size 3 i0 (.int .i64 0) 1 8 Tryz.underlying22 hi hz0 hz1 hz2 rfl (by decide) (.slice a2 k cap2) k (intRow (ms.take k)) rfl (HO1.out.alloc _) ⟨w1.heap.size,0,none⟩ 1 1 [.int .i64 x] rfl rfl ?c1 ?c2 (by decide) h63 hbytes (by simp;omega) (w1.heap.size+1) (by simp) ?_)
   case c1=>exact cell_one_new _ _ _
   case c2=>intro u hu;simp at hu;subst hu;rfl
   intro g gcap w2 hown hgrow hor hglt
   have hne:∀ y,(Value.slice a2 k cap2).ownBlock=some y→w.heap.size≤y:=fun y hy=>own_baseB HO1.out hy
   have HF2:Hid (Fr (fun y=>y=rb) w w2):=(HF1.out.alloc _).grown hgrow fun y hy=>Or.inl (hne y hy)
   have HR2:Hid (RdAt rs B w2 rb (ms.drop (k+1)++l)):=by
    have hq:w2.heap[rb]? = w1.heap[rb]? := by
     rw [hgrow.block rb (by simp;omega) (fun e=>by have:=hne rb e.symm;omega),Below.heap_alloc _ _ _ hrb1]
    refine HR1.out.keep ⟨hgrow.os,hgrow.tape,hgrow.output,?_,fun y hy=>?_⟩ hq
    ·have:=hgrow.size;simp at this;omega
    ·rw [hgrow.block y (by simp;omega) (fun e=>by have:=hne y e.symm;omega),Below.heap_alloc _ _ _ (by omega)]
   have HO2:Hid (w2.ownsRow w.heap.size 3 1 (.slice (some ⟨g,0,none⟩) (k+1) gcap) (k+1) (intRow (ms.take (k+1)))):=by rw [HT.out];exact hown
   clear hown hgrow hor hne HO1 HR1 HF1
   go_wp2
   go_roundw
   case rel=>exact ⟨k+1,_,by omega,by go_num,rfl,HO2.out,HR2.out,HF2.out⟩
   case measure=>simp [intOf];omega
  ·have hkl:k=ms.length:=by omega
   subst hkl
   rw [List.take_length] at hown
   rw [List.drop_length,List.nil_append] at hr
   have HO:=hide hown
   have HR:=hide hr
   have HF:=hide hf
   clear hown hr hf HN
   go_wp2
   go_ret
   exact ⟨v1,rfl,HO.out,HR.out,HF.out⟩
variable {rs:List Int}
theorem RdAt.fr {B:Nat} {w w':World} {rb b:Nat} {l:List Int} (h:RdAt rs B w rb l) (hf:Fr (fun y=>y=b) w w') (hb:B≤b) (hB:B≤w.heap.size) (hne:b≠rb):RdAt rs B w' rb l:=by
 have hrb:rb<w.heap.size:=by obtain ⟨v,hblk, -⟩:=h.blk;exact lt_of_blk hblk
 exact h.keep ⟨hf.os,hf.tape,hf.output,hf.size,fun k hk=>hf.block k (by omega) (by omega)⟩ (hf.block rb hrb fun e=>hne e.symm)
theorem RdAt.set {B:Nat} {w:World} {rb b i:Nat} {l:List Int} (h:RdAt rs B w rb l) (hb:B≤b) (hB:B≤w.heap.size) (hne:b≠rb) (v:Value):RdAt rs B (w.setCell ⟨b,i,none⟩ v) rb l:=
 h.fr (b:=b) ((Fr.refl (fun y=>y=b) w).setCell (p:=⟨b,i,none⟩) (Or.inr rfl) v) hb hB hne
def partW (x y:Wk) (j:Nat):Wk:=⟨y.place,fun i=>if i<j then y.r i else x.r i,x.steps⟩
theorem WkAt.setReg {w:World} {b:Nat} {vc:Value} {code:List Ins} {x y:Wk} {j:Nat} (h:WkAt w b vc code (partW x y j)) (hj:j<4):WkAt (w.setCell ⟨b,2+j,none⟩ (.int .i64 (y.r j))) b vc code (partW x y (j+1)):=by
 refine ⟨?_,own_of_block h.own fun g hg=>Below.heap_setCell _ _ _ _ (h.ne_own hg),h.le,h.small⟩
 have:=blk_set h.blk (2+j) (.int .i64 (y.r j))
 rw [this]
 have hc:j=0∨j=1∨j=2∨j=3:=by omega
 rcases hc with rfl | rfl | rfl | rfl<;>rfl
theorem WkAt.setPlace {w:World} {b:Nat} {vc:Value} {code:List Ins} {x y:Wk} (h:WkAt w b vc code x) (hy:y.place≤code.length):WkAt (w.setCell ⟨b,1,none⟩ (.int .i64 y.place)) b vc code (partW x y 0):=by
 refine ⟨?_,own_of_block h.own fun g hg=>Below.heap_setCell _ _ _ _ (h.ne_own hg),hy,h.small⟩
 rw [blk_set h.blk 1 (.int .i64 y.place)]
 rfl
theorem WkAt.setSteps {w:World} {b:Nat} {vc:Value} {code:List Ins} {x y:Wk} (h:WkAt w b vc code (partW x y 4)):WkAt (w.setCell ⟨b,6,none⟩ (.int .i64 y.steps)) b vc code y:=by
 refine ⟨?_,own_of_block h.own fun g hg=>Below.heap_setCell _ _ _ _ (h.ne_own hg),h.le,h.small⟩
 rw [blk_set h.blk 6 (.int .i64 y.steps)]
 rfl
theorem WkAt.rd {B:Nat} {w w':World} {b rb:Nat} {vc:Value} {code:List Ins} {x:Wk} {l:List Int} (h:WkAt w b vc code x) (hr:RdAt rs B w rb l) (hf:Fr (fun y=>y=rb) w w'):WkAt w' b vc code x∧b≠rb:=by
 obtain ⟨v,hblk, -⟩:=hr.blk
 have hne:b≠rb:=ne_of_types h.blk hblk (by decide)
 refine ⟨h.stays fun y hy=>?_,hne⟩
 rcases hy with rfl | hy
 ·exact hf.block _ (lt_of_blk h.blk) hne
 ·obtain ⟨cur,hc⟩:=own_block h.own hy
  exact hf.block _ (lt_of_blk hc) (ne_of_types hc hblk (by decide))
structure FitsW (x:Wk):Prop where
 r:∀ i,i<4→Fits64 (x.r i)
 steps:Fits64 x.steps
set_option maxRecDepth 100000 in
set_option maxHeartbeats 4000000 in
theorem wload_calls {B:Nat} {w:World} {b rb:Nat} {vc:Value} {code:List Ins} {x y:Wk} {l:List Int} (hw:WkAt w b vc code x) (hr:RdAt rs B w rb (wkNums y++l)) (hbB:B≤b) (hB:B≤w.heap.size) (hy:y.place≤code.length) (hfy:FitsW y) :
  Calls Tryz.prog 100 #[.pointer (some ⟨b,0,none⟩),.pointer (some ⟨rb,0,none⟩)] w fun e w'=>e=.returned (.tuple #[])∧WkAt w' b vc code y∧RdAt rs B w' rb l∧Fr (fun z=>z=b∨z=rb) w w':=by
 have hcs:=hw.small
 have hne:b≠rb:=(hw.rd hr (Fr.refl _ _)).2
 obtain ⟨c0, -⟩:=hw.cells
 obtain ⟨ac,cc,hvc, -, -⟩:=code_form hw.own
 have HP:Hid (Calls Tryz.prog 104 #[.pointer (some ⟨rb,0,none⟩),.int .i64 0,.int .i64 code.length] w fun e w'=>e=.returned (.int .i64 y.place)∧(w'.heap[b]? = w.heap[b]? ∧ (∃ u,w'.cell? ⟨b,1,none⟩=some u)∧w'.frozen? ⟨b,1,none⟩=false) ∧
   WkAt (w'.setCell ⟨b,1,none⟩ (.int .i64 y.place)) b vc code (partW x y 0)∧RdAt rs B (w'.setCell ⟨b,1,none⟩ (.int .i64 y.place)) rb ([y.r 0,y.r 1,y.r 2,y.r 3].drop 0++y.steps::l)∧Fr (fun z=>z=b∨z=rb) w (w'.setCell ⟨b,1,none⟩ (.int .i64 y.place))∧B≤w'.heap.size):=by
  refine (within_calls hr ⟨by omega,by omega⟩ 0 code.length (by omega) (by omega)).mono fun e w' ⟨q1,q2,q3⟩=>⟨q1,?_,?_,?_,?_,?_⟩
  ·have hk:=(hw.rd hr q3).1
   exact ⟨q3.block b (lt_of_blk hw.blk) hne,⟨_,hk.cells.2.1⟩,row_frozen hk.blk 1⟩
  ·exact (hw.rd hr q3).1.setPlace hy
  ·exact q2.set hbB (Nat.le_trans hB q3.size) hne _
  ·exact Fr.setCell (S:=fun z=>z=b∨z=rb) (q3.mono fun _ _ e=>Or.inr e) (p:=⟨b,1,none⟩) (Or.inr (Or.inl rfl)) _
  ·exact Nat.le_trans hB q3.size
 have HN:Hid (∀ wx j,j<4→WkAt wx b vc code (partW x y j)→RdAt rs B wx rb ([y.r 0,y.r 1,y.r 2,y.r 3].drop j++y.steps::l)→Fr (fun z=>z=b∨z=rb) w wx→B≤wx.heap.size→Calls Tryz.prog 105 #[.pointer (some ⟨rb,0,none⟩)] wx fun e w'=>e=.returned (.int .i64 (y.r j))∧((∃ u,w'.cell? ⟨b,2+j,none⟩=some u)∧w'.frozen? ⟨b,2+j,none⟩=false) ∧
   WkAt (w'.setCell ⟨b,2+j,none⟩ (.int .i64 (y.r j))) b vc code (partW x y (j+1))∧RdAt rs B (w'.setCell ⟨b,2+j,none⟩ (.int .i64 (y.r j))) rb ([y.r 0,y.r 1,y.r 2,y.r 3].drop (j+1)++y.steps::l)∧Fr (fun z=>z=b∨z=rb) w (w'.setCell ⟨b,2+j,none⟩ (.int .i64 (y.r j)))∧B≤w'.heap.size):=fun wx j hj h1 h2 h3 h4=>by
  have e:[y.r 0,y.r 1,y.r 2,y.r 3].drop j++y.steps::l=y.r j::([y.r 0,y.r 1,y.r 2,y.r 3].drop (j+1)++y.steps::l):=by
   have hc:j=0∨j=1∨j=2∨j=3:=by omega
   rcases hc with rfl | rfl | rfl | rfl<;>rfl
  rw [e] at h2
  refine (number_calls h2 (hfy.r j hj)).mono fun e w' ⟨q1,q2,q3⟩=>?_
  have hk:=(h1.rd h2 q3).1
  refine ⟨q1,⟨?_,row_frozen hk.blk _⟩,hk.setReg hj,q2.set hbB (Nat.le_trans h4 q3.size) hne _,(h3.trans q3 fun _ _ e=>Or.inr e).setCell (p:=⟨b,2+j,none⟩) (Or.inr (Or.inl rfl)) _,Nat.le_trans h4 q3.size⟩
  have hc:j=0∨j=1∨j=2∨j=3:=by omega
  rcases hc with rfl | rfl | rfl | rfl
  ·exact ⟨_,row_cell hk.blk rfl⟩
  ·exact ⟨_,row_cell hk.blk rfl⟩
  ·exact ⟨_,row_cell hk.blk rfl⟩
  ·exact ⟨_,row_cell hk.blk rfl⟩
 have HE:Hid (∀ wx,WkAt wx b vc code (partW x y 4)→RdAt rs B wx rb ([y.r 0,y.r 1,y.r 2,y.r 3].drop 4++y.steps::l)→Fr (fun z=>z=b∨z=rb) w wx→B≤wx.heap.size→Calls Tryz.prog 105 #[.pointer (some ⟨rb,0,none⟩)] wx fun e w'=>e=.returned (.int .i64 y.steps)∧((∃ u,w'.cell? ⟨b,6,none⟩=some u)∧w'.frozen? ⟨b,6,none⟩=false) ∧
   WkAt (w'.setCell ⟨b,6,none⟩ (.int .i64 y.steps)) b vc code y∧RdAt rs B (w'.setCell ⟨b,6,none⟩ (.int .i64 y.steps)) rb l∧Fr (fun z=>z=b∨z=rb) w (w'.setCell ⟨b,6,none⟩ (.int .i64 y.steps))):=fun wx h1 h2 h3 h4=>by
  refine (number_calls (l:=l) h2 hfy.steps).mono fun e w' ⟨q1,q2,q3⟩=>?_
  have hk:=(h1.rd h2 q3).1
  exact ⟨q1,⟨⟨_,row_cell hk.blk rfl⟩,row_frozen hk.blk _⟩,hk.setSteps,q2.set hbB (Nat.le_trans h4 q3.size) hne _,(h3.trans q3 fun _ _ e=>Or.inr e).setCell (p:=⟨b,6,none⟩) (Or.inr (Or.inl rfl)) _⟩
 clear hw hr hfy
 subst hvc
 go_enter Tryz.func100,Tryz.ntmps100
 go_wp2_with fail
 refine (unhide HP).mono ?_
 rintro e w1 ⟨rfl,⟨hb1,⟨u1,hu1⟩,hf1⟩,h1,h2,h3,h4⟩
 have H1:=hide h1
 have H2:=hide h2
 have H3:=hide h3
 have hs1:B≤(w1.setCell ⟨b,1,none⟩ (.int .i64 y.place)).heap.size:=by simpa [World.setCell] using h4
 clear h1 h2 h3 HP hb1 h4
 go_wp2
 go_loopw [15] (fun i wr=>∃ j:Nat,j≤4∧i=.int .i64 j∧WkAt wr b (.slice ac code.length cc) code (partW x y j)∧RdAt rs B wr rb ([y.r 0,y.r 1,y.r 2,y.r 3].drop j++y.steps::l)∧Fr (fun z=>z=b∨z=rb) w wr∧B≤wr.heap.size) (fun i _=>4-(intOf i).toNat)
 case atStart=>exact ⟨0,by omega,rfl,H1.out,H2.out,H3.out,hs1⟩
 case round=>
  clear H1 H2 H3 hs1 hu1 hf1
  obtain ⟨j,hj,rfl,h1,h2,h3,h4⟩:=hrel
  by_cases hlt:j<4
  ·have HN1:Hid (∀ q,Calls Tryz.prog 105 #[.pointer (some ⟨rb,0,none⟩)] (wr.drewN q) fun e w'=>e=.returned (.int .i64 (y.r j))∧((∃ u,w'.cell? ⟨b,2+j,none⟩=some u)∧w'.frozen? ⟨b,2+j,none⟩=false) ∧
    WkAt (w'.setCell ⟨b,2+j,none⟩ (.int .i64 (y.r j))) b (.slice ac code.length cc) code (partW x y (j+1))∧RdAt rs B (w'.setCell ⟨b,2+j,none⟩ (.int .i64 (y.r j))) rb ([y.r 0,y.r 1,y.r 2,y.r 3].drop (j+1)++y.steps::l)∧Fr (fun z=>z=b∨z=rb) w (w'.setCell ⟨b,2+j,none⟩ (.int .i64 (y.r j)))∧B≤w'.heap.size):=fun q=>HN.out (wr.drewN q) j hlt (h1.stays fun _ _=>rfl) (h2.keep (below_drewN (Below.refl _ _) q) rfl) (h3.drewN q) h4
   have hj0:(0:Int)≤(j:Int):=by omega
   have hj1:(j:Int)<4:=by omega
   clear HN HE h1 h2 h3
   generalize y.r j=yr at *
   go_wp2
   go_region_held3 (fun _=>True) (trivial)
    ((go_at_call 105;refine (unhide HN1 _).mono ?_;rintro e w2 ⟨rfl,⟨⟨u,hu⟩,hfz⟩,h1,h2,h3,h4⟩;have H1:=hide h1;have H2:=hide h2;have H3:=hide h3;clear h1 h2 h3))
   go_wp2
   go_roundw
   case rel=>exact ⟨j+1,by omega,by go_num,H1.out,H2.out,H3.out,by simpa [World.setCell] using h4⟩
   case measure=>simp [intOf];omega
  ·have hj4:j=4:=by omega
   subst hj4
   have HE1:=hide (HE.out wr h1 h2 h3 h4)
   clear HN HE h1 h2 h3 h4
   go_wp2_with fail
   refine (unhide HE1).mono ?_
   rintro e w2 ⟨rfl,⟨⟨u,hu⟩,hfz⟩,h1,h2,h3⟩
   have H1:=hide h1
   have H2:=hide h2
   have H3:=hide h3
   clear h1 h2 h3 HE1
   go_wp2
   go_end0
   exact ⟨rfl,H1.out,H2.out,H3.out⟩
variable {rs:List Int}
theorem StAt.rd {B:Nat} {w w':World} {b rb:Nat} {vw:Value} {ch:Option Nat} {sourced:Bool} {m:Sm} {l:List Int} (h:StAt w b vw ch sourced m) (hr:RdAt rs B w rb l) (hf:Fr (fun y=>y=rb) w w'):StAt w' b vw ch sourced m∧b≠rb:=by
 obtain ⟨v,hblk, -⟩:=hr.blk
 have hne:b≠rb:=ne_of_types h.blk hblk (by decide)
 refine ⟨h.stays fun y hy=>?_,hne⟩
 rcases hy with rfl | hy | hy
 ·exact hf.block _ (lt_of_blk h.blk) hne
 ·obtain ⟨cur,hc⟩:=own_block h.own hy
  exact hf.block _ (lt_of_blk hc) (ne_of_types hc hblk (by decide))
 ·obtain ⟨⟨p,q,hc⟩, -⟩:=h.chan y hy
  exact hf.block _ (lt_of_blk hc) (fun e=>ne_of_chan hblk hc e.symm)
structure Loaded (rs:List Int) (B:Nat) (w:World) (b rb:Nat) (sourced:Bool) (some':Bool) (m:Sm) (l:List Int) (w':World):Prop where
 at':∃ vw ch,StAt w' b vw ch sourced m∧(∀ g,vw.ownBlock=some g→w.heap.size≤g∨sourced=true)∧(∀ c,ch=some c→w.heap.size≤c)∧ch.isSome=some'
 rd:RdAt rs B w' rb l
 fr:Fr (fun z=>z=b∨z=rb) w w'
set_option maxRecDepth 100000 in
set_option maxHeartbeats 2000000 in
theorem sload_src {B:Nat} {w:World} {b rb:Nat} {vw:Value} {m0:Sm} {r:Nat} {l:List Int} (h:StAt w b vw none true m0) (hr:RdAt rs B w rb ((r:Int)::l)) (hbB:B≤b) (hB:B≤w.heap.size) (hle:r≤m0.words.length) :
  Calls Tryz.prog 101 #[.pointer (some ⟨b,0,none⟩),.pointer (some ⟨rb,0,none⟩)] w fun e w'=>e=.returned (.tuple #[])∧StAt w' b vw none true {m0 with read:=r}∧RdAt rs B w' rb l∧Fr (fun z=>z=b∨z=rb) w w':=by
 obtain ⟨c0,c1,c2,c3,cf⟩:=h.cells
 have hsm:=h.small
 have hne:b≠rb:=(h.rd hr (Fr.refl _ _)).2
 obtain ⟨aw,capw,hvw, -, -⟩:=own_form h.own
 have HP:Hid (Calls Tryz.prog 104 #[.pointer (some ⟨rb,0,none⟩),.int .i64 0,.int .i64 m0.words.length] w fun e w'=>e=.returned (.int .i64 r)∧((∃ u,w'.cell? ⟨b,2,none⟩=some u)∧w'.frozen? ⟨b,2,none⟩=false) ∧
   StAt (w'.setCell ⟨b,2,none⟩ (.int .i64 r)) b vw none true {m0 with read:=r}∧RdAt rs B (w'.setCell ⟨b,2,none⟩ (.int .i64 r)) rb l∧Fr (fun z=>z=b∨z=rb) w (w'.setCell ⟨b,2,none⟩ (.int .i64 r))):=by
  refine (within_calls hr ⟨by omega,by omega⟩ 0 m0.words.length (by omega) (by omega)).mono fun e w' ⟨q1,q2,q3⟩=>?_
  have hk:=(h.rd hr q3).1
  refine ⟨q1,⟨⟨_,hk.cells.2.2.1⟩,row_frozen hk.blk 2⟩,⟨?_,?_,hle,hk.small,fun c hc=>(by cases hc),fun c hc=>(by cases hc)⟩,q2.set hbB (Nat.le_trans hB q3.size) hne _,Fr.setCell (S:=fun z=>z=b∨z=rb) (q3.mono fun _ _ e=>Or.inr e) (p:=⟨b,2,none⟩) (Or.inr (Or.inl rfl)) _⟩
  ·have:=blk_set hk.blk 2 (.int .i64 r)
   simpa using this
  ·exact own_of_block hk.own fun g hg=>Below.heap_setCell _ _ _ _ (hk.ne_own hg)
 clear h hr cf
 subst hvw
 generalize m0.words.length=ml at *
 go_enter Tryz.func101,Tryz.ntmps101
 go_wp2_with fail
 refine (unhide HP).mono ?_
 rintro e w1 ⟨rfl,⟨⟨u,hu⟩,hfz⟩,h1,h2,h3⟩
 have H1:=hide h1
 have H2:=hide h2
 have H3:=hide h3
 clear h1 h2 h3 HP
 go_wp2
 go_end0
 exact ⟨rfl,H1.out,H2.out,H3.out⟩
set_option maxRecDepth 100000 in
set_option maxHeartbeats 2000000 in
theorem sloadUnread_calls {B:Nat} {w:World} {b rb:Nat} {vw:Value} {m0:Sm} {ws l:List Int} (h:StAt w b vw none false m0) (hr:RdAt rs B w rb ((m0.room:Int)::0::(ws.length:Int)::(ws++l))) (hbB:B≤b) (hB:B≤w.heap.size) (hro:m0.room≤1000) (hws:∀ x∈ws,Fits64 x) (hwl:ws.length≤1099511627776) :
  Calls Tryz.prog 106 #[.pointer (some ⟨b,0,none⟩),.pointer (some ⟨rb,0,none⟩)] w fun e w'=>e=.returned (.tuple #[])∧Loaded rs B w b rb false false ⟨ws,0,m0.room⟩ l w':=by
 have c4:w.cell? ⟨b,4,none⟩=some (.int .i64 (m0.room:Int)):=row_cell h.blk rfl
 have hne:b≠rb:=(h.rd hr (Fr.refl _ _)).2
 have hb:=lt_of_blk h.blk
 have H1:Hid (∀ q,Calls Tryz.prog 104 #[.pointer (some ⟨rb,0,none⟩),.int .i64 m0.room,.int .i64 m0.room] (w.drewN q) fun e w'=>e=.returned (.int .i64 m0.room)∧(RdAt rs B w' rb (0::(ws.length:Int)::(ws++l))∧Fr (fun y=>y=rb) w w')∧w'.cell? ⟨b,4,none⟩=some (.int .i64 (m0.room:Int))):=fun q=>by
  refine (within_calls (w:=w.drewN q) (hr.keep (below_drewN (Below.refl _ _) q) rfl) ⟨by omega,by omega⟩ _ _ (Int.le_refl _) (Int.le_refl _)).mono fun e w' ⟨q1,q2,q3⟩=>⟨q1,⟨q2,⟨q3.os,q3.tape,q3.output,q3.size,q3.block⟩⟩,?_⟩
  rw [← c4];exact World.cell?_of_block (w:=w) (q3.block b hb hne)
 have H2:Hid (∀ wx,RdAt rs B wx rb (0::(ws.length:Int)::(ws++l))→Calls Tryz.prog 104 #[.pointer (some ⟨rb,0,none⟩),.int .i64 0,.int .i64 0] wx fun e w'=>e=.returned (.int .i64 0)∧RdAt rs B w' rb ((ws.length:Int)::(ws++l))∧Fr (fun y=>y=rb) wx w'):=fun wx hx=>within_calls hx ⟨by omega,by omega⟩ 0 0 (Int.le_refl _) (Int.le_refl _)
 have H3:Hid (∀ wx,RdAt rs B wx rb ((ws.length:Int)::(ws++l))→Calls Tryz.prog 109 #[.pointer (some ⟨rb,0,none⟩)] wx fun e w'=>e=.returned (.int .i64 ws.length)∧RdAt rs B w' rb (ws++l)∧Fr (fun y=>y=rb) wx w'):=fun wx hx=>count_calls hx ⟨by omega,by omega⟩ (by omega) (by simp;omega)
 have H4:Hid (∀ wx,RdAt rs B wx rb (ws++l)→Fr (fun y=>y=rb) w wx→Calls Tryz.prog 108 #[.pointer (some ⟨rb,0,none⟩),.int .i64 ws.length] wx fun e w'=>∃ a cap,e=.returned (.slice a ws.length cap)∧((∃ u,w'.cell? ⟨b,1,none⟩=some u)∧w'.frozen? ⟨b,1,none⟩=false)∧Loaded rs B w b rb false false ⟨ws,0,m0.room⟩ l (w'.setCell ⟨b,1,none⟩ (.slice a ws.length cap))):=fun wx hx hfx=>by
  refine (numbers_calls hx hws (Nat.le_trans hB hfx.size) hwl).mono fun e w' ⟨v,q1,q2,q3,q4⟩=>?_
  obtain ⟨av,cv,rfl⟩:=own_slice q2
  refine ⟨av,cv,q1,?_⟩
  have hf:=hfx.trans q4 fun _ _ e=>e
  have hk:=(h.rd hr hf).1
  have hg:∀ g,(Value.slice av ws.length cv).ownBlock=some g→w.heap.size≤g:=fun g hg=>Nat.le_trans hfx.size (own_baseB q2 hg)
  refine ⟨⟨⟨_,hk.cells.2.1⟩,row_frozen hk.blk 1⟩,⟨.slice av ws.length cv,none,⟨?_,?_,Nat.zero_le _,by dsimp only;omega,fun c hc=>(by cases hc),fun c hc=>(by cases hc)⟩,fun g e=>Or.inl (hg g e),fun c hc=>(by cases hc),rfl⟩,q3.set hbB (Nat.le_trans hB hf.size) hne _,Fr.setCell (S:=fun z=>z=b∨z=rb) (hf.mono fun _ _ e=>Or.inr e) (p:=⟨b,1,none⟩) (Or.inr (Or.inl rfl)) _⟩
  ·have:=blk_set hk.blk 1 (.slice av ws.length cv)
   simpa using this
  ·have h0:w'.ownsRow 0 3 1 (.slice av ws.length cv) ws.length (intRow ws):=by
    rcases q2 with ⟨e1,e2 | ⟨g,cap,cur,e2,e3,e4⟩⟩
    ·exact ⟨e1,Or.inl e2⟩
    ·exact ⟨e1,Or.inr ⟨g,cap,cur,e2,Nat.zero_le _,e4⟩⟩
   exact own_of_block h0 fun g e=>Below.heap_setCell _ _ _ _ (by have:=hg g e;dsimp only;omega)
 clear h hr hws
 generalize (m0.room:Int)=mr at *
 go_enter Tryz.func106,Tryz.ntmps106
 go_wp2
 go_region_held3 (fun w'=>w'.cell? ⟨b,4,none⟩=some (.int .i64 mr)) (go_keep)
  ((go_at_call 104;refine (unhide H1 _).mono ?_;rintro e w1 ⟨rfl,⟨hr1,hf1⟩,s1⟩;have HR1:=hide hr1;have HF1:=hide hf1;clear hr1 hf1))
 go_wp2_with fail
 refine (unhide H2 _ HR1.out).mono ?_
 rintro e w2 ⟨rfl,hr2,hf2⟩
 have HR2:=hide hr2
 have HF2:=hide (HF1.out.trans hf2 fun _ _ e=>e)
 clear hr2 hf2 HR1 HF1 H1 H2
 go_wp2_with fail
 refine (unhide H3 _ HR2.out).mono ?_
 rintro e w3 ⟨rfl,hr3,hf3⟩
 have HR3:=hide hr3
 have HF3:=hide (HF2.out.trans hf3 fun _ _ e=>e)
 clear hr3 hf3 HR2 HF2 H3
 go_wp2_with fail
 refine (unhide H4 _ HR3.out HF3.out).mono ?_
 rintro e w4 ⟨av,cv,rfl,⟨⟨u,hu⟩,hfz⟩,hl4⟩
 have HL:=hide hl4
 clear hl4 HR3 HF3 H4
 go_wp2
 go_end0
 exact ⟨rfl,HL.out⟩
variable {rs:List Int}
set_option maxRecDepth 100000 in
set_option maxHeartbeats 4000000 in
theorem sloadHeld_calls {B:Nat} {w:World} {b rb c:Nat} {vw:Value} {m0 m:Sm} {l:List Int} (h:StAt w b vw (some c) false m0) (hr:RdAt rs B w rb ((m.room:Int)::(m.read:Int)::(m.words.length:Int)::(m.words++l))) (hbB:B≤b) (hB:B≤w.heap.size)
  (hro0:m0.room≤m.room) (hro:m.room≤40) (hrd:m.read≤m.words.length) (hin:m.words.length-m.read≤m.room) (hws:∀ x∈m.words,Fits64 x) (hwl:m.words.length≤1099511627776) :
  Calls Tryz.prog 107 #[.pointer (some ⟨b,0,none⟩),.pointer (some ⟨rb,0,none⟩)] w fun e w'=>e=.returned (.tuple #[])∧Loaded rs B w b rb false true m l w':=by
 obtain ⟨c0,c1,c2,c3,cf⟩:=h.cells
 obtain ⟨⟨s0,r0,hc⟩,hcr,hroom0⟩:=h.chan c rfl
 have hne:b≠rb:=(h.rd hr (Fr.refl _ _)).2
 have hb:=lt_of_blk h.blk
 have hcp:=fun ty=>run_cap_chan (P:=Tryz.prog) 109 ty Tryz.underlying109 hc
 obtain ⟨i0,hi,hi8⟩:=Tryz.infoInt
 have hmk:=fun (wx:World)=>run_makeChan (P:=Tryz.prog) (w:=wx) (t:=109) Tryz.underlying109 hi .i64 m.room (by omega) (by rw [hi8];omega)
 have H1:Hid (Calls Tryz.prog 104 #[.pointer (some ⟨rb,0,none⟩),.int .i64 m0.room,.int .i64 40] w fun e w'=>e=.returned (.int .i64 m.room)∧RdAt rs B w' rb ((m.read:Int)::(m.words.length:Int)::(m.words++l))∧Fr (fun y=>y=rb) w w'):=within_calls hr ⟨by omega,by omega⟩ _ _ (by omega) (by omega)
 have H2:Hid (∀ wx,RdAt rs B wx rb ((m.read:Int)::(m.words.length:Int)::(m.words++l))→Calls Tryz.prog 109 #[.pointer (some ⟨rb,0,none⟩)] wx fun e w'=>e=.returned (.int .i64 m.read)∧RdAt rs B w' rb ((m.words.length:Int)::(m.words++l))∧Fr (fun y=>y=rb) wx w'):=fun wx hx=>count_calls hx ⟨by omega,by omega⟩ (by omega) (by simp;omega)
 have H3:Hid (∀ wx,RdAt rs B wx rb ((m.words.length:Int)::(m.words++l))→Calls Tryz.prog 104 #[.pointer (some ⟨rb,0,none⟩),.int .i64 m.read,.int .i64 ((m.read:Int)+m.room)] wx fun e w'=>e=.returned (.int .i64 m.words.length)∧RdAt rs B w' rb (m.words++l)∧Fr (fun y=>y=rb) wx w'):=fun wx hx=>within_calls hx ⟨by omega,by omega⟩ _ _ (by omega) (by omega)
 have H4:Hid (∀ wx,RdAt rs B wx rb (m.words++l)→Fr (fun y=>y=rb) w wx→Calls Tryz.prog 108 #[.pointer (some ⟨rb,0,none⟩),.int .i64 m.words.length] wx fun e w'=>∃ a cap,e=.returned (.slice a m.words.length cap)∧((∃ u,w'.cell? ⟨b,1,none⟩=some u)∧w'.frozen? ⟨b,1,none⟩=false) ∧
   (w'.setCell ⟨b,1,none⟩ (.slice a m.words.length cap)).heap[b]? = some (.cells #[.bool false,.slice a m.words.length cap,.int .i64 0,.chan (some c),.int .i64 0] 111 (0,0)) ∧
   (w'.setCell ⟨b,1,none⟩ (.slice a m.words.length cap)).ownsRow w.heap.size 3 1 (.slice a m.words.length cap) m.words.length (intRow m.words)∧RdAt rs B (w'.setCell ⟨b,1,none⟩ (.slice a m.words.length cap)) rb l∧Fr (fun z=>z=b∨z=rb) w (w'.setCell ⟨b,1,none⟩ (.slice a m.words.length cap))):=fun wx hx hfx=>by
  refine (numbers_calls hx hws (Nat.le_trans hB hfx.size) hwl).mono fun e w' ⟨v,q1,q2,q3,q4⟩=>?_
  obtain ⟨av,cv,rfl⟩:=own_slice q2
  have hf:=hfx.trans q4 fun _ _ e=>e
  have hk:=(h.rd hr hf).1
  have hg:∀ g,(Value.slice av m.words.length cv).ownBlock=some g→w.heap.size≤g:=fun g hg=>Nat.le_trans hfx.size (own_baseB q2 hg)
  refine ⟨av,cv,q1,⟨⟨_,hk.cells.2.1⟩,row_frozen hk.blk 1⟩,?_,?_,q3.set hbB (Nat.le_trans hB hf.size) hne _,Fr.setCell (S:=fun z=>z=b∨z=rb) (hf.mono fun _ _ e=>Or.inr e) (p:=⟨b,1,none⟩) (Or.inr (Or.inl rfl)) _⟩
  ·have:=blk_set hk.blk 1 (.slice av m.words.length cv)
   simpa using this
  ·have h0:w'.ownsRow w.heap.size 3 1 (.slice av m.words.length cv) m.words.length (intRow m.words):=by
    rcases q2 with ⟨e1,e2 | ⟨g,cap,cur,e2,e3,e4⟩⟩
    ·exact ⟨e1,Or.inl e2⟩
    ·exact ⟨e1,Or.inr ⟨g,cap,cur,e2,Nat.le_trans hfx.size e3,e4⟩⟩
   exact own_of_blockB h0 fun g e=>Below.heap_setCell _ _ _ _ (by have:=hg g e;dsimp only;omega)
 clear hc cf h hr
 refine calls_of_wpN Tryz.func107 rfl ?_
 simp only [Tryz.ntmps107,List.size_toArray,List.length_cons,List.length_nil,Nat.reduceAdd,Nat.reduceSub,Array.replicate_succ,Array.replicate_zero,List.push_toArray,List.append_toArray,List.nil_append,List.cons_append]
 refine wpN_seq (wpN_of_wp ?_)
 go_wp2_with fail
 refine (unhide H1).mono ?_
 rintro e w1 ⟨rfl,hr1,hf1⟩
 have HR1:=hide hr1
 have HF1:=hide hf1
 clear hr1 hf1 H1 hcp
 go_wp2
 refine wpN_seq (wpN_of_wp ?_)
 go_wp2_with fail
 refine (unhide H2 _ HR1.out).mono ?_
 rintro e w2 ⟨rfl,hr2,hf2⟩
 have HR2:=hide hr2
 have HF2:=hide (HF1.out.trans hf2 fun _ _ e=>e)
 clear hr2 hf2 HR1 HF1 H2
 go_wp2
 refine wpN_seq (wpN_of_wp ?_)
 go_wp2_with fail
 refine (unhide H3 _ HR2.out).mono ?_
 rintro e w3 ⟨rfl,hr3,hf3⟩
 have HR3:=hide hr3
 have HF3:=hide (HF2.out.trans hf3 fun _ _ e=>e)
 clear hr3 hf3 HR2 HF2 H3
 go_wp2
 refine wpN_seq (wpN_of_wp ?_)
 go_wp2_with fail
 refine (unhide H4 _ HR3.out HF3.out).mono ?_
 rintro e w4 ⟨av,cv,rfl,⟨⟨u,hu⟩,hfz⟩,k1,k2,k3,k4⟩
 have K1:=hide k1
 have K2:=hide k2
 have K3:=hide k3
 have K4:=hide k4
 clear k1 k2 k3 k4 HR3 HF3 H4
 go_wp2
 generalize w4.setCell ⟨b,1,none⟩ (.slice av m.words.length cv)=w5 at *
 have d3:w5.cell? ⟨b,3,none⟩=some (.chan (some c)):=row_cell K1.out rfl
 have d1:w5.cell? ⟨b,1,none⟩=some (.slice av m.words.length cv):=row_cell K1.out rfl
 have f3:w5.frozen? ⟨b,3,none⟩=false:=row_frozen K1.out 3
 have hb5:b<w5.heap.size:=lt_of_blk K1.out
 clear hu hfz
 refine wpN_seq (wpN_of_wp ?_)
 go_wp2
 have hsz5:(w5.setCell ⟨b,3,none⟩ (.chan (some w5.heap.size))).heap.size=w5.heap.size:=by simp [World.setCell]
 have J1:((w5.setCell ⟨b,3,none⟩ (.chan (some w5.heap.size))).alloc (.chan m.room #[] false 0 0 false)).heap[b]? = some (.cells #[.bool false,.slice av m.words.length cv,.int .i64 0,.chan (some w5.heap.size),.int .i64 0] 111 (0,0)):=by
  rw [Below.heap_alloc _ _ _ (by omega)]
  have:=blk_set K1.out 3 (.chan (some w5.heap.size))
  simpa using this
 have J2:((w5.setCell ⟨b,3,none⟩ (.chan (some w5.heap.size))).alloc (.chan m.room #[] false 0 0 false)).heap[w5.heap.size]? = some (.chan m.room #[] false 0 0 false):=by
  have:=heap_alloc_new (w5.setCell ⟨b,3,none⟩ (.chan (some w5.heap.size))) (.chan m.room #[] false 0 0 false)
  rw [hsz5] at this
  exact this
 have J3:∀ k,k<w5.heap.size→k≠b→((w5.setCell ⟨b,3,none⟩ (.chan (some w5.heap.size))).alloc (.chan m.room #[] false 0 0 false)).heap[k]? = w5.heap[k]? := fun k hk hkb=>by
  rw [Below.heap_alloc _ _ _ (by omega),Below.heap_setCell _ _ _ _ (by dsimp only;omega)]
 have J4:((w5.setCell ⟨b,3,none⟩ (.chan (some w5.heap.size))).alloc (.chan m.room #[] false 0 0 false)).heap.size=w5.heap.size+1:=by simp [World.setCell]
 have J5:Fr (fun z=>z=b∨z=rb) w ((w5.setCell ⟨b,3,none⟩ (.chan (some w5.heap.size))).alloc (.chan m.room #[] false 0 0 false)):=(Fr.setCell (S:=fun z=>z=b∨z=rb) K4.out (p:=⟨b,3,none⟩) (Or.inr (Or.inl rfl)) _).alloc _
 have HJO:Hid (((w5.setCell ⟨b,3,none⟩ (.chan (some w5.heap.size))).alloc (.chan m.room #[] false 0 0 false)).os=w5.os∧((w5.setCell ⟨b,3,none⟩ (.chan (some w5.heap.size))).alloc (.chan m.room #[] false 0 0 false)).tape=w5.tape∧((w5.setCell ⟨b,3,none⟩ (.chan (some w5.heap.size))).alloc (.chan m.room #[] false 0 0 false)).output=w5.output):=⟨rfl,rfl,rfl⟩
 generalize ((w5.setCell ⟨b,3,none⟩ (.chan (some w5.heap.size))).alloc (.chan m.room #[] false 0 0 false))=w6 at *
 have e1:w6.cell? ⟨b,1,none⟩=some (.slice av m.words.length cv):=row_cell J1 rfl
 have e3:w6.cell? ⟨b,3,none⟩=some (.chan (some w5.heap.size)):=row_cell J1 rfl
 have HJ1:=hide J1
 have HJ2:=hide J2
 have HJ3:=hide J3
 have HJ4:=hide J4
 have HJ5:=hide J5
 clear J1 J2 J3 J4 J5 d3 d1 f3 hmk hsz5
 obtain ⟨un,hun⟩:∃ un,un=m.words.drop m.read:=⟨_,rfl⟩
 have hunl:un.length=m.words.length-m.read:=by rw [hun];simp
 have HUN:=hide hun
 have HLd:Hid (∀ wr,wr.heap[w5.heap.size]? = some (.chan m.room (intRow un).toArray false un.length 0 false)→Fr (fun y=>y=w5.heap.size) w6 wr→wr.heap.size=w6.heap.size→Loaded rs B w b rb false true m l wr):=fun wr g1 g2 g3=>by
  have hsz6:=HJ4.out
  have hwsz:=K4.out.size
  have hq:∀ k,k<w5.heap.size→k≠b→wr.heap[k]? = w5.heap[k]? := fun k hk hkb=>(g2.block k (by omega) (by omega)).trans (HJ3.out k hk hkb)
  have hrb5:rb<w5.heap.size:=by obtain ⟨v,hv, -⟩:=K3.out.blk;exact lt_of_blk hv
  refine ⟨⟨_,some w5.heap.size,⟨(g2.block b (by omega) (by omega)).trans HJ1.out,?_,hrd,by omega,fun c' hc'=>?_,fun _ _=>rfl⟩,fun g hg=>Or.inl (own_baseB K2.out hg),fun c' hc'=>(by cases hc';exact hwsz),rfl⟩,?_,HJ5.out.trans g2 fun k hk e=>by subst e;omega⟩
  ·have h0:w5.ownsRow 0 3 1 (.slice av m.words.length cv) m.words.length (intRow m.words):=by
    rcases K2.out with ⟨e1,e2 | ⟨g,cap,cur,e2,e3,e4⟩⟩
    ·exact ⟨e1,Or.inl e2⟩
    ·exact ⟨e1,Or.inr ⟨g,cap,cur,e2,Nat.zero_le _,e4⟩⟩
   refine own_of_block h0 fun g hg=>?_
   obtain ⟨cur,hc⟩:=own_block h0 hg
   have:=own_baseB K2.out hg
   exact hq g (lt_of_blk hc) (by omega)
  ·cases hc'
   exact ⟨⟨un.length,0,by rw [← HUN.out];exact g1⟩,hin,by omega⟩
  ·refine K3.out.keep ⟨g2.os.trans (HJO.out.1),g2.tape.trans (HJO.out.2.1),g2.output.trans (HJO.out.2.2),by omega,fun k hk=>hq k (by omega) (by omega)⟩ (hq rb hrb5 (fun e=>hne e.symm))
 clear hun
 refine wpN_seq (wpN_of_wp ?_)
 rcases Nat.lt_or_ge m.read m.words.length with hlt | hge
 ·obtain ⟨g,rfl,hg0, -⟩:=own_get K2.out 0 (by omega)
  have hcv:m.words.length≤cv:=by
   obtain ⟨-,h2 | ⟨g',cap,cur,e, -, -,hn, -⟩⟩:=K2.out
   ·cases h2.1
   ·cases e;exact hn
  have hk0:(0:Int)≤(m.read:Int):=by omega
  have HCl:Hid (∀ wr,Fr (fun y=>y=w5.heap.size) w6 wr→(∀ j,j<un.length→wr.cell? ⟨g,m.read+j,none⟩=some (.int .i64 (un.getD j 0)))∧wr.cell? ⟨b,3,none⟩=some (.chan (some w5.heap.size))):=fun wr g2=>by
   refine ⟨fun j hj=>?_,?_⟩
   ·obtain ⟨g',e,hg',hx⟩:=own_get K2.out (m.read+j) (by omega)
    cases e
    have hgl:g<w5.heap.size:=lt_of_cell hx
    have e2:un.getD j 0=m.words.getD (m.read+j) 0:=by
     rw [HUN.out];simp [List.getD,List.getElem?_drop]
    rw [e2, ← hx]
    have hq:wr.heap[g]? = w5.heap[g]? := (g2.block g (by have:=HJ4.out;omega) (by omega)).trans (HJ3.out g hgl (by omega))
    exact World.cell?_of_block (w:=w5) hq
   ·rw [← e3];exact World.cell?_of_block (w:=w6) (g2.block b (by have:=HJ4.out;omega) (by omega))
  have hsz6:=HJ4.out
  clear K1 K2 K3 K4 HJ1 HJ3 HJ5 HJO HUN
  go_wp2
  refine wpN_block (wpN_loop (fun n a wr=>∃ (j:Nat) (u8 u43 u44 u45 u46 u47 u48 u49 u50 u51:Value),j≤un.length∧n=un.length-j∧a=⟨#[.pointer (some ⟨b,0,none⟩),.pointer (some ⟨rb,0,none⟩),undef,undef,.int .i64 m.room,.int .i64 m.read,.int .i64 m.words.length,undef,u8,.pointer (some ⟨rb,0,none⟩),.pointer (some ⟨b,0,none⟩),.pointer (some ⟨b,0,none⟩),.pointer (some ⟨b,3,none⟩),.chan (some c),.int .i64 m0.room,.int .i64 m.room,.pointer (some ⟨rb,0,none⟩),.int .i64 m.read,.pointer (some ⟨rb,0,none⟩),.int .i64 m.read,.int .i64 m.read,.int .i64 m.room,.int .i64 ((m.read:Int)+m.room),.int .i64 m.words.length,.pointer (some ⟨b,0,none⟩),.pointer (some ⟨rb,0,none⟩),.int .i64 m.words.length,(.slice (some ⟨g,0,none⟩) m.words.length cv),.pointer (some ⟨b,0,none⟩),.pointer (some ⟨b,1,none⟩),.pointer (some ⟨b,0,none⟩),.int .i64 m.room,.chan (some w5.heap.size),.pointer (some ⟨b,0,none⟩),.pointer (some ⟨b,3,none⟩),.pointer (some ⟨b,0,none⟩),.pointer (some ⟨b,0,none⟩),.pointer (some ⟨b,1,none⟩),(.slice (some ⟨g,0,none⟩) m.words.length cv),.int .i64 m.read,(.slice (some ⟨g,m.read,none⟩) (m.words.length-m.read) (cv-m.read)),.int .i64 ((m.words.length-m.read:Nat):Int),.int .i64 j,u43,u44,u45,u46,u47,u48,u49,u50,u51],[]⟩∧wr.heap[w5.heap.size]? = some (.chan m.room (intRow (un.take j)).toArray false j 0 false)∧Fr (fun y=>y=w5.heap.size) w6 wr∧wr.heap.size=w6.heap.size) un.length ?_ ?_)
  ·exact ⟨0,undef,undef,undef,undef,undef,undef,undef,undef,undef,undef,Nat.zero_le _,rfl,rfl,HJ2.out,Fr.refl _ _,rfl⟩
  rintro n a wr ⟨j,u8,u43,u44,u45,u46,u47,u48,u49,u50,u51,hj,rfl,rfl,G1,G2,G3⟩
  by_cases hjl:j<un.length
  ·obtain ⟨hcl,q3⟩:=HCl.out wr G2
   have d0:=hcl j hjl
   have hj0:(0:Int)≤(j:Int):=by omega
   have hj1:(j:Int)<((m.words.length-m.read:Nat):Int):=by omega
   have HT:Hid (intRow (un.take (j+1))=intRow (un.take j)++[.int .i64 (un.getD j 0)]):=by
    unfold Hid
    rw [List.take_succ_eq_append_getElem hjl,getD_eq _ _ _ hjl];exact intRow_snoc _ _
   have HG1:=hide G1
   have HG2:=hide G2
   clear hcl HCl G1 G2 HLd
   generalize un.getD j 0=x at *
   refine wpN_seq (wpN_of_wp ?_)
   go_wp2
   refine wpN_seq (wpN_of_wp ?_)
   go_wp2
   refine wpN_seq (wpN_block (wpN_seq (wpN_of_wp ?_)))
   go_wp2
   refine wpN_region (rest_value _ rfl rfl (.pointer (some ⟨b,0,none⟩)) wr (by simp [go_sem,execOp,Act.eval]) (rest_value _ rfl rfl (.pointer (some ⟨b,0,none⟩)) wr (by simp [go_sem,execOp,Act.eval,Act.put]) (rest_value _ rfl rfl (.pointer (some ⟨b,3,none⟩)) wr (by simp [go_sem,execOp,Act.eval,Act.put]) (rest_value _ rfl rfl (.chan (some w5.heap.size)) wr (by simp [go_sem,execOp,Act.eval,Act.put,q3]) (rest_value _ rfl rfl (.int .i64 x) wr (by simp [go_sem,execOp,Act.eval,Act.put]) (rest_step _ rfl undef (wr.setChan w5.heap.size m.room ((intRow (un.take j)).toArray.push (.int .i64 x)) false (j+1) 0 false) (fun b0 k cs hb=>step_lone_send_room (c:=w5.heap.size) (v:=.int .i64 x) (z':=.tuple #[]) (comm_of rfl rfl (w':=wr) (by simp [go_sem,execOp,scase,Act.eval,Act.put]) b0 k cs hb) HG1.out (by simp [intRow];omega)) (rest_nil ?_)))))))
   have L1:(wr.setChan w5.heap.size m.room ((intRow (un.take j)).toArray.push (.int .i64 x)) false (j+1) 0 false).heap[w5.heap.size]? = some (.chan m.room (intRow (un.take (j+1))).toArray false (j+1) 0 false):=by
    rw [heap_setChan _ _ _ _ _ _ _ _ (by omega),HT.out]
    simp
   have L2:Fr (fun y=>y=w5.heap.size) w6 (wr.setChan w5.heap.size m.room ((intRow (un.take j)).toArray.push (.int .i64 x)) false (j+1) 0 false):=Fr.setChan (S:=fun y=>y=w5.heap.size) HG2.out (c:=w5.heap.size) (Or.inr rfl) _ _ _ _ _ _
   have L3:(wr.setChan w5.heap.size m.room ((intRow (un.take j)).toArray.push (.int .i64 x)) false (j+1) 0 false).heap.size=w6.heap.size:=by rw [size_setChan];exact G3
   generalize wr.setChan w5.heap.size m.room ((intRow (un.take j)).toArray.push (.int .i64 x)) false (j+1) 0 false=w7 at *
   have HL1:=hide L1
   have HL2:=hide L2
   have HL3:=hide L3
   clear L1 L2 L3 HG1 HG2 G3
   refine wpN_of_wp ?_
   go_wp2
   exact ⟨un.length-(j+1),by omega,j+1,.int .i64 x,.bool true,.pointer (some ⟨g,m.read+j,none⟩),.int .i64 x,.pointer (some ⟨b,0,none⟩),.pointer (some ⟨b,0,none⟩),.pointer (some ⟨b,3,none⟩),.chan (some w5.heap.size),.int .i64 x,.int .i64 ((j:Int)+1),by omega,rfl,by simp,HL1.out,HL2.out,HL3.out⟩
  ·have hjj:j=un.length:=by omega
   subst hjj
   have hcond:decide ((un.length:Int)<((m.words.length-m.read:Nat):Int))=false:=by simp;omega
   have HL:Hid (Loaded rs B w b rb false true m l wr):=HLd.out wr (by rw [G1,List.take_length]) G2 G3
   clear G1 G2 G3 HLd
   refine wpN_seq (wpN_of_wp ?_)
   go_wp2
   refine wpN_seq (wpN_of_wp ?_)
   go_wp2
   go_end0
   exact ⟨rfl,HL.out⟩
 ·have hun0:un.length=0:=by omega
  have hrl:m.read=m.words.length:=by omega
  have hcv:m.words.length≤cv:=by
   obtain ⟨-,h2 | ⟨g',cap,cur,e, -, -,hn, -⟩⟩:=K2.out
   ·have:=h2.2;omega
   ·cases e;exact hn
  have hnil:av=none→m.words.length=0∧cv=0:=fun e=>by
   obtain ⟨-,h2 | ⟨g',cap,cur,e', -⟩⟩:=K2.out
   ·have h3:=h2.1
    have h4:=h2.2
    injection h3 with _ _ h5
    exact ⟨h4,h5⟩
   ·rw [e] at e';cases e'
  have HL:Hid (Loaded rs B w b rb false true m l w6):=by
   have hu:un=[]:=List.eq_nil_of_length_eq_zero hun0
   refine HLd.out w6 ?_ (Fr.refl _ _) rfl
   rw [hu]
   exact HJ2.out
  clear K1 K2 K3 K4 HJ1 HJ3 HJ5 HJO HUN HLd HJ2 HJ4
  cases av with
  | none=>
   obtain ⟨hw0,hcv0⟩:=hnil rfl
   have hr0:m.read=0:=by omega
   rw [hw0,hcv0] at e1
   go_wp2
   all_goals (refine wpN_block (wpN_loop (fun _ a' wr'=>a'=_∧wr'=w6) 0 ⟨rfl,rfl⟩ ?_);rintro n a' wr' ⟨rfl,rfl⟩;refine wpN_seq (wpN_of_wp ?_);go_wp2;refine wpN_seq (wpN_of_wp ?_);go_wp2;go_end0;exact ⟨rfl,HL.out⟩)
  | some ad=>
   go_wp2
   all_goals (refine wpN_block (wpN_loop (fun _ a' wr'=>a'=_∧wr'=w6) 0 ⟨rfl,rfl⟩ ?_);rintro n a' wr' ⟨rfl,rfl⟩;refine wpN_seq (wpN_of_wp ?_);go_wp2;refine wpN_seq (wpN_of_wp ?_);go_wp2;go_end0;exact ⟨rfl,HL.out⟩)
end Go.Proofs.YthfdgdfnflilfaaGreatDoor

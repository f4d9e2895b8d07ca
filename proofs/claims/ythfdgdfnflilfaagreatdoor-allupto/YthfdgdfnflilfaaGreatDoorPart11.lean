/- Part 11: Save1, OwnRow, Book1, Save2, Load1, Load2, Load3. -/
import Derived.Lib.EndianBits
import Derived.Laws.Bits64b
import Derived.Deep.RegionHeld3
import Derived.Test.YthfdgdfnflilfaaGreatDoorPart7
import Derived.Test.YthfdgdfnflilfaaGreatDoorPart8
namespace Go.Proofs.YthfdgdfnflilfaaGreatDoor
open Go.RowKit Go.Conc
def byteRow (l:List Int):List Value:=l.map (Value.int .u8)
theorem byteRow_length (l:List Int):(byteRow l).length=l.length:=by simp [byteRow]
theorem byteRow_snoc (l:List Int) (x:Int):byteRow (l++[x])=byteRow l++[.int .u8 x]:=by simp [byteRow]
def byteAt (x:Int) (sh:Nat):Int:=x%18446744073709551616 / 2^sh%256
def eightB (x:Int):List Int:=(List.range 8).map fun j=>byteAt x (56-8*j)
def bytesOf (l:List Int):List Int:=l.flatMap eightB
theorem eightB_length (x:Int):(eightB x).length=8:=by simp [eightB]
theorem bytesOf_length (l:List Int):(bytesOf l).length=8*l.length:=by
 induction l with
 | nil=>rfl
 | cons x l ih=>simp only [bytesOf,List.flatMap_cons,List.length_append,eightB_length,List.length_cons] at ih ⊢;omega
theorem bytesOf_append (a b:List Int):bytesOf (a++b)=bytesOf a++bytesOf b:=by simp [bytesOf]
theorem bytesOf_take_succ (l:List Int) (k:Nat) (h:k<l.length):bytesOf (l.take (k+1))=bytesOf (l.take k)++eightB l[k]:=by
 rw [List.take_succ_eq_append_getElem h,bytesOf_append];simp [bytesOf]
theorem eightB_take_succ (x:Int) (j:Nat) (h:j<8):(eightB x).take (j+1)=(eightB x).take j++[byteAt x (56-8*j)]:=by
 have hl:j<(eightB x).length:=by rw [eightB_length];exact h
 rw [List.take_succ_eq_append_getElem hl]
 simp [eightB]
theorem wrap_u64 (x:Int):IntKind.u64.wrap x=x%18446744073709551616:=by
 simp [IntKind.wrap,IntKind.bits,IntKind.signed]
def SvAt (B:Nat) (w:World) (v:Value) (s:List Int):Prop:=w.ownsRow B 5 1 v s.length (byteRow s)
theorem Tryz.infoU8:(Tryz.prog.info? 5).map (fun i=>(i.zero,i.size,i.bytes))=some (some (.int .u8 0),1,1):=by kernel_rfl
structure Wrote (B:Nat) (w:World) (v:Value) (s:List Int) (v':Value) (w':World):Prop where
 at':SvAt B w' v' s
 fr:Fr (fun y=>v.ownBlock=some y) w w'
 own:∀ g,v'.ownBlock=some g→v.ownBlock=some g∨w.heap.size≤g
theorem own_slice {w:World} {B n:Nat} {e:TypeId} {size:Nat} {v:Value} {xs:List Value} (h:w.ownsRow B e size v n xs):∃ a cap,v=.slice a n cap:=by
 obtain ⟨h1,h2⟩:=h
 rcases h2 with ⟨h3,h4⟩ | ⟨g,cap,cur,hv,r⟩
 ·exact ⟨none,0,by rw [h3,h4]⟩
 ·exact ⟨_,_,hv⟩
theorem own_of_blockB {w w':World} {B:Nat} {e:TypeId} {size:Nat} {v:Value} {n:Nat} {xs:List Value} (h:w.ownsRow B e size v n xs) (hk:∀ g,v.ownBlock=some g→w'.heap[g]? = w.heap[g]?):w'.ownsRow B e size v n xs:=by
 obtain ⟨h1,h2⟩:=h
 refine ⟨h1,?_⟩
 rcases h2 with h2 | ⟨g,cap,cur,hv,hg,hh,r⟩
 ·exact Or.inl h2
 ·exact Or.inr ⟨g,cap,cur,hv,hg,by rw [hk g (by rw [hv];rfl)];exact hh,r⟩
theorem own_blockB {w:World} {B:Nat} {e:TypeId} {size:Nat} {v:Value} {n:Nat} {xs:List Value} (h:w.ownsRow B e size v n xs) {g:Nat} (hg:v.ownBlock=some g):∃ cur,w.heap[g]? = some (.cells cur e (0,0)):=by
 obtain ⟨_,h2⟩:=h
 rcases h2 with ⟨h2,_⟩ | ⟨g',cap,cur,hv,_,hh,_⟩
 ·rw [h2] at hg;cases hg
 ·rw [hv] at hg
  have:g'=g:=by simpa [Value.ownBlock] using hg
  subst this
  exact ⟨cur,hh⟩
theorem own_baseB {w:World} {B:Nat} {e:TypeId} {size:Nat} {v:Value} {n:Nat} {xs:List Value} (h:w.ownsRow B e size v n xs) {g:Nat} (hg:v.ownBlock=some g):B≤g:=by
 obtain ⟨_,h2⟩:=h
 rcases h2 with ⟨h2,_⟩ | ⟨g',cap,cur,hv,hb,hh,_⟩
 ·rw [h2] at hg;cases hg
 ·rw [hv] at hg
  have:g'=g:=by simpa [Value.ownBlock] using hg
  subst this
  exact hb
theorem Wrote.trans {B:Nat} {a b c:World} {v v1 v2:Value} {s s':List Int} (h:Wrote B a v s v1 b) (k:Wrote B b v1 s' v2 c):Wrote B a v s' v2 c:=
 ⟨k.at',h.fr.trans k.fr fun x hx hv=>by
  rcases h.own x hv with h1 | h1
  ·exact h1
  ·omega,fun g hg=>by
  rcases k.own g hg with h1 | h1
  ·exact h.own g h1
  ·exact Or.inr (Nat.le_trans h.fr.size h1)⟩
set_option maxRecDepth 100000 in
set_option maxHeartbeats 2000000 in
theorem append_calls {B:Nat} {w:World} {v vn:Value} {s l:List Int} (hB:B≤w.heap.size) (hs:SvAt B w v s) (hn:IntsAt w vn l) (hsep:∀ g,v.ownBlock=some g→vn.ownBlock≠some g) (hlen:s.length+8*l.length≤70368744177664) :
  Calls Tryz.prog 88 #[v,vn] w fun e w'=>∃ v',e=.returned v'∧Wrote B w v (s++bytesOf l) v' w':=by
 obtain ⟨i0,hi,hz0,hz1,hz2⟩:=info_parts Tryz.infoU8
 obtain ⟨a,cap,rfl,hnn,hcap,hc⟩:=hn.openD
 have HC:Hid (∀ wr,Fr (fun y=>v.ownBlock=some y) w wr→∀ k,k<l.length→∃ b off,a=some ⟨b,off,none⟩∧wr.cell? ⟨b,off+k,none⟩=some (.int .i64 (l.getD k 0))):=fun wr hf k hk=>by
  obtain ⟨b,off,ha,hlt,hd⟩:=hc k hk
  refine ⟨b,off,ha,?_⟩
  have e:=hd w (Below.refl _ _)
  have hb:b<w.heap.size:=lt_of_cell e
  rw [← e]
  refine World.cell?_of_block (w:=w) (hf.block b hb fun hv=>?_)
  exact hsep b hv (by rw [ha];rfl)
 have HS:Hid (Wrote B w v (s++bytesOf (l.take 0)) v w):=⟨by simpa [bytesOf] using hs,Fr.refl _ _,fun g hg=>Or.inl hg⟩
 clear hs hc hsep hn
 go_enter Tryz.func88,Tryz.ntmps88
 go_wp2
 go_loopw [0,10] (fun st i wr=>∃ (k:Nat) (v':Value),k≤l.length∧i=.int .i64 k∧v'=st∧Wrote B w v (s++bytesOf (l.take k)) v' wr) (fun _ i _=>l.length-(intOf i).toNat)
 case atStart=>exact ⟨0,v,Nat.zero_le _,rfl,rfl,HS.out⟩
 case round=>
  clear HS
  obtain ⟨k,v1,hk,rfl,rfl,hwr⟩:=hrel
  have HW:=hide hwr
  by_cases hlt:k<l.length
  ·obtain ⟨b,off,rfl,d0⟩:=HC.out wr hwr.fr k hlt
   have hk0:(0:Int)≤(k:Int):=by omega
   have hk1:(k:Int)<(l.length:Int):=by omega
   have HX:Hid (s++bytesOf (l.take (k+1))=(s++bytesOf (l.take k))++eightB (l.getD k 0)):=by
    unfold Hid
    rw [getD_eq _ _ _ hlt,bytesOf_take_succ _ _ hlt,List.append_assoc]
   have hsl:(s++bytesOf (l.take k)).length+8≤70368744177664:=by
    rw [List.length_append,bytesOf_length,List.length_take];omega
   clear hwr HC
   generalize l.getD k 0=x at *
   generalize s++bytesOf (l.take k)=pre at *
   go_wp2
   go_loopw [0,7] (fun st i wq=>∃ (j:Nat) (v':Value),j≤8∧i=.int .i64 (56-8*(j:Int))∧v'=st∧Wrote B w v (pre++(eightB x).take j) v' wq) (fun _ i _=>(intOf i+8).toNat)
   case atStart=>exact ⟨0,v1,Nat.zero_le _,rfl,rfl,by simpa using HW.out⟩
   case round=>
    clear HW d0
    obtain ⟨j,v2,hj,rfl,rfl,hwr⟩:=hrel
    have HW:=hide hwr
    by_cases hj8:j<8
    ·have hge:decide ((0:Int)≤56-8*(j:Int))=true:=by simp;omega
     have hj0:(0:Int)≤56-8*(j:Int):=by omega
     have HO:Hid (wr.ownsRow B 5 1 v2 (pre++(eightB x).take j).length (byteRow (pre++(eightB x).take j))):=hwr.at'
     have hsz:B≤wr.heap.size:=Nat.le_trans hB hwr.fr.size
     have hsl2:(pre++(eightB x).take j).length≤70368744177664:=by
      rw [List.length_append,List.length_take,eightB_length];omega
     obtain ⟨a2,cap2,hv2⟩:=own_slice hwr.at'
     clear hwr
     generalize hsn:(pre++(eightB x).take j).length=n at *
     have HSN:=hide hsn
     clear hsn
     have h63:n+1≤maxLen:=by unfold maxLen;omega
     have hbytes:(n+1)*1≤140737488355328:=by omega
     subst hv2
     go_wp2_with (at_builtin;refine wpList_append_lies _ rfl (.tmp 18) (.tmp 24) 100 rfl B 5 i0 (.int .u8 0) 1 1 Tryz.underlying100 hi hz0 hz1 hz2 rfl (by decide) (.slice a2 n cap2) n (byteRow (pre++(eightB x).take j)) rfl (HO.out.alloc _) ⟨wr.heap.size,0,none⟩ 1 1 [.int .u8 (IntKind.u64.wrap x / 2^(56-8*j)%256)] rfl rfl ?c1 ?c2 (by decide) h63 hbytes (by simp;omega) (wr.heap.size+1) (by simp) ?_)
     case c1=>exact cell_one_new _ _ _
     case c2=>intro u hu;simp at hu;subst hu;rfl
     intro g gcap w1 hown hgrow hor hglt
     have HN:Hid (Wrote B w v (pre++(eightB x).take (j+1)) (.slice (some ⟨g,0,none⟩) (n+1) gcap) w1):=by
      refine ⟨?_,(HW.out.fr.alloc _).grown hgrow fun y hy=>?_,fun y hy=>?_⟩
      ·unfold SvAt
       rw [eightB_take_succ x j hj8, ← List.append_assoc,List.length_append,HSN.out,byteRow_snoc]
       have e:byteAt x (56-8*j)=IntKind.u64.wrap x / 2^(56-8*j)%256:=by
        unfold byteAt;rw [wrap_u64]
       rw [e]
       exact hown
      ·rcases HW.out.own y hy with h1 | h1
       ·exact Or.inr h1
       ·exact Or.inl h1
      ·have hyg:g=y:=by simpa [Value.ownBlock] using hy
       subst hyg
       rcases hor with h1 | h1
       ·exact HW.out.own g h1
       ·exact Or.inr (by have:=HW.out.fr.size;omega)
     clear hown hgrow hor HO HW
     go_wp2
     go_roundw
     case rel=>exact ⟨j+1,_,by omega,by go_num,rfl,HN.out⟩
     case measure=>simp [intOf];omega
    ·have hj8':j=8:=by omega
     subst hj8'
     have HN:Hid (Wrote B w v (s++bytesOf (l.take (k+1))) v2 wr):=by
      have e8:(eightB x).take 8=eightB x:=List.take_of_length_le (by rw [eightB_length];exact Nat.le_refl _)
      have:=hwr
      rw [e8, ← HX.out] at this
      exact this
     clear hwr HW
     go_wp2
     go_roundw
     case rel=>exact ⟨k+1,_,by omega,by go_num,rfl,HN.out⟩
     case measure=>simp [intOf];omega
  ·go_wp2
   go_ret
   have hkl:k=l.length:=by omega
   exact ⟨_,rfl,by have:=HW.out;rw [hkl,List.take_length] at this;exact this⟩
theorem heapNew {w:World} {o:Obj} {k:Nat} (h:k=w.heap.size):(w.alloc o).heap[k]? = some o:=by subst h;exact heap_alloc_new _ _
theorem heapOld {w:World} {o o':Obj} {k:Nat} (h:k<w.heap.size) (hh:w.heap[k]? = some o'):(w.alloc o).heap[k]? = some o':=(Below.heap_alloc _ _ _ h).trans hh
theorem own_row_get {w:World} {base n:Nat} {t:TypeId} {v:Value} {vals:List Value} (h:w.ownsRow base t 1 v n vals):∃ a cap,v=.slice a n cap∧n≤cap∧∀ i (hi:i<vals.length),∃ g,a=some ⟨g,0,none⟩∧w.cell? ⟨g,i,none⟩=some vals[i]:=by
 obtain ⟨h1,h2⟩:=h
 rcases h2 with ⟨rfl,rfl⟩ | ⟨g,cap,cur,rfl,hg,hh,hn,hm,hs,ht⟩
 ·exact ⟨none,0,rfl,Nat.le_refl _,fun i hi=>by omega⟩
 ·refine ⟨_,cap,rfl,hn,fun i hi=>⟨g,rfl,?_⟩⟩
  have e:vals[i]? = some vals[i]:=List.getElem?_eq_getElem hi
  generalize vals[i]=x at e ⊢
  rw [← ht,Nat.mul_one,List.getElem?_take_of_lt (by omega)] at e
  simpa [World.cell?,hh] using e
theorem Sl.frame {w w':World} {v:Value} {n sz:Nat} {f:Nat→Nat→Value} (h:Sl w v n sz f) (hk:∀ g,v.ownBlock=some g→w'.heap[g]? = w.heap[g]?):Sl w' v n sz f:=by
 obtain ⟨a,cap,rfl,hn,hcap,h⟩:=h
 refine ⟨a,cap,rfl,hn,hcap,?_⟩
 rcases h with h | ⟨b,off,rfl,hc⟩
 ·exact Or.inl h
 ·exact Or.inr ⟨b,off,rfl,fun i hi j hj=>by rw [World.cell?_of_block (w:=w) (hk b rfl)];exact hc i hi j hj⟩
structure BkRow (base:Nat) (col:Nat→Nat) (w:World) (p r:Nat) (t:TypeId) (sz md:Nat) (f:Nat→Nat→Nat→Value) (c:Nat):Prop where
 ex:∃ (v:Value) (vals:List Value),w.cell? ⟨p,r,none⟩=some v∧w.ownsRow base t 1 v vals.length vals∧(∀ g,v.ownBlock=some g→col g=r)∧vals.length≤c∧vals.length%md=0 ∧
  (∀ i (h:i<vals.length),∃ m,Sl w vals[i] m sz (f i))∧(∀ u∈vals,∀ g,u.ownBlock=some g→g<w.heap.size∧col g=8)
theorem BkRow.frame {base:Nat} {col col':Nat→Nat} {w w':World} {p r:Nat} {t:TypeId} {sz md:Nat} {f:Nat→Nat→Nat→Value} {c c':Nat} (h:BkRow base col w p r t sz md f c) (hcell:w'.cell? ⟨p,r,none⟩=w.cell? ⟨p,r,none⟩)
  (hblk:∀ b,b<w.heap.size→col b=r∨col b=8→w'.heap[b]? = w.heap[b]?) (hcol:∀ b,b<w.heap.size→col b=r∨col b=8→col' b=col b) (hsz:w.heap.size≤w'.heap.size) (hc:c≤c'):BkRow base col' w' p r t sz md f c':=by
 obtain ⟨v,vals,h1,h2,h3,h4,h5,h6,h7⟩:=h.ex
 have hlt:∀ g,v.ownBlock=some g→g<w.heap.size:=fun g hg=>(h2.lt g hg).2
 refine ⟨v,vals,hcell.trans h1,own_of_blockB h2 fun g hg=>hblk g (hlt g hg) (Or.inl (h3 g hg)),fun g hg=>(hcol g (hlt g hg) (Or.inl (h3 g hg))).trans (h3 g hg),Nat.le_trans h4 hc,h5,fun i hi=>?_,fun u hu g hg=>?_⟩
 ·obtain ⟨m,hm⟩:=h6 i hi
  exact ⟨m,hm.frame fun g hg=>hblk g (h7 _ (List.getElem_mem hi) g hg).1 (Or.inr (h7 _ (List.getElem_mem hi) g hg).2)⟩
 ·obtain ⟨q1,q2⟩:=h7 u hu g hg
  exact ⟨Nat.lt_of_lt_of_le q1 hsz,(hcol g q1 (Or.inr q2)).trans q2⟩
theorem BkRow.lists {base:Nat} {col:Nat→Nat} {w:World} {p r:Nat} {t:TypeId} {sz md:Nat} {f:Nat→Nat→Nat→Value} {c:Nat} (h:BkRow base col w p r t sz md f c) (hc:c≤140737488355328) :
  ∃ v,w.cell? ⟨p,r,none⟩=some v∧Lists w v sz f:=by
 obtain ⟨v,vals,h1,h2,h3,h4,h5,h6,h7⟩:=h.ex
 obtain ⟨a,cap,rfl,hcap,hg⟩:=own_row_get h2
 refine ⟨_,h1,vals.length,fun i=>vals.getD i (.bool false),⟨a,cap,rfl,by omega,hcap,?_⟩,fun i hi=>?_⟩
 ·rcases Nat.eq_zero_or_pos vals.length with h0 | h0
  ·exact Or.inl h0
  ·obtain ⟨g,rfl, -⟩:=hg 0 h0
   refine Or.inr ⟨g,0,rfl,fun i hi j hj=>?_⟩
   obtain ⟨g',e,hcell⟩:=hg i hi
   cases e
   have:j=0:=by omega
   subst this
   simpa [List.getD,hi] using hcell
 ·obtain ⟨m,hm⟩:=h6 i hi
  refine ⟨m,?_⟩
  simpa [List.getD,hi] using hm
def wrB (i k:Nat) (_:Nat):Value:=.int .u8 (digitI (i / 4*4:Nat) k)
def wrN (i _ _:Nat):Value:=.int .i64 (-1-(i / 4*4:Nat))
def wrT (_ _ _:Nat):Value:=.int .u8 251
def wrI (_ _ _:Nat):Value:=.int .i64 (-7)
def wrC (_ _ j:Nat):Value:=if j=0 then .int .i64 (-8) else .int .i64 0
def wrL (_ _ _:Nat):Value:=.slice none 0 0
def wrF (_ _ j:Nat):Value:=if j=0 then .int .i64 (-9) else .slice none 0 0
def rowT:Nat→TypeId
 | 1=>100
 | 2=>22
 | 3=>100
 | 4=>22
 | 5=>45
 | 6=>24
 | _=>23
def rowSz:Nat→Nat
 | 5=>4
 | 7=>2
 | _=>1
def rowF:Nat→Nat→Nat→Nat→Value
 | 1=>wrB
 | 2=>wrN
 | 3=>wrT
 | 4=>wrI
 | 5=>wrC
 | 6=>wrL
 | _=>wrF
def rowMd:Nat→Nat
 | 1=>4
 | 2=>4
 | _=>1
structure BkM (md:Nat→Nat) (base:Nat) (col:Nat→Nat) (w:World) (p:Nat) (v0:Value) (c:Nat):Prop where
 blk:∃ cs:List Value,w.heap[p]? = some (.cells cs.toArray 35 (0,0))∧cs.length=8
 colp:col p=0
 ge:base≤p
 c0:w.cell? ⟨p,0,none⟩=some v0
 rows:∀ r,1≤r→r≤7→BkRow base col w p r (rowT r) (rowSz r) (md r) (rowF r) c
 low:∀ b,b<base→90≤col b
abbrev Bk:=BkM rowMd
theorem BkM.kept {md:Nat→Nat} {base:Nat} {col:Nat→Nat} {w:World} {p:Nat} {v0:Value} {c:Nat} (h:BkM md base col w p v0 c) (hc:c≤140737488355328) :
  Calls Tryz.prog 17 #[.pointer (some ⟨p,0,none⟩)] w fun e w'=>e=.returned (.bool true)∧∃ q,w'=w.drewN q:=by
 obtain ⟨v1,a1,b1⟩:=(h.rows 1 (by decide) (by decide)).lists hc
 obtain ⟨v2,a2,b2⟩:=(h.rows 2 (by decide) (by decide)).lists hc
 obtain ⟨v3,a3,b3⟩:=(h.rows 3 (by decide) (by decide)).lists hc
 obtain ⟨v4,a4,b4⟩:=(h.rows 4 (by decide) (by decide)).lists hc
 obtain ⟨v5,a5,b5⟩:=(h.rows 5 (by decide) (by decide)).lists hc
 obtain ⟨v6,a6,b6⟩:=(h.rows 6 (by decide) (by decide)).lists hc
 obtain ⟨v7,a7,b7⟩:=(h.rows 7 (by decide) (by decide)).lists hc
 exact kept_calls ⟨h.c0,a1,a2,a3,b1,b2,b3,⟨a4,a5,a6,a7,b4,b5,b6,b7⟩⟩
theorem BkM.frame {md:Nat→Nat} {base:Nat} {col col':Nat→Nat} {w w':World} {p:Nat} {v0:Value} {c c':Nat} (h:BkM md base col w p v0 c) (hblk:∀ b,b<w.heap.size→col b≤8→w'.heap[b]? = w.heap[b]?) (hcol:∀ b,b<w.heap.size→col b≤8→col' b=col b) (hlow:∀ b,b<base→90≤col' b) (hsz:w.heap.size≤w'.heap.size) (hc:c≤c'):BkM md base col' w' p v0 c':=by
 obtain ⟨cs,hp,hl⟩:=h.blk
 have hpl:=lt_of_blk hp
 have ep:=hblk p hpl (by rw [h.colp];omega)
 have ec:∀ r,w'.cell? ⟨p,r,none⟩=w.cell? ⟨p,r,none⟩:=fun r=>World.cell?_of_block (w:=w) ep
 exact ⟨⟨cs,ep.trans hp,hl⟩,(hcol p hpl (by rw [h.colp];omega)).trans h.colp,h.ge,(ec 0).trans h.c0,fun r h1 h7=>(h.rows r h1 h7).frame (ec _) (fun b hb hx=>hblk b hb (by omega)) (fun b hb hx=>hcol b hb (by omega)) hsz hc,hlow⟩
theorem BkM.below {md:Nat→Nat} {base:Nat} {col:Nat→Nat} {w w':World} {p:Nat} {v0:Value} {c:Nat} (h:BkM md base col w p v0 c) (hb:Below w.heap.size w w'):BkM md base col w' p v0 c:=
 h.frame (fun b hb' _=>hb.block b hb') (fun _ _ _=>rfl) h.low hb.size (Nat.le_refl _)
theorem BkRow.push {base:Nat} {col col':Nat→Nat} {w w':World} {p r:Nat} {t:TypeId} {sz:Nat} {f:Nat→Nat→Nat→Value} {c:Nat} {v' u:Value} {vals:List Value} {m:Nat} (hown:w'.ownsRow base t 1 v' (vals.length+1) (vals++[u])) (hcell:w'.cell? ⟨p,r,none⟩=some v')
  (hv':∀ g,v'.ownBlock=some g→col' g=r) (hle:vals.length≤c) (h6:∀ i (h:i<vals.length),∃ m,Sl w vals[i] m sz (f i)) (h7:∀ x∈vals,∀ g,x.ownBlock=some g→g<w.heap.size∧col g=8)
  (hblk:∀ b,b<w.heap.size→col b=8→w'.heap[b]? = w.heap[b]?) (hcol:∀ b,b<w.heap.size→col b=8→col' b=col b) (hsz:w.heap.size≤w'.heap.size) (hu:Sl w' u m sz (f vals.length)) (hug:∀ g,u.ownBlock=some g→g<w'.heap.size∧col' g=8) {md:Nat} (hmd:(vals.length+1)%md=0):BkRow base col' w' p r t sz md f (c+1):=by
 refine ⟨v',vals++[u],hcell,by rw [List.length_append];exact hown,hv',by simp;omega,by simpa using hmd,fun i hi=>?_,fun x hx g hg=>?_⟩
 ·rcases Nat.lt_or_ge i vals.length with h1 | h1
  ·obtain ⟨m',hm⟩:=h6 i h1
   refine ⟨m',?_⟩
   rw [List.getElem_append_left h1]
   exact hm.frame fun g hg=>hblk g (h7 _ (List.getElem_mem h1) g hg).1 (h7 _ (List.getElem_mem h1) g hg).2
  ·have:i=vals.length:=by simp at hi;omega
   subst this
   refine ⟨m,?_⟩
   simpa using hu
 ·rcases List.mem_append.1 hx with h1 | h1
  ·obtain ⟨q1,q2⟩:=h7 x h1 g hg
   exact ⟨Nat.lt_of_lt_of_le q1 hsz,(hcol g q1 q2).trans q2⟩
  ·have:x=u:=by simpa using h1
   subst this
   exact hug g hg
theorem BkM.push {md md':Nat→Nat} {base:Nat} {col col':Nat→Nat} {w w1:World} {p:Nat} {v0:Value} {c m:Nat} {v u:Value} {vals:List Value} {g gcap:Nat} (r:Nat) (hr1:1≤r) (hr7:r≤7) (hb:BkM md base col w p v0 c) (hle:vals.length≤c)
  (h6:∀ i (h:i<vals.length),∃ m,Sl w vals[i] m (rowSz r) (rowF r i)) (h7:∀ x∈vals,∀ g,x.ownBlock=some g→g<w.heap.size∧col g=8)
  (hown:w1.ownsRow base (rowT r) 1 (.slice (some ⟨g,0,none⟩) (vals.length+1) gcap) (vals.length+1) (vals++[u])) (hblk:∀ b,b<w.heap.size→v.ownBlock≠some b→col b≤8→w1.heap[b]? = w.heap[b]?) (hsz:w.heap.size≤w1.heap.size)
  (hv4:∀ b,v.ownBlock=some b→col b=r) (hcol:∀ b,b<w.heap.size→col b≤8→col' b=col b) (hlow:∀ b,b<base→90≤col' b) (hg:col' g=r) (hgp:g≠p)
  (hu:Sl w1 u m (rowSz r) (rowF r vals.length)) (hug:∀ b,u.ownBlock=some b→b<w1.heap.size∧col' b=8∧b≠p) (hmd:(vals.length+1)%md' r=0) (hmo:∀ s,s≠r→md' s=md s) :
  BkM md' base col' (w1.setCell ⟨p,r,none⟩ (.slice (some ⟨g,0,none⟩) (vals.length+1) gcap)) p v0 (c+1):=by
 obtain ⟨cs,hp,hl⟩:=hb.blk
 have hpl:=lt_of_blk hp
 have hpv:v.ownBlock≠some p:=fun e=>by have:=hv4 p e;rw [hb.colp] at this;omega
 have hp1:w1.heap[p]? = some (.cells cs.toArray 35 (0,0)):=(hblk p hpl hpv (by rw [hb.colp];omega)).trans hp
 have hset:∀ k,k≠p→(w1.setCell ⟨p,r,none⟩ (.slice (some ⟨g,0,none⟩) (vals.length+1) gcap)).heap[k]? = w1.heap[k]? := fun k hk=>heap_setCell_other _ _ _ _ hk
 have hp2:=blk_set hp1 r (.slice (some ⟨g,0,none⟩) (vals.length+1) gcap)
 have hcp:∀ s,s≠r→(w1.setCell ⟨p,r,none⟩ (.slice (some ⟨g,0,none⟩) (vals.length+1) gcap)).cell? ⟨p,s,none⟩=w.cell? ⟨p,s,none⟩:=fun s hs=>by
  have e1:w1.cell? ⟨p,s,none⟩=w.cell? ⟨p,s,none⟩:=World.cell?_of_block (w:=w) (hp1.trans hp.symm)
  rw [← e1]
  simp only [World.cell?,hp1,hp2]
  simp [List.getElem?_set_ne (Ne.symm hs)]
 have hb':∀ b,b<w.heap.size→col b≠0→col b≠r→col b≤8→(w1.setCell ⟨p,r,none⟩ (.slice (some ⟨g,0,none⟩) (vals.length+1) gcap)).heap[b]? = w.heap[b]? := fun b hb1 h0 h4 h8=>by
  rw [hset b (fun e=>h0 (by rw [e];exact hb.colp)),hblk b hb1 (fun e=>h4 (hv4 b e)) h8]
 have hs2:w.heap.size≤(w1.setCell ⟨p,r,none⟩ (.slice (some ⟨g,0,none⟩) (vals.length+1) gcap)).heap.size:=by simpa using hsz
 have c4:(w1.setCell ⟨p,r,none⟩ (.slice (some ⟨g,0,none⟩) (vals.length+1) gcap)).cell? ⟨p,r,none⟩=some (.slice (some ⟨g,0,none⟩) (vals.length+1) gcap):=by
  refine row_cell hp2 ?_
  rw [List.getElem?_set_self (by omega)]
 refine ⟨⟨_,hp2,by simp [hl]⟩,(hcol p hpl (by rw [hb.colp];omega)).trans hb.colp,hb.ge,(hcp 0 (by omega)).trans hb.c0,fun s hs1 hs7=>?_,hlow⟩
 by_cases e:s=r
 ·subst e
  refine BkRow.push (own_of_blockB hown fun k hk=>hset k ?_) c4 ?_ hle h6 h7 (fun b hb1 h8=>hb' b hb1 (by omega) (by omega) (by omega)) (fun b hb1 h8=>hcol b hb1 (by omega)) hs2 (hu.frame fun k hk=>hset k (hug k hk).2.2) (fun k hk=>⟨by simpa using (hug k hk).1,(hug k hk).2.1⟩) hmd
  ·have:g=k:=by simpa [Value.ownBlock] using hk
   rw [← this];exact hgp
  ·intro k hk
   have:g=k:=by simpa [Value.ownBlock] using hk
   rw [← this];exact hg
 ·rw [hmo s e]
  exact (hb.rows s hs1 hs7).frame (hcp s e) (fun b hb1 hx=>hb' b hb1 (by omega) (by omega) (by omega)) (fun b hb1 hx=>hcol b hb1 (by omega)) hs2 (by omega)
def wkNums (x:Wk):List Int:=[(x.place:Int),x.r 0,x.r 1,x.r 2,x.r 3,x.steps]
def stNums (sourced:Bool) (m:Sm):List Int:=if sourced then [(m.read:Int)] else [(m.room:Int),(m.read:Int),(m.words.length:Int)]++m.words
theorem SvAt.below {B:Nat} {w w':World} {v:Value} {s:List Int} (h:SvAt B w v s) (hb:Below w.heap.size w w'):SvAt B w' v s:=own_of_blockB h fun g hg=>by
 obtain ⟨cur,hc⟩:=own_blockB h hg
 exact hb.block g (lt_of_blk hc)
theorem SvAt.lt {B:Nat} {w:World} {v:Value} {s:List Int} (h:SvAt B w v s) {g:Nat} (hg:v.ownBlock=some g):g<w.heap.size∧B≤g:=by
 obtain ⟨cur,hc⟩:=own_blockB h hg
 exact ⟨lt_of_blk hc,own_baseB h hg⟩
theorem SvAt.ne {B:Nat} {w:World} {v:Value} {s:List Int} (h:SvAt B w v s) {b:Nat} {c:Array Value} {t:TypeId} {f:Nat×Nat} (hb:w.heap[b]? = some (.cells c t f)) (ht:t≠5):v.ownBlock≠some b:=fun e=>by
 obtain ⟨cur,hc⟩:=own_blockB h e
 exact ne_of_types hb hc ht rfl
theorem SvAt.ne_chan {B:Nat} {w:World} {v:Value} {s:List Int} (h:SvAt B w v s) {b cap:Nat} {buf:Array Value} {cl tm:Bool} {x y:Nat} (hb:w.heap[b]? = some (.chan cap buf cl x y tm)):v.ownBlock≠some b:=fun e=>by
 obtain ⟨cur,hc⟩:=own_blockB h e
 exact ne_of_chan hc hb rfl
theorem Wrote.of_alloc {B:Nat} {w w':World} {o:Obj} {v v':Value} {s:List Int} (h:Wrote B (w.alloc o) v s v' w'):Wrote B w v s v' w':=
 ⟨h.at',(Fr.of_below ((Below.refl _ _).alloc (Nat.le_refl _) o)).trans h.fr fun _ _ e=>e,fun g hg=>by
  rcases h.own g hg with h1 | h1
  ·exact Or.inl h1
  ·exact Or.inr (by simp at h1;omega)⟩
theorem Wrote.of_draw {B:Nat} {w w':World} {q:Nat} {v v':Value} {s:List Int} (h:Wrote B (w.drewN q) v s v' w'):Wrote B w v s v' w':=
 ⟨h.at',⟨h.fr.os,h.fr.tape,h.fr.output,h.fr.size,h.fr.block⟩,h.own⟩
theorem ints_new {w:World} {l:List Int} (hl:l.length≤1000):IntsAt (w.alloc (.cells (intRow l).toArray 3)) (.slice (some ⟨w.heap.size,0,none⟩) l.length l.length) l:=by
 refine ⟨_,_,rfl,by omega,Nat.le_refl _,Or.inr ⟨w.heap.size,0,rfl,fun i hi j hj=>?_⟩⟩
 have hj0:j=0:=by omega
 subst hj0
 have:=row_cell (i:=i) (v:=.int .i64 (l.getD i 0)) (heap_alloc_new w (.cells (intRow l).toArray 3)) (by rw [intRow_get _ _ hi,getD_eq _ _ _ hi])
 simpa using this
theorem append_new {B:Nat} {w:World} {v:Value} {s:List Int} (l:List Int) (hl:l.length≤1000) (hB:B≤w.heap.size) (hs:SvAt B w v s) (hlen:s.length≤52776558133248) :
  Calls Tryz.prog 88 #[v,.slice (some ⟨w.heap.size,0,none⟩) l.length l.length] (w.alloc (.cells (intRow l).toArray 3)) fun e w'=>∃ v',e=.returned v'∧Wrote B w v (s++bytesOf l) v' w':=by
 have hb:Below w.heap.size w (w.alloc (.cells (intRow l).toArray 3)):=(Below.refl _ _).alloc (Nat.le_refl _) _
 refine (append_calls (by simp;omega) (hs.below hb) (ints_new hl) (fun g hg e=>?_) (by omega)).mono fun e w' ⟨v',h1,h2⟩=>⟨v',h1,h2.of_alloc⟩
 have:=(hs.lt hg).1
 have:w.heap.size=g:=by simpa [Value.ownBlock] using e
 omega
set_option maxRecDepth 100000 in
set_option maxHeartbeats 2000000 in
theorem wsave_calls {w:World} {b:Nat} {vc:Value} {code:List Ins} {x:Wk} (hw:WkAt w b vc code x) {B:Nat} {v:Value} {s:List Int} (hB:B≤w.heap.size) (hs:SvAt B w v s) (hlen:s.length≤35184372088832) :
  Calls Tryz.prog 72 #[.pointer (some ⟨b,0,none⟩),v] w fun e w'=>∃ v',e=.returned v'∧Wrote B w v (s++bytesOf (wkNums x)) v' w':=by
 obtain ⟨-,c1, -⟩:=hw.cells
 have HA1:Hid (Calls Tryz.prog 88 #[v,.slice (some ⟨w.heap.size,0,none⟩) 1 1] (w.alloc (.cells #[.int .i64 x.place] 3)) fun e w'=>∃ v',e=.returned v'∧Wrote B w v (s++bytesOf [(x.place:Int)]) v' w'):=append_new [(x.place:Int)] (by simp) hB hs (by omega)
 have HA2:Hid (∀ v1 w1,Wrote B w v (s++bytesOf [(x.place:Int)]) v1 w1→Calls Tryz.prog 88 #[v1,.slice (some ⟨b,2,none⟩) 4 4] w1 fun e w'=>∃ v',e=.returned v'∧Wrote B w v (s++bytesOf [(x.place:Int)]++bytesOf [x.r 0,x.r 1,x.r 2,x.r 3]) v' w'):=fun v1 w1 h1=>by
  have hw1:WkAt w1 b vc code x:=hw.stays fun y hy=>by
   have hyb:∃ c t f,w.heap[y]? = some (.cells c t f)∧t≠5:=by
    rcases hy with rfl | hy
    ·exact ⟨_,_,_,hw.blk,by decide⟩
    ·obtain ⟨cur,hc⟩:=own_block hw.own hy;exact ⟨_,_,_,hc,by decide⟩
   obtain ⟨c,t,f,hc,ht⟩:=hyb
   exact h1.fr.block y (lt_of_blk hc) (hs.ne hc ht)
  obtain ⟨-, -,d2,d3,d4,d5, -⟩:=hw1.cells
  have hi:IntsAt w1 (.slice (some ⟨b,2,none⟩) 4 4) [x.r 0,x.r 1,x.r 2,x.r 3]:=by
   refine ⟨_,_,rfl,by simp,by simp,Or.inr ⟨b,2,rfl,fun i hi j hj=>?_⟩⟩
   have hi':i<4:=hi
   have hc:(i=0∨i=1∨i=2∨i=3)∧j=0:=by omega
   obtain ⟨rfl | rfl | rfl | rfl,rfl⟩:=hc
   ·exact d2
   ·exact d3
   ·exact d4
   ·exact d5
  refine (append_calls (Nat.le_trans hB h1.fr.size) h1.at' hi (fun g hg e=>?_) (by simp [bytesOf_length];omega)).mono fun e w' ⟨v',q1,q2⟩=>⟨v',q1,h1.trans q2⟩
  have:b=g:=by simpa [Value.ownBlock] using e
  subst this
  exact h1.at'.ne hw1.blk (by decide) hg
 have HA3:Hid (∀ v1 w1,Wrote B w v (s++bytesOf [(x.place:Int)]++bytesOf [x.r 0,x.r 1,x.r 2,x.r 3]) v1 w1→w1.cell? ⟨b,6,none⟩=some (.int .i64 x.steps)∧Calls Tryz.prog 88 #[v1,.slice (some ⟨w1.heap.size,0,none⟩) 1 1] (w1.alloc (.cells #[.int .i64 x.steps] 3)) fun e w'=>∃ v',e=.returned v'∧Wrote B w v (s++bytesOf (wkNums x)) v' w'):=fun v1 w1 h1=>by
  have e6:w1.cell? ⟨b,6,none⟩=some (.int .i64 x.steps):=by
   rw [← hw.cells.2.2.2.2.2.2.1]
   exact World.cell?_of_block (w:=w) (h1.fr.block b (lt_of_blk hw.blk) (hs.ne hw.blk (by decide)))
  refine ⟨e6,(append_new [x.steps] (by simp) (Nat.le_trans hB h1.fr.size) h1.at' (by simp [bytesOf_length];omega)).mono fun e w' ⟨v',q1,q2⟩=>⟨v',q1,?_⟩⟩
  have e:s++bytesOf [(x.place:Int)]++bytesOf [x.r 0,x.r 1,x.r 2,x.r 3]++bytesOf [x.steps]=s++bytesOf (wkNums x):=by simp [bytesOf,wkNums]
  rw [e] at q2
  exact h1.trans q2
 clear hs hw
 go_enter Tryz.func72,Tryz.ntmps72
 go_wp2_with fail
 refine (unhide HA1).mono ?_
 rintro e w1 ⟨v1,rfl,h1⟩
 have H1:=hide (HA2.out v1 w1 h1)
 clear h1 HA1 HA2
 go_wp2_with fail
 refine (unhide H1).mono ?_
 rintro e w2 ⟨v2,rfl,h2⟩
 obtain ⟨c6,h3⟩:=HA3.out v2 w2 h2
 have H3:=hide h3
 clear h2 HA3 H1 h3
 go_wp2_with fail
 refine (unhide H3).mono ?_
 rintro e w3 ⟨v3,rfl,h4⟩
 have H4:=hide h4
 clear h4 H3
 go_wp2
 go_ret
 exact ⟨v3,rfl,H4.out⟩
def BytesAt (w:World) (v:Value) (l:List Int):Prop:=Sl w v l.length 1 fun i _=>.int .u8 (l.getD i 0)
structure RdAt (rs:List Int) (B:Nat) (w:World) (rb:Nat) (l:List Int):Prop where
 blk:∃ v,w.heap[rb]? = some (.cells #[v] 158 (0,0))∧BytesAt w v (bytesOf l++rs)∧∀ g,v.ownBlock=some g→g<B
 ge:B≤rb
 small:l.length≤4398046511104
 short:rs.length<8
variable {rs:List Int}
theorem RdAt.keep {B:Nat} {w w':World} {rb:Nat} {l:List Int} (h:RdAt rs B w rb l) (hb:Below B w w') (hr:w'.heap[rb]? = w.heap[rb]?):RdAt rs B w' rb l:=by
 obtain ⟨v,h1,⟨a,cap,hv,hn,hcap,hc⟩,h3⟩:=h.blk
 refine ⟨⟨v,hr.trans h1,⟨a,cap,hv,hn,hcap,?_⟩,h3⟩,h.ge,h.small,h.short⟩
 rcases hc with hc | ⟨b,off,ha,hc⟩
 ·exact Or.inl hc
 ·refine Or.inr ⟨b,off,ha,fun i hi j hj=>?_⟩
  rw [← hc i hi j hj]
  exact hb.cell (p:=⟨b,_,none⟩) (h3 b (by rw [hv,ha];rfl))
def Fits64 (x:Int):Prop := -9223372036854775808≤x∧x≤9223372036854775807
theorem getD_append_left {α : Type} (a b:List α) (i:Nat) (d : α) (h:i<a.length):(a++b).getD i d=a.getD i d:=by simp only [List.getD,List.getElem?_append_left h]
theorem getD_append_right {α : Type} (a b:List α) (i:Nat) (d : α):(a++b).getD (a.length+i) d=b.getD i d:=by simp only [List.getD];rw [List.getElem?_append_right (by omega),Nat.add_sub_cancel_left]
theorem bytesOf_cons (x:Int) (l:List Int):bytesOf (x::l)=eightB x++bytesOf l:=by simp [bytesOf]
theorem eightB_getD (x:Int) (j:Nat) (h:j<8):(eightB x).getD j 0=byteAt x (56-8*j):=by simp [eightB,List.getD,h]
def accN (u:Int) (j:Nat):Int:=u / 2^(64-8*j)
theorem accN_step (u:Int) (j:Nat) (h:j<8):accN u (j+1)=accN u j*256+u / 2^(56-8*j)%256:=by
 have:j=0∨j=1∨j=2∨j=3∨j=4∨j=5∨j=6∨j=7:=by omega
 rcases this with rfl | rfl | rfl | rfl | rfl | rfl | rfl | rfl<;>(simp [accN];omega)
theorem accN_bd (u:Int) (j:Nat) (h0:0≤u) (h1:u<18446744073709551616) (hj:j<8):0≤accN u j∧accN u j<72057594037927936:=by
 have:j=0∨j=1∨j=2∨j=3∨j=4∨j=5∨j=6∨j=7:=by omega
 rcases this with rfl | rfl | rfl | rfl | rfl | rfl | rfl | rfl<;>(simp [accN];omega)
theorem or_low (a b:Int) (ha:0≤a) (ha1:a<72057594037927936) (hb:0≤b) (hb1:b<256):bits .or .u64 (a*256) b=a*256+b:=by
 obtain ⟨x,rfl⟩:∃ x:Nat,a=x:=⟨a.toNat,by omega⟩
 obtain ⟨y,rfl⟩:∃ y:Nat,b=y:=⟨b.toNat,by omega⟩
 have e:bits .or .u64 ((x:Int)*256) (y:Int)=bits .or .u64 (y:Int) ((x:Int)*256):=by
  have:=bits_or_u64_nat (x*256) y (by omega) (by omega)
  have h2:=bits_or_u64_nat y (x*256) (by omega) (by omega)
  rw [Nat.or_comm] at h2
  simp only [Int.natCast_mul,Int.cast_ofNat_Int] at this h2
  rw [this,h2]
 rw [e,u64_or8 (x:=(x:Int)*256) (y:=(y:Int)) (by omega) (by omega) (by omega) (by omega) (by omega)]
 omega
theorem byteAt_bd (x:Int) (sh:Nat):0≤byteAt x sh∧byteAt x sh<256:=by unfold byteAt;omega
set_option maxRecDepth 100000 in
set_option maxHeartbeats 2000000 in
theorem number_calls {B:Nat} {w:World} {rb:Nat} {x:Int} {l:List Int} (h:RdAt rs B w rb (x::l)) (hx:Fits64 x) :
  Calls Tryz.prog 105 #[.pointer (some ⟨rb,0,none⟩)] w fun e w'=>e=.returned (.int .i64 x)∧RdAt rs B w' rb l∧Fr (fun y=>y=rb) w w':=by
 obtain ⟨v,hblk,hby,hown⟩:=h.blk
 obtain ⟨a,cap,rfl,hn,hcap,hc⟩:=hby
 obtain ⟨m,hm⟩:∃ m,m=8*l.length+rs.length:=⟨_,rfl⟩
 have hlen:(bytesOf (x::l)++rs).length=m+8:=by rw [List.length_append,bytesOf_length];simp;omega
 have hlm:(bytesOf l++rs).length=m:=by rw [List.length_append,bytesOf_length];omega
 rw [hlen] at hn hcap hc hblk
 have hsm:=h.small
 have hsh:=h.short
 simp only [List.length_cons] at hsm
 rcases hc with hc | ⟨g,off,rfl,hc⟩
 ·omega
 have hgB:=hown g rfl
 have hge:=h.ge
 have z0:=blk_cell hblk 0 _ rfl
 obtain ⟨z1,z2⟩:=z0
 have hcell:∀ (wx:World),Below B w wx→∀ j,j<8→wx.cell? ⟨g,off+j,none⟩=some (.int .u8 (byteAt x (56-8*j))):=fun wx hb j hj=>by
  have:=hc j (by omega) 0 (by decide)
  dsimp only at this
  rw [bytesOf_cons,List.append_assoc,getD_append_left _ _ _ _ (by rw [eightB_length];exact hj),eightB_getD x j hj] at this
  rw [← this]
  simpa using hb.cell (p:=⟨g,off+j,none⟩) hgB
 have HC:=hide hcell
 have HF:Hid (RdAt rs B (w.setCell ⟨rb,0,none⟩ (.slice (some ⟨g,off+8,none⟩) m (cap-8))) rb l∧Fr (fun y=>y=rb) w (w.setCell ⟨rb,0,none⟩ (.slice (some ⟨g,off+8,none⟩) m (cap-8)))):=by
  refine ⟨⟨⟨.slice (some ⟨g,off+8,none⟩) m (cap-8),?_,⟨_,_,by rw [hlm],by rw [hlm];omega,by rw [hlm];omega,Or.inr ⟨g,off+8,rfl,fun i hi j hj=>?_⟩⟩,fun y hy=>hown y hy⟩,hge,by omega,hsh⟩,(Fr.refl (fun y=>y=rb) w).setCell (p:=⟨rb,0,none⟩) (Or.inr rfl) _⟩
  ·have:=blk_set (w:=w) hblk 0 (.slice (some ⟨g,off+8,none⟩) m (cap-8))
   simpa using this
  ·rw [hlm] at hi
   have hj0:j=0:=by omega
   subst hj0
   have:=hc (8+i) (by omega) 0 (by decide)
   dsimp only at this
   rw [bytesOf_cons,List.append_assoc,show 8+i=(eightB x).length+i by rw [eightB_length],getD_append_right,eightB_length] at this
   have e:w.cell? ⟨g,off+8+i*1+0,none⟩=w.cell? ⟨g,off+(8+i)*1+0,none⟩:=by
    have:off+8+i*1+0=off+(8+i)*1+0:=by omega
    rw [this]
   rw [← this, ← e]
   exact World.cell?_of_block (w:=w) (Below.heap_setCell _ _ _ _ (by dsimp only;omega))
 have HF2:Hid (cap≤8→RdAt rs B (w.setCell ⟨rb,0,none⟩ (.slice (some ⟨g,off,none⟩) m 0)) rb l∧Fr (fun y=>y=rb) w (w.setCell ⟨rb,0,none⟩ (.slice (some ⟨g,off,none⟩) m 0))):=fun h8=>by
  refine ⟨⟨⟨.slice (some ⟨g,off,none⟩) m 0,?_,⟨_,_,by rw [hlm],by rw [hlm];omega,by rw [hlm];omega,Or.inl (by rw [hlm];omega)⟩,fun y hy=>hown y hy⟩,hge,by omega,hsh⟩,(Fr.refl (fun y=>y=rb) w).setCell (p:=⟨rb,0,none⟩) (Or.inr rfl) _⟩
  have:=blk_set (w:=w) hblk 0 (.slice (some ⟨g,off,none⟩) m 0)
  simpa using this
 have hu0:(0:Int)≤x%18446744073709551616:=by omega
 have hu1:x%18446744073709551616<18446744073709551616:=by omega
 have HB:Hid (∀ j,byteAt x (56-8*j)=x%18446744073709551616 / 2^(56-8*j)%256):=fun j=>rfl
 have HE:Hid (IntKind.i64.wrap (accN (x%18446744073709551616) 8)=x):=by
  unfold Hid accN
  rw [IntKind.wrap_i64]
  simp
  obtain ⟨q1,q2⟩:=hx
  omega
 have H0:Hid (accN (x%18446744073709551616) 0=0):=by
  unfold Hid accN
  simp
  omega
 clear hc hcell hblk hown h hx hm hlen hlm
 generalize x%18446744073709551616=u at *
 go_enter Tryz.func105,Tryz.ntmps105
 go_wp2
 go_loopw [3,19] (fun nu i wr=>∃ j:Nat,j≤8∧i=.int .i64 j∧nu=.int .u64 (accN u j)∧wr=w) (fun _ i _=>8-(intOf i).toNat)
 case atStart=>exact ⟨0,by omega,rfl,by rw [H0.out],rfl⟩
 case round=>
  obtain ⟨j,hj,rfl,rfl,hwr⟩:=hrel
  subst hwr
  by_cases hlt:j<8
  ·have d0:=HC.out wr (Below.refl _ _) j hlt
   have hst:=accN_step u j hlt
   rw [← HB.out j] at hst
   have hbd:=accN_bd u j hu0 hu1 hlt
   obtain ⟨hb0,hb1⟩:=byteAt_bd x (56-8*j)
   obtain ⟨ha0,ha1⟩:=hbd
   have hor:=or_low (accN u j) (byteAt x (56-8*j)) ha0 ha1 hb0 hb1
   have HST:=hide hst
   clear HC hst HB
   generalize byteAt x (56-8*j)=bt at *
   generalize accN u j=ac at *
   go_wp2
   go_roundw
   case rel=>exact ⟨j+1,by omega,by go_num,by rw [HST.out],by first | rfl | trivial⟩
   case measure=>simp [intOf];omega
  ·have hj8:j=8:=by omega
   subst hj8
   have he:=HE.out
   go_wp2
   all_goals go_ret
   all_goals first
    | exact ⟨rfl,HF.out⟩
    | exact ⟨rfl,HF2.out (by omega)⟩
variable {rs:List Int}
set_option maxHeartbeats 1000000 in
theorem within_calls {B:Nat} {w:World} {rb:Nat} {x:Int} {l:List Int} (h:RdAt rs B w rb (x::l)) (hx:Fits64 x) (least most:Int) (h1:least≤x) (h2:x≤most) :
  Calls Tryz.prog 104 #[.pointer (some ⟨rb,0,none⟩),.int .i64 least,.int .i64 most] w fun e w'=>e=.returned (.int .i64 x)∧RdAt rs B w' rb l∧Fr (fun y=>y=rb) w w':=by
 have HN:=hide (number_calls h hx)
 have q1:decide (x<least)=false:=by simp;omega
 have q2:decide (most<x)=false:=by simp;omega
 clear h hx
 go_enter Tryz.func104,Tryz.ntmps104
 go_wp2_with fail
 refine (unhide HN).mono ?_
 rintro e w1 ⟨rfl,hr,hf⟩
 have HR:=hide hr
 have HF:=hide hf
 clear hr hf HN
 go_wp2
 go_ret
 exact ⟨rfl,HR.out,HF.out⟩
set_option maxHeartbeats 1000000 in
theorem count_calls {B:Nat} {w:World} {rb:Nat} {x:Int} {l:List Int} (h:RdAt rs B w rb (x::l)) (hx:Fits64 x) (h1:0≤x) (h2:x≤l.length) :
  Calls Tryz.prog 109 #[.pointer (some ⟨rb,0,none⟩)] w fun e w'=>e=.returned (.int .i64 x)∧RdAt rs B w' rb l∧Fr (fun y=>y=rb) w w':=by
 have HN:=hide (number_calls h hx)
 have hsm:=h.small
 simp only [List.length_cons] at hsm
 have q1:decide (x<0)=false:=by simp;omega
 clear h hx
 go_enter Tryz.func109,Tryz.ntmps109
 go_wp2_with fail
 refine (unhide HN).mono ?_
 rintro e w1 ⟨rfl,hr,hf⟩
 have HR:=hide hr
 have HF:=hide hf
 obtain ⟨v,hblk,⟨a,cap,rfl,hn,hcap, -⟩, -⟩:=hr.blk
 obtain ⟨m,hm⟩:∃ m,m=8*l.length+rs.length:=⟨_,rfl⟩
 have hsh:=hr.short
 rw [List.length_append,bytesOf_length, ← hm] at hblk hn
 have z0:=(blk_cell hblk 0 _ rfl).1
 have q2:decide ((l.length:Int)<x)=false:=by simp;omega
 have e8:(m:Int) / 8=l.length:=by omega
 clear hr hf HN hblk hm
 go_wp2
 go_ret
 exact ⟨rfl,HR.out,HF.out⟩
set_option maxHeartbeats 1000000 in
theorem end_calls {B:Nat} {w:World} {rb:Nat} (h:RdAt [] B w rb []) :
  Calls Tryz.prog 99 #[.pointer (some ⟨rb,0,none⟩)] w fun e w'=>e=.returned (.tuple #[])∧w'=w:=by
 obtain ⟨v,hblk,⟨a,cap,rfl,hn,hcap, -⟩, -⟩:=h.blk
 rw [List.append_nil,bytesOf_length] at hblk
 have z0:=(blk_cell hblk 0 _ rfl).1
 simp only [List.length_nil,Nat.mul_zero] at z0
 clear hblk h
 go_enter Tryz.func99,Tryz.ntmps99
 go_wp2
 go_end0
 exact ⟨rfl,rfl⟩
set_option maxRecDepth 100000 in
set_option maxHeartbeats 2000000 in
theorem numbers_calls {B:Nat} {w:World} {rb:Nat} {ms l:List Int} (h:RdAt rs B w rb (ms++l)) (hx:∀ x∈ms,Fits64 x) (hB:B≤w.heap.size) (hm:ms.length≤1099511627776) :
  Calls Tryz.prog 108 #[.pointer (some ⟨rb,0,none⟩),.int .i64 ms.length] w fun e w'=>∃ v,e=.returned v∧w'.ownsRow w.heap.size 3 1 v ms.length (intRow ms)∧RdAt rs B w' rb l∧Fr (fun y=>y=rb) w w':=by
 obtain ⟨i0,hi,hz0,hz1,hz2⟩:=info_parts Tryz.info3
 have hrb:rb<w.heap.size:=by obtain ⟨v,hblk, -⟩:=h.blk;exact lt_of_blk hblk
 have HN:Hid (∀ wx k (hk:k<ms.length),RdAt rs B wx rb (ms.drop k++l)→Calls Tryz.prog 105 #[.pointer (some ⟨rb,0,none⟩)] wx fun e w'=>e=.returned (.int .i64 ms[k])∧RdAt rs B w' rb (ms.drop (k+1)++l)∧Fr (fun y=>y=rb) wx w'):=fun wx k hk hr=>by
  rw [List.drop_eq_getElem_cons hk] at hr
  exact number_calls hr (hx _ (List.getElem_mem hk))
 have H0:Hid (RdAt rs B w rb (ms.drop 0++l)):=by unfold Hid;simpa using h
 clear h hx
 go_enter Tryz.func108,Tryz.ntmps108
 go_wp2
 go_loopw [5,7] (fun st i wr=>∃ (k:Nat) (v':Value),k≤ms.length∧i=.int .i64 k∧v'=st∧wr.ownsRow w.heap.size 3 1 v' k (intRow (ms.take k))∧RdAt rs B wr rb (ms.drop k++l)∧Fr (fun y=>y=rb) w wr) (fun _ i _=>ms.length-(intOf i).toNat)
 case atStart=>exact ⟨0,_,Nat.zero_le _,rfl,rfl,⟨rfl,Or.inl ⟨rfl,rfl⟩⟩,H0.out,Fr.refl _ _⟩
 case round=>
  clear H0
  obtain ⟨k,v1,hk,rfl,rfl,hown,hr,hf⟩:=hrel
  by_cases hlt:k<ms.length
  ·have HN1:=hide (HN.out wr k hlt hr)
   have HO:=hide hown
   have HF:=hide hf
   have hsz:=hf.size
   obtain ⟨a2,cap2,rfl⟩:=own_slice hown
   have HT:Hid (intRow (ms.take (k+1))=intRow (ms.take k)++[.int .i64 ms[k]]):=by
    unfold Hid
    rw [List.take_succ_eq_append_getElem hlt];exact intRow_snoc _ _
   clear HN hr hown hf
   generalize ms[k]=x at *
   go_wp2_with fail
   refine (unhide HN1).mono ?_
   rintro e w1 ⟨rfl,hr1,hf1⟩
   have HO1:Hid (w1.ownsRow w.heap.size 3 1 (.slice a2 k cap2) k (intRow (ms.take k))):=own_of_blockB HO.out fun g hg=>by
    obtain ⟨cur,hc⟩:=own_blockB HO.out hg
    have:=own_baseB HO.out hg
    exact hf1.block g (lt_of_blk hc) (by omega)
   have HR1:=hide hr1
   have HF1:Hid (Fr (fun y=>y=rb) w w1):=HF.out.trans hf1 fun _ _ e=>e
   have hsz1:w.heap.size≤w1.heap.size:=Nat.le_trans hsz hf1.size
   have hrb1:rb<w1.heap.size:=by omega
   clear hr1 hf1 HN1 HO HF
   have h63:k+1≤maxLen:=by unfold maxLen;omega
   have hbytes:(k+1)*8≤140737488355328:=by omega
   go_wp2_with (at_builtin;refine wpList_append_lies _ rfl (.tmp 9) (.tmp 12) 22 rfl w.heap.size 3 i0 (.int .i64 0) 1 8 Tryz.underlying22 hi hz0 hz1 hz2 rfl (by decide) (.slice a2 k cap2) k (intRow (ms.take k)) rfl (HO1.out.alloc _) ⟨w1.heap.size,0,none⟩ 1 1 [.int .i64 x] rfl rfl ?c1 ?c2 (by decide) h63 hbytes (by simp;omega) (w1.heap.size+1) (by simp) ?_)
   case c1=>exact cell_one_new _ _ _
   case c2=>intro u hu;simp at hu;subst hu;rfl
   intro g gcap w2 hown hgrow hor hglt
   have hne:∀ y,(Value.slice a2 k cap2).ownBlock=some y→w.heap.size≤y:=fun y hy=>own_baseB HO1.out hy
   have HF2:Hid (Fr (fun y=>y=rb) w w2):=(HF1.out.alloc _).grown hgrow fun y hy=>Or.inl (hne y hy)
   have HR2:Hid (RdAt rs B w2 rb (ms.drop (k+1)++l)):=by
    have hq:w2.heap[rb]? = w1.heap[rb]? := by
     rw [hgrow.block rb (by simp;omega) (fun e=>by have:=hne rb e.symm;omega),Below.heap_alloc _ _ _ hrb1]
    refine HR1.out.keep ⟨hgrow.os,hgrow.tape,hgrow.output,?_,fun y hy=>?_⟩ hq
    ·have:=hgrow.size;simp at this;omega
    ·rw [hgrow.block y (by simp;omega) (fun e=>by have:=hne y e.symm;omega),Below.heap_alloc _ _ _ (by omega)]
   have HO2:Hid (w2.ownsRow w.heap.size 3 1 (.slice (some ⟨g,0,none⟩) (k+1) gcap) (k+1) (intRow (ms.take (k+1)))):=by rw [HT.out];exact hown
   clear hown hgrow hor hne HO1 HR1 HF1
   go_wp2
   go_roundw
   case rel=>exact ⟨k+1,_,by omega,by go_num,rfl,HO2.out,HR2.out,HF2.out⟩
   case measure=>simp [intOf];omega
  ·have hkl:k=ms.length:=by omega
   subst hkl
   rw [List.take_length] at hown
   rw [List.drop_length,List.nil_append] at hr
   have HO:=hide hown
   have HR:=hide hr
   have HF:=hide hf
   clear hown hr hf HN
   go_wp2
   go_ret
   exact ⟨v1,rfl,HO.out,HR.out,HF.out⟩
variable {rs:List Int}
theorem RdAt.fr {B:Nat} {w w':World} {rb b:Nat} {l:List Int} (h:RdAt rs B w rb l) (hf:Fr (fun y=>y=b) w w') (hb:B≤b) (hB:B≤w.heap.size) (hne:b≠rb):RdAt rs B w' rb l:=by
 have hrb:rb<w.heap.size:=by obtain ⟨v,hblk, -⟩:=h.blk;exact lt_of_blk hblk
 exact h.keep ⟨hf.os,hf.tape,hf.output,hf.size,fun k hk=>hf.block k (by omega) (by omega)⟩ (hf.block rb hrb fun e=>hne e.symm)
theorem RdAt.set {B:Nat} {w:World} {rb b i:Nat} {l:List Int} (h:RdAt rs B w rb l) (hb:B≤b) (hB:B≤w.heap.size) (hne:b≠rb) (v:Value):RdAt rs B (w.setCell ⟨b,i,none⟩ v) rb l:=
 h.fr (b:=b) ((Fr.refl (fun y=>y=b) w).setCell (p:=⟨b,i,none⟩) (Or.inr rfl) v) hb hB hne
def partW (x y:Wk) (j:Nat):Wk:=⟨y.place,fun i=>if i<j then y.r i else x.r i,x.steps⟩
theorem WkAt.setReg {w:World} {b:Nat} {vc:Value} {code:List Ins} {x y:Wk} {j:Nat} (h:WkAt w b vc code (partW x y j)) (hj:j<4):WkAt (w.setCell ⟨b,2+j,none⟩ (.int .i64 (y.r j))) b vc code (partW x y (j+1)):=by
 refine ⟨?_,own_of_block h.own fun g hg=>Below.heap_setCell _ _ _ _ (h.ne_own hg),h.le,h.small⟩
 have:=blk_set h.blk (2+j) (.int .i64 (y.r j))
 rw [this]
 have hc:j=0∨j=1∨j=2∨j=3:=by omega
 rcases hc with rfl | rfl | rfl | rfl<;>rfl
theorem WkAt.setPlace {w:World} {b:Nat} {vc:Value} {code:List Ins} {x y:Wk} (h:WkAt w b vc code x) (hy:y.place≤code.length):WkAt (w.setCell ⟨b,1,none⟩ (.int .i64 y.place)) b vc code (partW x y 0):=by
 refine ⟨?_,own_of_block h.own fun g hg=>Below.heap_setCell _ _ _ _ (h.ne_own hg),hy,h.small⟩
 rw [blk_set h.blk 1 (.int .i64 y.place)]
 rfl
theorem WkAt.setSteps {w:World} {b:Nat} {vc:Value} {code:List Ins} {x y:Wk} (h:WkAt w b vc code (partW x y 4)):WkAt (w.setCell ⟨b,6,none⟩ (.int .i64 y.steps)) b vc code y:=by
 refine ⟨?_,own_of_block h.own fun g hg=>Below.heap_setCell _ _ _ _ (h.ne_own hg),h.le,h.small⟩
 rw [blk_set h.blk 6 (.int .i64 y.steps)]
 rfl
theorem WkAt.rd {B:Nat} {w w':World} {b rb:Nat} {vc:Value} {code:List Ins} {x:Wk} {l:List Int} (h:WkAt w b vc code x) (hr:RdAt rs B w rb l) (hf:Fr (fun y=>y=rb) w w'):WkAt w' b vc code x∧b≠rb:=by
 obtain ⟨v,hblk, -⟩:=hr.blk
 have hne:b≠rb:=ne_of_types h.blk hblk (by decide)
 refine ⟨h.stays fun y hy=>?_,hne⟩
 rcases hy with rfl | hy
 ·exact hf.block _ (lt_of_blk h.blk) hne
 ·obtain ⟨cur,hc⟩:=own_block h.own hy
  exact hf.block _ (lt_of_blk hc) (ne_of_types hc hblk (by decide))
structure FitsW (x:Wk):Prop where
 r:∀ i,i<4→Fits64 (x.r i)
 steps:Fits64 x.steps
set_option maxRecDepth 100000 in
set_option maxHeartbeats 4000000 in
theorem wload_calls {B:Nat} {w:World} {b rb:Nat} {vc:Value} {code:List Ins} {x y:Wk} {l:List Int} (hw:WkAt w b vc code x) (hr:RdAt rs B w rb (wkNums y++l)) (hbB:B≤b) (hB:B≤w.heap.size) (hy:y.place≤code.length) (hfy:FitsW y) :
  Calls Tryz.prog 100 #[.pointer (some ⟨b,0,none⟩),.pointer (some ⟨rb,0,none⟩)] w fun e w'=>e=.returned (.tuple #[])∧WkAt w' b vc code y∧RdAt rs B w' rb l∧Fr (fun z=>z=b∨z=rb) w w':=by
 have hcs:=hw.small
 have hne:b≠rb:=(hw.rd hr (Fr.refl _ _)).2
 obtain ⟨c0, -⟩:=hw.cells
 obtain ⟨ac,cc,hvc, -, -⟩:=code_form hw.own
 have HP:Hid (Calls Tryz.prog 104 #[.pointer (some ⟨rb,0,none⟩),.int .i64 0,.int .i64 code.length] w fun e w'=>e=.returned (.int .i64 y.place)∧(w'.heap[b]? = w.heap[b]? ∧ (∃ u,w'.cell? ⟨b,1,none⟩=some u)∧w'.frozen? ⟨b,1,none⟩=false) ∧
   WkAt (w'.setCell ⟨b,1,none⟩ (.int .i64 y.place)) b vc code (partW x y 0)∧RdAt rs B (w'.setCell ⟨b,1,none⟩ (.int .i64 y.place)) rb ([y.r 0,y.r 1,y.r 2,y.r 3].drop 0++y.steps::l)∧Fr (fun z=>z=b∨z=rb) w (w'.setCell ⟨b,1,none⟩ (.int .i64 y.place))∧B≤w'.heap.size):=by
  refine (within_calls hr ⟨by omega,by omega⟩ 0 code.length (by omega) (by omega)).mono fun e w' ⟨q1,q2,q3⟩=>⟨q1,?_,?_,?_,?_,?_⟩
  ·have hk:=(hw.rd hr q3).1
   exact ⟨q3.block b (lt_of_blk hw.blk) hne,⟨_,hk.cells.2.1⟩,row_frozen hk.blk 1⟩
  ·exact (hw.rd hr q3).1.setPlace hy
  ·exact q2.set hbB (Nat.le_trans hB q3.size) hne _
  ·exact Fr.setCell (S:=fun z=>z=b∨z=rb) (q3.mono fun _ _ e=>Or.inr e) (p:=⟨b,1,none⟩) (Or.inr (Or.inl rfl)) _
  ·exact Nat.le_trans hB q3.size
 have HN:Hid (∀ wx j,j<4→WkAt wx b vc code (partW x y j)→RdAt rs B wx rb ([y.r 0,y.r 1,y.r 2,y.r 3].drop j++y.steps::l)→Fr (fun z=>z=b∨z=rb) w wx→B≤wx.heap.size→Calls Tryz.prog 105 #[.pointer (some ⟨rb,0,none⟩)] wx fun e w'=>e=.returned (.int .i64 (y.r j))∧((∃ u,w'.cell? ⟨b,2+j,none⟩=some u)∧w'.frozen? ⟨b,2+j,none⟩=false) ∧
   WkAt (w'.setCell ⟨b,2+j,none⟩ (.int .i64 (y.r j))) b vc code (partW x y (j+1))∧RdAt rs B (w'.setCell ⟨b,2+j,none⟩ (.int .i64 (y.r j))) rb ([y.r 0,y.r 1,y.r 2,y.r 3].drop (j+1)++y.steps::l)∧Fr (fun z=>z=b∨z=rb) w (w'.setCell ⟨b,2+j,none⟩ (.int .i64 (y.r j)))∧B≤w'.heap.size):=fun wx j hj h1 h2 h3 h4=>by
  have e:[y.r 0,y.r 1,y.r 2,y.r 3].drop j++y.steps::l=y.r j::([y.r 0,y.r 1,y.r 2,y.r 3].drop (j+1)++y.steps::l):=by
   have hc:j=0∨j=1∨j=2∨j=3:=by omega
   rcases hc with rfl | rfl | rfl | rfl<;>rfl
  rw [e] at h2
  refine (number_calls h2 (hfy.r j hj)).mono fun e w' ⟨q1,q2,q3⟩=>?_
  have hk:=(h1.rd h2 q3).1
  refine ⟨q1,⟨?_,row_frozen hk.blk _⟩,hk.setReg hj,q2.set hbB (Nat.le_trans h4 q3.size) hne _,(h3.trans q3 fun _ _ e=>Or.inr e).setCell (p:=⟨b,2+j,none⟩) (Or.inr (Or.inl rfl)) _,Nat.le_trans h4 q3.size⟩
  have hc:j=0∨j=1∨j=2∨j=3:=by omega
  rcases hc with rfl | rfl | rfl | rfl
  ·exact ⟨_,row_cell hk.blk rfl⟩
  ·exact ⟨_,row_cell hk.blk rfl⟩
  ·exact ⟨_,row_cell hk.blk rfl⟩
  ·exact ⟨_,row_cell hk.blk rfl⟩
 have HE:Hid (∀ wx,WkAt wx b vc code (partW x y 4)→RdAt rs B wx rb ([y.r 0,y.r 1,y.r 2,y.r 3].drop 4++y.steps::l)→Fr (fun z=>z=b∨z=rb) w wx→B≤wx.heap.size→Calls Tryz.prog 105 #[.pointer (some ⟨rb,0,none⟩)] wx fun e w'=>e=.returned (.int .i64 y.steps)∧((∃ u,w'.cell? ⟨b,6,none⟩=some u)∧w'.frozen? ⟨b,6,none⟩=false) ∧
   WkAt (w'.setCell ⟨b,6,none⟩ (.int .i64 y.steps)) b vc code y∧RdAt rs B (w'.setCell ⟨b,6,none⟩ (.int .i64 y.steps)) rb l∧Fr (fun z=>z=b∨z=rb) w (w'.setCell ⟨b,6,none⟩ (.int .i64 y.steps))):=fun wx h1 h2 h3 h4=>by
  refine (number_calls (l:=l) h2 hfy.steps).mono fun e w' ⟨q1,q2,q3⟩=>?_
  have hk:=(h1.rd h2 q3).1
  exact ⟨q1,⟨⟨_,row_cell hk.blk rfl⟩,row_frozen hk.blk _⟩,hk.setSteps,q2.set hbB (Nat.le_trans h4 q3.size) hne _,(h3.trans q3 fun _ _ e=>Or.inr e).setCell (p:=⟨b,6,none⟩) (Or.inr (Or.inl rfl)) _⟩
 clear hw hr hfy
 subst hvc
 go_enter Tryz.func100,Tryz.ntmps100
 go_wp2_with fail
 refine (unhide HP).mono ?_
 rintro e w1 ⟨rfl,⟨hb1,⟨u1,hu1⟩,hf1⟩,h1,h2,h3,h4⟩
 have H1:=hide h1
 have H2:=hide h2
 have H3:=hide h3
 have hs1:B≤(w1.setCell ⟨b,1,none⟩ (.int .i64 y.place)).heap.size:=by simpa [World.setCell] using h4
 clear h1 h2 h3 HP hb1 h4
 go_wp2
 go_loopw [15] (fun i wr=>∃ j:Nat,j≤4∧i=.int .i64 j∧WkAt wr b (.slice ac code.length cc) code (partW x y j)∧RdAt rs B wr rb ([y.r 0,y.r 1,y.r 2,y.r 3].drop j++y.steps::l)∧Fr (fun z=>z=b∨z=rb) w wr∧B≤wr.heap.size) (fun i _=>4-(intOf i).toNat)
 case atStart=>exact ⟨0,by omega,rfl,H1.out,H2.out,H3.out,hs1⟩
 case round=>
  clear H1 H2 H3 hs1 hu1 hf1
  obtain ⟨j,hj,rfl,h1,h2,h3,h4⟩:=hrel
  by_cases hlt:j<4
  ·have HN1:Hid (∀ q,Calls Tryz.prog 105 #[.pointer (some ⟨rb,0,none⟩)] (wr.drewN q) fun e w'=>e=.returned (.int .i64 (y.r j))∧((∃ u,w'.cell? ⟨b,2+j,none⟩=some u)∧w'.frozen? ⟨b,2+j,none⟩=false) ∧
    WkAt (w'.setCell ⟨b,2+j,none⟩ (.int .i64 (y.r j))) b (.slice ac code.length cc) code (partW x y (j+1))∧RdAt rs B (w'.setCell ⟨b,2+j,none⟩ (.int .i64 (y.r j))) rb ([y.r 0,y.r 1,y.r 2,y.r 3].drop (j+1)++y.steps::l)∧Fr (fun z=>z=b∨z=rb) w (w'.setCell ⟨b,2+j,none⟩ (.int .i64 (y.r j)))∧B≤w'.heap.size):=fun q=>HN.out (wr.drewN q) j hlt (h1.stays fun _ _=>rfl) (h2.keep (below_drewN (Below.refl _ _) q) rfl) (h3.drewN q) h4
   have hj0:(0:Int)≤(j:Int):=by omega
   have hj1:(j:Int)<4:=by omega
   clear HN HE h1 h2 h3
   generalize y.r j=yr at *
   go_wp2
   go_region_held3 (fun _=>True) (trivial)
    ((go_at_call 105;refine (unhide HN1 _).mono ?_;rintro e w2 ⟨rfl,⟨⟨u,hu⟩,hfz⟩,h1,h2,h3,h4⟩;have H1:=hide h1;have H2:=hide h2;have H3:=hide h3;clear h1 h2 h3))
   go_wp2
   go_roundw
   case rel=>exact ⟨j+1,by omega,by go_num,H1.out,H2.out,H3.out,by simpa [World.setCell] using h4⟩
   case measure=>simp [intOf];omega
  ·have hj4:j=4:=by omega
   subst hj4
   have HE1:=hide (HE.out wr h1 h2 h3 h4)
   clear HN HE h1 h2 h3 h4
   go_wp2_with fail
   refine (unhide HE1).mono ?_
   rintro e w2 ⟨rfl,⟨⟨u,hu⟩,hfz⟩,h1,h2,h3⟩
   have H1:=hide h1
   have H2:=hide h2
   have H3:=hide h3
   clear h1 h2 h3 HE1
   go_wp2
   go_end0
   exact ⟨rfl,H1.out,H2.out,H3.out⟩
end Go.Proofs.YthfdgdfnflilfaaGreatDoor

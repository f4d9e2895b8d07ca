/- Part 3: OwnRow, Book1, Fresh, Nets2, Nets3, Nets4, Workers1, Workers2. -/
import Derived.Deep.Upon
import Derived.Deep.RegionHeld3
import Derived.Deep.RegionWith
import Derived.WalkSmall
import Derived.Test.YthfdgdfnflilfaaGreatDoorPart2
namespace Go.Proofs.YthfdgdfnflilfaaGreatDoor
open Go.RowKit Go.Conc
theorem heapNew {w:World} {o:Obj} {k:Nat} (h:k=w.heap.size):(w.alloc o).heap[k]? = some o:=by subst h;exact heap_alloc_new _ _
theorem heapOld {w:World} {o o':Obj} {k:Nat} (h:k<w.heap.size) (hh:w.heap[k]? = some o'):(w.alloc o).heap[k]? = some o':=(Below.heap_alloc _ _ _ h).trans hh
theorem own_row_get {w:World} {base n:Nat} {t:TypeId} {v:Value} {vals:List Value} (h:w.ownsRow base t 1 v n vals):∃ a cap,v=.slice a n cap∧n≤cap∧∀ i (hi:i<vals.length),∃ g,a=some ⟨g,0,none⟩∧w.cell? ⟨g,i,none⟩=some vals[i]:=by
 obtain ⟨h1,h2⟩:=h
 rcases h2 with ⟨rfl,rfl⟩ | ⟨g,cap,cur,rfl,hg,hh,hn,hm,hs,ht⟩
 ·exact ⟨none,0,rfl,Nat.le_refl _,fun i hi=>by omega⟩
 ·refine ⟨_,cap,rfl,hn,fun i hi=>⟨g,rfl,?_⟩⟩
  have e:vals[i]? = some vals[i]:=List.getElem?_eq_getElem hi
  generalize vals[i]=x at e ⊢
  rw [← ht,Nat.mul_one,List.getElem?_take_of_lt (by omega)] at e
  simpa [World.cell?,hh] using e
theorem Sl.frame {w w':World} {v:Value} {n sz:Nat} {f:Nat→Nat→Value} (h:Sl w v n sz f) (hk:∀ g,v.ownBlock=some g→w'.heap[g]? = w.heap[g]?):Sl w' v n sz f:=by
 obtain ⟨a,cap,rfl,hn,hcap,h⟩:=h
 refine ⟨a,cap,rfl,hn,hcap,?_⟩
 rcases h with h | ⟨b,off,rfl,hc⟩
 ·exact Or.inl h
 ·exact Or.inr ⟨b,off,rfl,fun i hi j hj=>by rw [World.cell?_of_block (w:=w) (hk b rfl)];exact hc i hi j hj⟩
structure BkRow (base:Nat) (col:Nat→Nat) (w:World) (p r:Nat) (t:TypeId) (sz md:Nat) (f:Nat→Nat→Nat→Value) (c:Nat):Prop where
 ex:∃ (v:Value) (vals:List Value),w.cell? ⟨p,r,none⟩=some v∧w.ownsRow base t 1 v vals.length vals∧(∀ g,v.ownBlock=some g→col g=r)∧vals.length≤c∧vals.length%md=0 ∧
  (∀ i (h:i<vals.length),∃ m,Sl w vals[i] m sz (f i))∧(∀ u∈vals,∀ g,u.ownBlock=some g→g<w.heap.size∧col g=8)
theorem BkRow.frame {base:Nat} {col col':Nat→Nat} {w w':World} {p r:Nat} {t:TypeId} {sz md:Nat} {f:Nat→Nat→Nat→Value} {c c':Nat} (h:BkRow base col w p r t sz md f c) (hcell:w'.cell? ⟨p,r,none⟩=w.cell? ⟨p,r,none⟩)
  (hblk:∀ b,b<w.heap.size→col b=r∨col b=8→w'.heap[b]? = w.heap[b]?) (hcol:∀ b,b<w.heap.size→col b=r∨col b=8→col' b=col b) (hsz:w.heap.size≤w'.heap.size) (hc:c≤c'):BkRow base col' w' p r t sz md f c':=by
 obtain ⟨v,vals,h1,h2,h3,h4,h5,h6,h7⟩:=h.ex
 have hlt:∀ g,v.ownBlock=some g→g<w.heap.size:=fun g hg=>(h2.lt g hg).2
 refine ⟨v,vals,hcell.trans h1,own_of_blockB h2 fun g hg=>hblk g (hlt g hg) (Or.inl (h3 g hg)),fun g hg=>(hcol g (hlt g hg) (Or.inl (h3 g hg))).trans (h3 g hg),Nat.le_trans h4 hc,h5,fun i hi=>?_,fun u hu g hg=>?_⟩
 ·obtain ⟨m,hm⟩:=h6 i hi
  exact ⟨m,hm.frame fun g hg=>hblk g (h7 _ (List.getElem_mem hi) g hg).1 (Or.inr (h7 _ (List.getElem_mem hi) g hg).2)⟩
 ·obtain ⟨q1,q2⟩:=h7 u hu g hg
  exact ⟨Nat.lt_of_lt_of_le q1 hsz,(hcol g q1 (Or.inr q2)).trans q2⟩
theorem BkRow.lists {base:Nat} {col:Nat→Nat} {w:World} {p r:Nat} {t:TypeId} {sz md:Nat} {f:Nat→Nat→Nat→Value} {c:Nat} (h:BkRow base col w p r t sz md f c) (hc:c≤140737488355328) :
  ∃ v,w.cell? ⟨p,r,none⟩=some v∧Lists w v sz f:=by
 obtain ⟨v,vals,h1,h2,h3,h4,h5,h6,h7⟩:=h.ex
 obtain ⟨a,cap,rfl,hcap,hg⟩:=own_row_get h2
 refine ⟨_,h1,vals.length,fun i=>vals.getD i (.bool false),⟨a,cap,rfl,by omega,hcap,?_⟩,fun i hi=>?_⟩
 ·rcases Nat.eq_zero_or_pos vals.length with h0 | h0
  ·exact Or.inl h0
  ·obtain ⟨g,rfl, -⟩:=hg 0 h0
   refine Or.inr ⟨g,0,rfl,fun i hi j hj=>?_⟩
   obtain ⟨g',e,hcell⟩:=hg i hi
   cases e
   have:j=0:=by omega
   subst this
   simpa [List.getD,hi] using hcell
 ·obtain ⟨m,hm⟩:=h6 i hi
  refine ⟨m,?_⟩
  simpa [List.getD,hi] using hm
def wrB (i k:Nat) (_:Nat):Value:=.int .u8 (digitI (i / 4*4:Nat) k)
def wrN (i _ _:Nat):Value:=.int .i64 (-1-(i / 4*4:Nat))
def wrT (_ _ _:Nat):Value:=.int .u8 251
def wrI (_ _ _:Nat):Value:=.int .i64 (-7)
def wrC (_ _ j:Nat):Value:=if j=0 then .int .i64 (-8) else .int .i64 0
def wrL (_ _ _:Nat):Value:=.slice none 0 0
def wrF (_ _ j:Nat):Value:=if j=0 then .int .i64 (-9) else .slice none 0 0
def rowT:Nat→TypeId
 | 1=>100
 | 2=>22
 | 3=>100
 | 4=>22
 | 5=>45
 | 6=>24
 | _=>23
def rowSz:Nat→Nat
 | 5=>4
 | 7=>2
 | _=>1
def rowF:Nat→Nat→Nat→Nat→Value
 | 1=>wrB
 | 2=>wrN
 | 3=>wrT
 | 4=>wrI
 | 5=>wrC
 | 6=>wrL
 | _=>wrF
def rowMd:Nat→Nat
 | 1=>4
 | 2=>4
 | _=>1
structure BkM (md:Nat→Nat) (base:Nat) (col:Nat→Nat) (w:World) (p:Nat) (v0:Value) (c:Nat):Prop where
 blk:∃ cs:List Value,w.heap[p]? = some (.cells cs.toArray 35 (0,0))∧cs.length=8
 colp:col p=0
 ge:base≤p
 c0:w.cell? ⟨p,0,none⟩=some v0
 rows:∀ r,1≤r→r≤7→BkRow base col w p r (rowT r) (rowSz r) (md r) (rowF r) c
 low:∀ b,b<base→90≤col b
abbrev Bk:=BkM rowMd
theorem BkM.kept {md:Nat→Nat} {base:Nat} {col:Nat→Nat} {w:World} {p:Nat} {v0:Value} {c:Nat} (h:BkM md base col w p v0 c) (hc:c≤140737488355328) :
  Calls Tryz.prog 17 #[.pointer (some ⟨p,0,none⟩)] w fun e w'=>e=.returned (.bool true)∧∃ q,w'=w.drewN q:=by
 obtain ⟨v1,a1,b1⟩:=(h.rows 1 (by decide) (by decide)).lists hc
 obtain ⟨v2,a2,b2⟩:=(h.rows 2 (by decide) (by decide)).lists hc
 obtain ⟨v3,a3,b3⟩:=(h.rows 3 (by decide) (by decide)).lists hc
 obtain ⟨v4,a4,b4⟩:=(h.rows 4 (by decide) (by decide)).lists hc
 obtain ⟨v5,a5,b5⟩:=(h.rows 5 (by decide) (by decide)).lists hc
 obtain ⟨v6,a6,b6⟩:=(h.rows 6 (by decide) (by decide)).lists hc
 obtain ⟨v7,a7,b7⟩:=(h.rows 7 (by decide) (by decide)).lists hc
 exact kept_calls ⟨h.c0,a1,a2,a3,b1,b2,b3,⟨a4,a5,a6,a7,b4,b5,b6,b7⟩⟩
theorem BkM.frame {md:Nat→Nat} {base:Nat} {col col':Nat→Nat} {w w':World} {p:Nat} {v0:Value} {c c':Nat} (h:BkM md base col w p v0 c) (hblk:∀ b,b<w.heap.size→col b≤8→w'.heap[b]? = w.heap[b]?) (hcol:∀ b,b<w.heap.size→col b≤8→col' b=col b) (hlow:∀ b,b<base→90≤col' b) (hsz:w.heap.size≤w'.heap.size) (hc:c≤c'):BkM md base col' w' p v0 c':=by
 obtain ⟨cs,hp,hl⟩:=h.blk
 have hpl:=lt_of_blk hp
 have ep:=hblk p hpl (by rw [h.colp];omega)
 have ec:∀ r,w'.cell? ⟨p,r,none⟩=w.cell? ⟨p,r,none⟩:=fun r=>World.cell?_of_block (w:=w) ep
 exact ⟨⟨cs,ep.trans hp,hl⟩,(hcol p hpl (by rw [h.colp];omega)).trans h.colp,h.ge,(ec 0).trans h.c0,fun r h1 h7=>(h.rows r h1 h7).frame (ec _) (fun b hb hx=>hblk b hb (by omega)) (fun b hb hx=>hcol b hb (by omega)) hsz hc,hlow⟩
theorem BkM.below {md:Nat→Nat} {base:Nat} {col:Nat→Nat} {w w':World} {p:Nat} {v0:Value} {c:Nat} (h:BkM md base col w p v0 c) (hb:Below w.heap.size w w'):BkM md base col w' p v0 c:=
 h.frame (fun b hb' _=>hb.block b hb') (fun _ _ _=>rfl) h.low hb.size (Nat.le_refl _)
theorem BkRow.push {base:Nat} {col col':Nat→Nat} {w w':World} {p r:Nat} {t:TypeId} {sz:Nat} {f:Nat→Nat→Nat→Value} {c:Nat} {v' u:Value} {vals:List Value} {m:Nat} (hown:w'.ownsRow base t 1 v' (vals.length+1) (vals++[u])) (hcell:w'.cell? ⟨p,r,none⟩=some v')
  (hv':∀ g,v'.ownBlock=some g→col' g=r) (hle:vals.length≤c) (h6:∀ i (h:i<vals.length),∃ m,Sl w vals[i] m sz (f i)) (h7:∀ x∈vals,∀ g,x.ownBlock=some g→g<w.heap.size∧col g=8)
  (hblk:∀ b,b<w.heap.size→col b=8→w'.heap[b]? = w.heap[b]?) (hcol:∀ b,b<w.heap.size→col b=8→col' b=col b) (hsz:w.heap.size≤w'.heap.size) (hu:Sl w' u m sz (f vals.length)) (hug:∀ g,u.ownBlock=some g→g<w'.heap.size∧col' g=8) {md:Nat} (hmd:(vals.length+1)%md=0):BkRow base col' w' p r t sz md f (c+1):=by
 refine ⟨v',vals++[u],hcell,by rw [List.length_append];exact hown,hv',by simp;omega,by simpa using hmd,fun i hi=>?_,fun x hx g hg=>?_⟩
 ·rcases Nat.lt_or_ge i vals.length with h1 | h1
  ·obtain ⟨m',hm⟩:=h6 i h1
   refine ⟨m',?_⟩
   rw [List.getElem_append_left h1]
   exact hm.frame fun g hg=>hblk g (h7 _ (List.getElem_mem h1) g hg).1 (h7 _ (List.getElem_mem h1) g hg).2
  ·have:i=vals.length:=by simp at hi;omega
   subst this
   refine ⟨m,?_⟩
   simpa using hu
 ·rcases List.mem_append.1 hx with h1 | h1
  ·obtain ⟨q1,q2⟩:=h7 x h1 g hg
   exact ⟨Nat.lt_of_lt_of_le q1 hsz,(hcol g q1 q2).trans q2⟩
  ·have:x=u:=by simpa using h1
   subst this
   exact hug g hg
theorem BkM.push {md md':Nat→Nat} {base:Nat} {col col':Nat→Nat} {w w1:World} {p:Nat} {v0:Value} {c m:Nat} {v u:Value} {vals:List Value} {g gcap:Nat} (r:Nat) (hr1:1≤r) (hr7:r≤7) (hb:BkM md base col w p v0 c) (hle:vals.length≤c)
  (h6:∀ i (h:i<vals.length),∃ m,Sl w vals[i] m (rowSz r) (rowF r i)) (h7:∀ x∈vals,∀ g,x.ownBlock=some g→g<w.heap.size∧col g=8)
  (hown:w1.ownsRow base (rowT r) 1 (.slice (some ⟨g,0,none⟩) (vals.length+1) gcap) (vals.length+1) (vals++[u])) (hblk:∀ b,b<w.heap.size→v.ownBlock≠some b→col b≤8→w1.heap[b]? = w.heap[b]?) (hsz:w.heap.size≤w1.heap.size)
  (hv4:∀ b,v.ownBlock=some b→col b=r) (hcol:∀ b,b<w.heap.size→col b≤8→col' b=col b) (hlow:∀ b,b<base→90≤col' b) (hg:col' g=r) (hgp:g≠p)
  (hu:Sl w1 u m (rowSz r) (rowF r vals.length)) (hug:∀ b,u.ownBlock=some b→b<w1.heap.size∧col' b=8∧b≠p) (hmd:(vals.length+1)%md' r=0) (hmo:∀ s,s≠r→md' s=md s) :
  BkM md' base col' (w1.setCell ⟨p,r,none⟩ (.slice (some ⟨g,0,none⟩) (vals.length+1) gcap)) p v0 (c+1):=by
 obtain ⟨cs,hp,hl⟩:=hb.blk
 have hpl:=lt_of_blk hp
 have hpv:v.ownBlock≠some p:=fun e=>by have:=hv4 p e;rw [hb.colp] at this;omega
 have hp1:w1.heap[p]? = some (.cells cs.toArray 35 (0,0)):=(hblk p hpl hpv (by rw [hb.colp];omega)).trans hp
 have hset:∀ k,k≠p→(w1.setCell ⟨p,r,none⟩ (.slice (some ⟨g,0,none⟩) (vals.length+1) gcap)).heap[k]? = w1.heap[k]? := fun k hk=>heap_setCell_other _ _ _ _ hk
 have hp2:=blk_set hp1 r (.slice (some ⟨g,0,none⟩) (vals.length+1) gcap)
 have hcp:∀ s,s≠r→(w1.setCell ⟨p,r,none⟩ (.slice (some ⟨g,0,none⟩) (vals.length+1) gcap)).cell? ⟨p,s,none⟩=w.cell? ⟨p,s,none⟩:=fun s hs=>by
  have e1:w1.cell? ⟨p,s,none⟩=w.cell? ⟨p,s,none⟩:=World.cell?_of_block (w:=w) (hp1.trans hp.symm)
  rw [← e1]
  simp only [World.cell?,hp1,hp2]
  simp [List.getElem?_set_ne (Ne.symm hs)]
 have hb':∀ b,b<w.heap.size→col b≠0→col b≠r→col b≤8→(w1.setCell ⟨p,r,none⟩ (.slice (some ⟨g,0,none⟩) (vals.length+1) gcap)).heap[b]? = w.heap[b]? := fun b hb1 h0 h4 h8=>by
  rw [hset b (fun e=>h0 (by rw [e];exact hb.colp)),hblk b hb1 (fun e=>h4 (hv4 b e)) h8]
 have hs2:w.heap.size≤(w1.setCell ⟨p,r,none⟩ (.slice (some ⟨g,0,none⟩) (vals.length+1) gcap)).heap.size:=by simpa using hsz
 have c4:(w1.setCell ⟨p,r,none⟩ (.slice (some ⟨g,0,none⟩) (vals.length+1) gcap)).cell? ⟨p,r,none⟩=some (.slice (some ⟨g,0,none⟩) (vals.length+1) gcap):=by
  refine row_cell hp2 ?_
  rw [List.getElem?_set_self (by omega)]
 refine ⟨⟨_,hp2,by simp [hl]⟩,(hcol p hpl (by rw [hb.colp];omega)).trans hb.colp,hb.ge,(hcp 0 (by omega)).trans hb.c0,fun s hs1 hs7=>?_,hlow⟩
 by_cases e:s=r
 ·subst e
  refine BkRow.push (own_of_blockB hown fun k hk=>hset k ?_) c4 ?_ hle h6 h7 (fun b hb1 h8=>hb' b hb1 (by omega) (by omega) (by omega)) (fun b hb1 h8=>hcol b hb1 (by omega)) hs2 (hu.frame fun k hk=>hset k (hug k hk).2.2) (fun k hk=>⟨by simpa using (hug k hk).1,(hug k hk).2.1⟩) hmd
  ·have:g=k:=by simpa [Value.ownBlock] using hk
   rw [← this];exact hgp
  ·intro k hk
   have:g=k:=by simpa [Value.ownBlock] using hk
   rw [← this];exact hg
 ·rw [hmo s e]
  exact (hb.rows s hs1 hs7).frame (hcp s e) (fun b hb1 hx=>hb' b hb1 (by omega) (by omega) (by omega)) (fun b hb1 hx=>hcol b hb1 (by omega)) hs2 (by omega)
section
variable {P:Program} {w:World}
theorem run_append_fresh (t ty e:TypeId) (i:TypeInfo) (z:Value) (size bytes:Nat) (ht:P.underlying t=some (.slice e)) (hi:P.info? e=some i) (hz:i.zero=some z)
  (hsize:i.size=size) (hby:i.bytes=bytes) (hzs:z.cells.size=size) (hsz:0<size)
  (a:Option Addr) (m c:Nat) (news:List Value) (hl:news.length=m*size) (hnews:0<m→∃ ad:Addr,a=some ad∧∀ j u,news[j]? = some u→w.cell? (ad.add j)=some u) (h1:∀ u∈news,u.oneCell'=true)
  (h63:m≤maxLen) (hbytes:m*bytes≤140737488355328) :
  ∃ a' c' w',(Builtin.append_ #[t,t] ty #[.slice none 0 0,.slice a m c]).run P w=.ok (.slice a' m c') w' ∧
   w'.ownsRow w.heap.size e size (.slice a' m c') m news∧Below w.heap.size w w':=by
 rcases Nat.eq_zero_or_pos m with h0 | h0
 ·subst h0
  have hn:news=[]:=List.eq_nil_of_length_eq_zero (by simpa using hl)
  subst hn
  refine ⟨none,0,w,?_,⟨by simp,Or.inl ⟨rfl,rfl⟩⟩,Below.refl _ _⟩
  refine run_append_nothing w t t ty e i ht hi none 0 0 (Nat.le_refl _) _ ?_
  cases a with
  | none=>exact Src.ofNil w ht c
  | some ad=>exact Src.ofSlice w ht ad 0 c [] (by simp) (by simp) (by simp)
 ·obtain ⟨ad,rfl,hc⟩:=hnews h0
  obtain ⟨g,cap,w',hr,ho,hg,hgH,hlt⟩:=run_append_lies (P:=P) w t ty w.heap.size e i z size bytes ht hi hz hsize hby hzs hsz (.slice none 0 0) 0 [] ⟨by simp,Or.inl ⟨rfl,rfl⟩⟩ ad m c news hl hc h1 h0 (by omega) (by simpa using hbytes) (Nat.le_refl _) w.heap.size rfl
  rw [Nat.zero_add] at hr ho
  refine ⟨_,_,w',hr,by simpa using ho,?_⟩
  exact ⟨hg.os,hg.tape,hg.output,hg.size,fun k hk=>hg.block k hk (by simp [Value.ownBlock])⟩
theorem wpList_append_fresh {ops:Array Oper} {rest:List Oper} {o:Oper} {b:Act} {Q:Exit→Act→World→Prop} (hgd:o.guard=none) (s x:Operand) (t:TypeId)
  (ho:o.op=.call {callee:=.builtin .append,args:=#[s,x],argTypes:=#[t,t]})
  (e:TypeId) (i:TypeInfo) (z:Value) (size bytes:Nat) (ht:P.underlying t=some (.slice e)) (hi:P.info? e=some i) (hz:i.zero=some z)
  (hsize:i.size=size) (hby:i.bytes=bytes) (hzs:z.cells.size=size) (hsz:0<size)
  (a:Option Addr) (m c:Nat) (news:List Value) (hs:b.eval s=.slice none 0 0) (hx:b.eval x=.slice a m c) (hl:news.length=m*size) (hnews:0<m→∃ ad:Addr,a=some ad∧∀ j u,news[j]? = some u→w.cell? (ad.add j)=some u) (h1:∀ u∈news,u.oneCell'=true)
  (h63:m≤maxLen) (hbytes:m*bytes≤140737488355328)
  (h:∀ a' c' w',w'.ownsRow w.heap.size e size (.slice a' m c') m news→Below w.heap.size w w'→wpList P ops Q rest (b.put o.dst (.slice a' m c')) w'):wpList P ops Q (o::rest) b w:=by
 refine wpList_plain hgd fun _ hK=>?_
 obtain ⟨a',c',w',hr,h2,h3⟩:=run_append_fresh (P:=P) (w:=w) t o.type e i z size bytes ht hi hz hsize hby hzs hsz a m c news hl hnews h1 h63 hbytes
 unfold Oper.wp execOp
 simp only [ho,resolve,invoke,builtin,Sem.run_bind,Sem.run_pure,Result.andThen_ok,List.map_toArray,List.map_cons,List.map_nil,hs,hx,hr]
 exact hK _ _ (h a' c' w' h2 h3)
end
open Go.RowKit
def validCodeB (code:List Ins) (streams:Int):Bool:=decide (1≤code.length) && decide (code.length≤20) && code.all fun i=>opsValid i code.length streams
set_option maxHeartbeats 400000 in
theorem validCode_calls {code:List Ins} {v:Value} {w:World} (streams:Int) (h:CodeAt w v code) :
  Calls Tryz.prog 82 #[v,.int .i64 streams] w fun e w'=>e=.returned (.bool (validCodeB code streams))∧Below w.heap.size w w':=by
 obtain ⟨a,cap,rfl,hn,hcap,hc⟩:=h.open
 have HC:=hide hc
 clear hc h
 by_cases h1:code.length<1
 ·go_enter Tryz.func82,Tryz.ntmps82
  go_wp2
  go_ret
  exact ⟨ret_bool (by
    have:¬ 1≤code.length:=by omega
    simp only [validCodeB,this,decide_false,Bool.false_and]),Below.refl _ _⟩
 have h1':decide ((code.length:Int)<1)=false:=by simp;omega
 by_cases h2:20<code.length
 ·go_enter Tryz.func82,Tryz.ntmps82
  go_wp2
  go_ret
  exact ⟨ret_bool (by
    have:¬ code.length≤20:=by omega
    simp only [validCodeB,this,decide_false,Bool.false_and,Bool.and_false]),Below.refl _ _⟩
 have h2':decide (20<(code.length:Int))=false:=by simp;omega
 have HV:Hid (validCodeB code streams=code.all fun i=>opsValid i code.length streams):=by
  have g1:1≤code.length:=by omega
  have g2:code.length≤20:=by omega
  unfold Hid;simp only [validCodeB,g1,g2,decide_true,Bool.true_and]
 go_enter Tryz.func82,Tryz.ntmps82
 go_wp2
 go_loopw [17] (fun i wr=>∃ k:Nat,k≤code.length∧i=.int .i64 k∧Below w.heap.size w wr∧((code.take k).all fun i=>opsValid i code.length streams)=true) (fun i _=>code.length-(intOf i).toNat)
 case atStart=>exact ⟨0,Nat.zero_le _,rfl,Below.refl _ _,rfl⟩
 case round=>
  obtain ⟨k,hk,rfl,hbl,hno⟩:=hrel
  have HN:=hide hno
  clear hno
  by_cases hlt:k<code.length
  ·obtain ⟨b,off,rfl,d0,d1,d2,d3⟩:=unhide HC wr hbl k hlt
   clear HC
   have HS:Hid (((code.take (k+1)).all fun i=>opsValid i code.length streams)=(((code.take k).all fun i=>opsValid i code.length streams) && opsValid code[k] code.length streams)):=all_take_succ _ _ _ hlt
   have HH:Hid (opsValid code[k] code.length streams=false→(code.all fun i=>opsValid i code.length streams)=false):=all_of_getElem_false code (fun i=>opsValid i code.length streams) k hlt
   generalize code[k]=ins at *
   obtain ⟨op,ia,ib,ic⟩:=ins
   dsimp only at d0 d1 d2 d3
   go_wp2_with fail
   refine (opsValid_calls op ia ib ic _ streams _).mono ?_
   rintro e w1 ⟨rfl,hb1⟩
   have hbl1:=(hbl.alloc hbl.size (.cells #[.int .i64 op,.int .i64 ia,.int .i64 ib,.int .i64 ic] 44)).trans (hb1.mono (by have:=hbl.size;simp;omega))
   clear hb1
   cases hy:opsValid ⟨op,ia,ib,ic⟩ code.length streams
   ·go_wp2
    go_ret
    exact ⟨ret_bool (by rw [HV.out,HH.out hy]),hbl1⟩
   ·rw [hy] at HS
    go_wp2
    go_roundw
    case rel=>exact ⟨k+1,by omega,by go_num,hbl1,by rw [HS.out,HN.out];rfl⟩
    case measure=>simp [intOf];omega
  ·go_wp2
   go_ret
   exact ⟨ret_bool (by have:=HN.out;rw [List.take_of_length_le (by omega)] at this;rw [HV.out,this]),hbl⟩
def validWorkersB (ws:List (List Ins)) (streams:Int):Bool:=decide (1≤ws.length) && decide (ws.length≤6) && ws.all fun c=>validCodeB c streams
set_option maxHeartbeats 400000 in
theorem validWorkers_calls {ws:List (List Ins)} {v:Value} {w:World} (streams:Int) (h:WorkersAt w v ws) :
  Calls Tryz.prog 51 #[v,.int .i64 streams] w fun e w'=>e=.returned (.bool (validWorkersB ws streams))∧Below w.heap.size w w':=by
 obtain ⟨a,cap,rfl,hn,hcap,hc⟩:=h.open
 have HC:=hide hc
 clear hc h
 by_cases h1:ws.length<1
 ·go_enter Tryz.func51,Tryz.ntmps51
  go_wp2
  go_ret
  exact ⟨ret_bool (by
    have:¬ 1≤ws.length:=by omega
    simp only [validWorkersB,this,decide_false,Bool.false_and]),Below.refl _ _⟩
 have h1':decide ((ws.length:Int)<1)=false:=by simp;omega
 by_cases h2:6<ws.length
 ·go_enter Tryz.func51,Tryz.ntmps51
  go_wp2
  go_ret
  exact ⟨ret_bool (by
    have:¬ ws.length≤6:=by omega
    simp only [validWorkersB,this,decide_false,Bool.false_and,Bool.and_false]),Below.refl _ _⟩
 have h2':decide (6<(ws.length:Int))=false:=by simp;omega
 have HV:Hid (validWorkersB ws streams=ws.all fun c=>validCodeB c streams):=by
  have g1:1≤ws.length:=by omega
  have g2:ws.length≤6:=by omega
  unfold Hid;simp only [validWorkersB,g1,g2,decide_true,Bool.true_and]
 go_enter Tryz.func51,Tryz.ntmps51
 go_wp2
 go_loopw [17] (fun i wr=>∃ k:Nat,k≤ws.length∧i=.int .i64 k∧Below w.heap.size w wr∧((ws.take k).all fun c=>validCodeB c streams)=true) (fun i _=>ws.length-(intOf i).toNat)
 case atStart=>exact ⟨0,Nat.zero_le _,rfl,Below.refl _ _,rfl⟩
 case round=>
  obtain ⟨k,hk,rfl,hbl,hno⟩:=hrel
  have HN:=hide hno
  clear hno
  by_cases hlt:k<ws.length
  ·obtain ⟨b,off,u,rfl,d0,hcode⟩:=unhide HC wr hbl k hlt
   clear HC
   have HS:Hid (((ws.take (k+1)).all fun c=>validCodeB c streams)=(((ws.take k).all fun c=>validCodeB c streams) && validCodeB ws[k] streams)):=all_take_succ _ _ _ hlt
   have HH:Hid (validCodeB ws[k] streams=false→(ws.all fun c=>validCodeB c streams)=false):=all_of_getElem_false ws (fun c=>validCodeB c streams) k hlt
   have HCd:=hide hcode
   obtain ⟨ua,ucap,hu, -, -, -⟩:=hcode.open
   generalize ws[k]=cd at *
   generalize hq:cd.length=cl at *
   clear hq hcode
   subst hu
   go_wp2_with fail
   refine (validCode_calls streams (unhide HCd)).mono ?_
   rintro e w1 ⟨rfl,hb1⟩
   have hbl1:=hbl.trans (hb1.mono hbl.size)
   clear hb1
   cases hy:validCodeB cd streams
   ·go_wp2
    go_ret
    exact ⟨ret_bool (by rw [HV.out,HH.out hy]),hbl1⟩
   ·rw [hy] at HS
    go_wp2
    go_roundw
    case rel=>exact ⟨k+1,by omega,by go_num,hbl1,by rw [HS.out,HN.out];rfl⟩
    case measure=>simp [intOf];omega
  ·go_wp2
   go_ret
   exact ⟨ret_bool (by have:=HN.out;rw [List.take_of_length_le (by omega)] at this;rw [HV.out,this]),hbl⟩
def validStreamsB (l:List Int):Bool:=decide (1≤l.length) && decide (l.length≤8) && l.all fun r=>decide (1≤r) && decide (r≤6)
set_option maxHeartbeats 400000 in
theorem validStreams_calls {l:List Int} {v:Value} {w:World} (h:IntsAt w v l) :
  Calls Tryz.prog 49 #[v] w fun e w'=>e=.returned (.bool (validStreamsB l))∧w'=w:=by
 obtain ⟨a,cap,rfl,hn,hcap,hc⟩:=h.open
 have HC:=hide hc
 clear hc h
 by_cases h1:l.length<1
 ·go_enter Tryz.func49,Tryz.ntmps49
  go_wp2
  go_ret
  exact ⟨ret_bool (by
    have:¬ 1≤l.length:=by omega
    simp only [validStreamsB,this,decide_false,Bool.false_and]),rfl⟩
 have h1':decide ((l.length:Int)<1)=false:=by simp;omega
 by_cases h2:8<l.length
 ·go_enter Tryz.func49,Tryz.ntmps49
  go_wp2
  go_ret
  exact ⟨ret_bool (by
    have:¬ l.length≤8:=by omega
    simp only [validStreamsB,this,decide_false,Bool.false_and,Bool.and_false]),rfl⟩
 have h2':decide (8<(l.length:Int))=false:=by simp;omega
 have HV:Hid (validStreamsB l=l.all fun r=>decide (1≤r) && decide (r≤6)):=by
  have g1:1≤l.length:=by omega
  have g2:l.length≤8:=by omega
  unfold Hid;simp only [validStreamsB,g1,g2,decide_true,Bool.true_and]
 go_enter Tryz.func49,Tryz.ntmps49
 go_wp2
 go_loop [15] (fun i=>∃ k:Nat,k≤l.length∧i=.int .i64 k∧((l.take k).all fun r=>decide (1≤r) && decide (r≤6))=true) (fun i=>l.length-(intOf i).toNat)
 case atStart=>exact ⟨0,Nat.zero_le _,rfl,rfl⟩
 case round=>
  obtain ⟨k,hk,rfl,hno⟩:=hrel
  have HN:=hide hno
  clear hno
  by_cases hlt:k<l.length
  ·obtain ⟨b,off,rfl,d0⟩:=unhide HC w (Below.refl _ _) k hlt
   clear HC
   have HS:Hid (((l.take (k+1)).all fun r=>decide (1≤r) && decide (r≤6))=(((l.take k).all fun r=>decide (1≤r) && decide (r≤6)) && (decide (1≤l[k]) && decide (l[k]≤6)))):=all_take_succ _ _ _ hlt
   have HH:Hid ((decide (1≤l[k]) && decide (l[k]≤6))=false→(l.all fun r=>decide (1≤r) && decide (r≤6))=false):=all_of_getElem_false l (fun r=>decide (1≤r) && decide (r≤6)) k hlt
   generalize l[k]=r at *
   by_cases g1:r<1
   ·have F:=HV.out.trans (HH.out (by
     have:¬ 1≤r:=by omega
     simp [this]))
    have F':=hide F
    clear F
    go_wp2
    go_ret
    exact ⟨ret_bool (by rw [F'.out]),rfl⟩
   have g1':decide (r<1)=false:=by simpa using g1
   by_cases g2:6<r
   ·have F:=HV.out.trans (HH.out (by
     have:¬ r≤6:=by omega
     simp [this]))
    have F':=hide F
    clear F
    go_wp2
    go_ret
    exact ⟨ret_bool (by rw [F'.out]),rfl⟩
   have g2':decide (6<r)=false:=by simpa using g2
   have F:Hid ((decide (1≤r) && decide (r≤6))=true):=by
    have g3:1≤r:=by omega
    have g4:r≤6:=by omega
    unfold Hid;simp [g3,g4]
   go_wp2
   go_round
   case rel=>exact ⟨k+1,by omega,by go_num,by rw [HS.out,HN.out,F.out];rfl⟩
   case measure=>simp [intOf];omega
  ·go_wp2
   go_ret
   exact ⟨ret_bool (by have:=HN.out;rw [List.take_of_length_le (by omega)] at this;rw [HV.out,this]),rfl⟩
def validSourcesB (ss:List Src) (streams:Int):Bool:=(List.range ss.length).all fun i=>inB (ss.getD i ⟨0,[]⟩).stream streams && decide ((ss.getD i ⟨0,[]⟩).words.length≤50) && !hasSourceB (ss.take i) (ss.getD i ⟨0,[]⟩).stream
theorem range_all_succ (p:Nat→Bool) (k:Nat):(List.range (k+1)).all p=((List.range k).all p && p k):=by
 rw [List.range_succ,List.all_append];simp only [List.all_cons,List.all_nil,Bool.and_true]
theorem range_all_false (p:Nat→Bool) (n k:Nat) (h:k<n) (hp:p k=false):(List.range n).all p=false:=by
 rw [Bool.eq_false_iff];intro hh;have:=List.all_eq_true.1 hh k (List.mem_range.2 h);rw [hp] at this;cases this
set_option maxHeartbeats 1000000 in
theorem validSources_calls {ss:List Src} {v:Value} {w:World} (streams:Int) (h:SourcesAt w v ss) :
  Calls Tryz.prog 50 #[v,.int .i64 streams] w fun e w'=>e=.returned (.bool (validSourcesB ss streams))∧Below w.heap.size w w':=by
 obtain ⟨a,cap,rfl,hn,hcap,hc⟩:=h.open
 have HC:=hide hc
 have HS0:Hid (∀ wr,Below w.heap.size w wr→∀ k,k≤ss.length→SourcesAt wr (.slice a k cap) (ss.take k)):=fun wr hb k hk=>(h.take k hk).below hb
 clear hc h
 go_enter Tryz.func50,Tryz.ntmps50
 go_wp2
 go_loopw [9] (fun i wr=>∃ k:Nat,k≤ss.length∧i=.int .i64 k∧Below w.heap.size w wr∧((List.range k).all fun i=>inB (ss.getD i ⟨0,[]⟩).stream streams && decide ((ss.getD i ⟨0,[]⟩).words.length≤50) && !hasSourceB (ss.take i) (ss.getD i ⟨0,[]⟩).stream)=true) (fun i _=>ss.length-(intOf i).toNat)
 case atStart=>exact ⟨0,Nat.zero_le _,rfl,Below.refl _ _,rfl⟩
 case round=>
  obtain ⟨k,hk,rfl,hbl,hno⟩:=hrel
  have HN:=hide hno
  clear hno
  by_cases hlt:k<ss.length
  ·obtain ⟨b,off,u,rfl,d0,d1,hu⟩:=unhide HC wr hbl k hlt
   clear HC
   have HS:=hide (range_all_succ (fun i=>inB (ss.getD i ⟨0,[]⟩).stream streams && decide ((ss.getD i ⟨0,[]⟩).words.length≤50) && !hasSourceB (ss.take i) (ss.getD i ⟨0,[]⟩).stream) k)
   have HH:=hide (range_all_false (fun i=>inB (ss.getD i ⟨0,[]⟩).stream streams && decide ((ss.getD i ⟨0,[]⟩).words.length≤50) && !hasSourceB (ss.take i) (ss.getD i ⟨0,[]⟩).stream) ss.length k hlt)
   obtain ⟨ua,ucap,hu, -, -, -⟩:=hu.open
   have HSr:=unhide HS0 wr hbl k hk
   have hsl:ss.getD k ⟨0,[]⟩=ss[k]:=getD_eq _ _ _ hlt
   rw [hsl] at HS HH
   clear hsl HS0
   generalize ss[k]=src at *
   obtain ⟨st,wds⟩:=src
   dsimp only at *
   generalize wds.length=sl at *
   subst hu
   by_cases g1:st<0
   ·have F:=hide (HH.out (by
     have:inB st streams=false:=by simp [inB];omega
     simp [this]))
    go_wp2
    go_ret
    exact ⟨ret_bool (by rw [validSourcesB,F.out]),hbl.alloc hbl.size _⟩
   have g1':decide (st<0)=false:=by simpa using g1
   by_cases g2:streams≤st
   ·have F:=hide (HH.out (by
     have:inB st streams=false:=by simp [inB];omega
     simp [this]))
    go_wp2
    go_ret
    exact ⟨ret_bool (by rw [validSourcesB,F.out]),hbl.alloc hbl.size _⟩
   have g2':decide (streams≤st)=false:=by simpa using g2
   have g3:inB st streams=true:=by simp [inB];omega
   by_cases g4:50<sl
   ·have F:=hide (HH.out (by
     have:¬ sl≤50:=by omega
     simp [this]))
    have g4':decide (50<(sl:Int))=true:=by simp;omega
    clear g3
    go_wp2
    go_quiet (fail)
    go_wp2
    go_ret
    exact ⟨ret_bool (by rw [validSourcesB,F.out]),below_drewN (hbl.alloc hbl.size _) _⟩
   have g4':decide (50<(sl:Int))=false:=by simp;omega
   have hcap':(k:Int)≤(cap:Int):=by omega
   have hk0:(0:Int)≤(k:Int):=by omega
   have HK:Hid (∀ wx,Below wr.heap.size wr wx→Calls Tryz.prog 81 #[.slice (some ⟨b,off,none⟩) k cap,.int .i64 st] wx fun e w'=>e=.returned (.bool (hasSourceB (ss.take k) st))∧Below w.heap.size w w'):=
    fun wx hx=>(hasSource_calls st (HSr.below hx)).mono fun e w' h=>⟨h.1,(hbl.trans (hx.mono hbl.size)).trans (h.2.mono (Nat.le_trans hbl.size hx.size))⟩
   clear HSr
   cases hy:hasSourceB (ss.take k) st
   ·rw [hy] at HK HS
    have F:=hide (g3)
    clear g3
    go_wp2
    go_region_with (go_at_call 81;refine (unhide HK _ ?_).mono ?_; (repeat (first | exact Below.refl _ _ | apply Below.drew | apply below_drewN | refine Below.alloc ?_ (by simp) _));rintro e w1 ⟨rfl,hb1⟩)
    all_goals
     go_wp2
     go_roundw
     case rel=>exact ⟨k+1,by omega,by go_num,by assumption,by rw [HS.out,HN.out,F.out];simp;omega⟩
     case measure=>simp [intOf];omega
   ·rw [hy] at HK HH
    have F:=hide (HH.out (by simp))
    clear g3
    go_wp2
    go_region_with (go_at_call 81;refine (unhide HK _ ?_).mono ?_; (repeat (first | exact Below.refl _ _ | apply Below.drew | apply below_drewN | refine Below.alloc ?_ (by simp) _));rintro e w1 ⟨rfl,hb1⟩)
    all_goals
     go_wp2
     go_ret
     exact ⟨ret_bool (by rw [validSourcesB,F.out]),by assumption⟩
  ·go_wp2
   go_ret
   exact ⟨ret_bool (by
     have hkk:k=ss.length:=by omega
     subst hkk
     rw [validSourcesB,HN.out]),hbl⟩
theorem box3 {w wr:World} {x y z:Value} {T:TypeId} (h:Below (w.heap.size+1) (w.alloc (.cells #[x,y,z] T)) wr) :
  wr.cell? ⟨w.heap.size,0,none⟩=some x∧wr.cell? ⟨w.heap.size,1,none⟩=some y∧wr.cell? ⟨w.heap.size,2,none⟩=some z:=by
 refine ⟨?_,?_,?_⟩
 all_goals
  refine (h.cell (p:=⟨w.heap.size,_,none⟩) (by simp)).trans ?_
  simp [go_sem]
theorem below_box {w wr:World} {o:Obj} (h:Below (w.heap.size+1) (w.alloc o) wr):Below w.heap.size w wr:=
 ((Below.refl _ _).alloc (Nat.le_refl _) o).trans (h.mono (by omega))
def validEndsB (n:Net):Bool:=(List.range n.streams.length).all fun s=>decide (usersN n.workers 2 s+(if hasSourceB n.sources s then 1 else 0)≤1) && decide (usersN n.workers 1 s≤1)
set_option maxHeartbeats 1000000 in
theorem validEnds_calls {n:Net} {v:Value} {w:World} (h:NetAt w v n) :
  Calls Tryz.prog 52 #[v] w fun e w'=>e=.returned (.bool (validEndsB n))∧Below w.heap.size w w':=by
 obtain ⟨vs,vr,vw,rfl,h1,h2,h3⟩:=h
 obtain ⟨sa,sc,rfl,hsn, -, -⟩:=h1.open
 obtain ⟨ar,cr,rfl⟩:=h2.form
 obtain ⟨aw,cw,rfl,hwn, -, -⟩:=h3.open
 have HR:Hid (∀ (st:Int) wx,Below w.heap.size w wx→Calls Tryz.prog 81 #[.slice ar n.sources.length cr,.int .i64 st] wx fun e w'=>e=.returned (.bool (hasSourceB n.sources st))∧Below wx.heap.size wx w'):=
  fun st wx hx=>hasSource_calls st (h2.below hx)
 have HW:Hid (∀ (op st:Int) wx,Below w.heap.size w wx→Calls Tryz.prog 83 #[.slice aw n.workers.length cw,.int .i64 op,.int .i64 st] wx fun e w'=>e=.returned (.int .i64 (usersN n.workers op st))∧Below wx.heap.size wx w'):=
  fun op st wx hx=>users_calls op st (h3.below hx)
 clear h1 h2 h3
 have hle:∀ op st,usersN n.workers op st≤140737488355328:=fun op st=>Nat.le_trans List.countP_le_length (by omega)
 have HL:=hide hle
 clear hle
 have HV:=hide (show validEndsB n=(List.range n.streams.length).all fun s=>decide (usersN n.workers 2 s+(if hasSourceB n.sources s then 1 else 0)≤1) && decide (usersN n.workers 1 s≤1) from rfl)
 generalize n.sources.length=rl at *
 generalize n.workers.length=wl at *
 generalize n.streams.length=sl at *
 go_enter Tryz.func52,Tryz.ntmps52
 go_wp2
 go_loopw [8] (fun i wr=>∃ k:Nat,k≤sl∧i=.int .i64 k∧Below (w.heap.size+1) (w.alloc (.cells #[.slice sa sl sc,.slice ar rl cr,.slice aw wl cw] 26)) wr∧((List.range k).all fun s=>decide (usersN n.workers 2 s+(if hasSourceB n.sources s then 1 else 0)≤1) && decide (usersN n.workers 1 s≤1))=true) (fun i _=>sl-(intOf i).toNat)
 case atStart=>exact ⟨0,Nat.zero_le _,rfl,Below.refl _ _,rfl⟩
 case round=>
  obtain ⟨k,hk,rfl,hbl,hno⟩:=hrel
  have HN:=hide hno
  clear hno
  by_cases hlt:k<sl
  ·obtain ⟨c0,c1,c2⟩:=box3 hbl
   have HS:=hide (range_all_succ (fun s=>decide (usersN n.workers 2 s+(if hasSourceB n.sources s then 1 else 0)≤1) && decide (usersN n.workers 1 s≤1)) k)
   have HH:=hide (range_all_false (fun s=>decide (usersN n.workers 2 s+(if hasSourceB n.sources s then 1 else 0)≤1) && decide (usersN n.workers 1 s≤1)) sl k hlt)
   have hsz:w.heap.size+1≤wr.heap.size:=by have:=hbl.size;simpa using this
   go_wp2_with fail
   refine (unhide HW 2 k wr (below_box hbl)).mono ?_
   rintro e w1 ⟨rfl,hb1⟩
   have hbl1:=hbl.trans (hb1.mono hsz)
   obtain ⟨c0,c1,c2⟩:=box3 hbl1
   have hsz1:w.heap.size+1≤w1.heap.size:=by have:=hbl1.size;simpa using this
   clear hb1
   have l2:=unhide HL 2 k
   generalize e2:usersN n.workers 2 k=u2 at *
   go_wp2_with fail
   refine (unhide HR k w1 (below_box hbl1)).mono ?_
   rintro e w2 ⟨rfl,hb2⟩
   have hbl2:=hbl1.trans (hb2.mono hsz1)
   obtain ⟨c0,c1,c2⟩:=box3 hbl2
   have hsz2:w.heap.size+1≤w2.heap.size:=by have:=hbl2.size;simpa using this
   clear hb2
   cases hy:hasSourceB n.sources k
   all_goals
    rw [hy] at HH HS
    simp only [Bool.false_eq_true,if_true,if_false] at HH HS
   ·by_cases g1:1<u2
    ·have F:=hide (HH.out (by simp;omega))
     clear e2
     go_wp2
     go_ret
     exact ⟨ret_bool (by rw [HV.out,F.out]),below_box hbl2⟩
    have g1':decide (1<(u2:Int))=false:=by simp;omega
    have E2:=hide e2
    clear e2
    go_wp2_with fail
    refine (unhide HW 1 k w2 (below_box hbl2)).mono ?_
    rintro e w3 ⟨rfl,hb3⟩
    have hbl3:=hbl2.trans (hb3.mono hsz2)
    clear hb3
    have l1:=unhide HL 1 k
    generalize e1:usersN n.workers 1 k=u1 at *
    have E1:=hide e1
    clear e1
    by_cases g2:1<u1
    ·have F:=hide (HH.out (by
      have:¬ u1≤1:=by omega
      simp [this]))
     go_wp2
     go_ret
     exact ⟨ret_bool (by rw [HV.out,F.out]),below_box hbl3⟩
    go_wp2
    go_roundw
    case rel=>exact ⟨k+1,by omega,by go_num,hbl3,by rw [HS.out,HN.out];simp;omega⟩
    case measure=>simp [intOf];omega
   ·by_cases g1:1<u2+1
    ·have F:=hide (HH.out (by
      have:¬ u2+1≤1:=by omega
      simp [this]))
     clear e2
     go_wp2
     go_ret
     exact ⟨ret_bool (by rw [HV.out,F.out]),below_box hbl2⟩
    have g1':decide (1<(u2:Int)+1)=false:=by simp;omega
    have E2:=hide e2
    clear e2
    go_wp2_with fail
    refine (unhide HW 1 k w2 (below_box hbl2)).mono ?_
    rintro e w3 ⟨rfl,hb3⟩
    have hbl3:=hbl2.trans (hb3.mono hsz2)
    clear hb3
    have l1:=unhide HL 1 k
    generalize e1:usersN n.workers 1 k=u1 at *
    have E1:=hide e1
    clear e1
    by_cases g2:1<u1
    ·have F:=hide (HH.out (by
      have:¬ u1≤1:=by omega
      simp [this]))
     go_wp2
     go_ret
     exact ⟨ret_bool (by rw [HV.out,F.out]),below_box hbl3⟩
    go_wp2
    go_roundw
    case rel=>exact ⟨k+1,by omega,by go_num,hbl3,by rw [HS.out,HN.out];simp;omega⟩
    case measure=>simp [intOf];omega
  ·go_wp2
   go_ret
   exact ⟨ret_bool (by
     have hkk:k=sl:=by omega
     subst hkk
     rw [HV.out,HN.out]),below_box hbl⟩
set_option maxHeartbeats 400000 in
theorem hasReader_calls {n:Net} {v:Value} {w:World} (st:Int) (h:NetAt w v n) :
  Calls Tryz.prog 53 #[v,.int .i64 st] w fun e w'=>e=.returned (.bool (decide (0<usersN n.workers 1 st)))∧Below w.heap.size w w':=by
 obtain ⟨vs,vr,vw,rfl,h1,h2,h3⟩:=h
 obtain ⟨sa,sc,rfl⟩:=h1.form
 obtain ⟨ar,cr,rfl⟩:=h2.form
 obtain ⟨aw,cw,rfl⟩:=h3.form
 have HW:Hid (∀ wx,Below w.heap.size w wx→Calls Tryz.prog 83 #[.slice aw n.workers.length cw,.int .i64 1,.int .i64 st] wx fun e w'=>e=.returned (.int .i64 (usersN n.workers 1 st))∧Below wx.heap.size wx w'):=
  fun wx hx=>users_calls 1 st (h3.below hx)
 clear h1 h2 h3
 go_enter Tryz.func53,Tryz.ntmps53
 go_wp2_with fail
 refine (unhide HW _ ((Below.refl _ _).alloc (Nat.le_refl _) _)).mono ?_
 rintro e w1 ⟨rfl,hb1⟩
 have hbl1:=((Below.refl w.heap.size w).alloc (Nat.le_refl _) (.cells #[.slice sa n.streams.length sc,.slice ar n.sources.length cr,.slice aw n.workers.length cw] 26)).trans (hb1.mono (by simp))
 clear hb1
 generalize hu:usersN n.workers 1 st=u1 at *
 have HU:=hide hu
 clear hu
 go_wp2
 go_ret
 exact ⟨ret_bool (by rw [HU.out]),hbl1⟩
def validB (n:Net):Bool:=validStreamsB n.streams && validSourcesB n.sources n.streams.length && validWorkersB n.workers n.streams.length && validEndsB n
set_option maxHeartbeats 1000000 in
theorem valid_calls {n:Net} {v:Value} {w:World} (h:NetAt w v n) :
  Calls Tryz.prog 23 #[v] w fun e w'=>e=.returned (.bool (validB n))∧Below w.heap.size w w':=by
 have HE:Hid (∀ wx,Below w.heap.size w wx→Calls Tryz.prog 52 #[v] wx fun e w'=>e=.returned (.bool (validEndsB n))∧Below wx.heap.size wx w'):=
  fun wx hx=>validEnds_calls (h.below hx)
 obtain ⟨vs,vr,vw,rfl,h1,h2,h3⟩:=h
 obtain ⟨sa,sc,rfl⟩:=h1.form
 obtain ⟨ar,cr,rfl⟩:=h2.form
 obtain ⟨aw,cw,rfl⟩:=h3.form
 have HS:Hid (∀ wx,Below w.heap.size w wx→Calls Tryz.prog 49 #[.slice sa n.streams.length sc] wx fun e w'=>e=.returned (.bool (validStreamsB n.streams))∧w'=wx):=
  fun wx hx=>validStreams_calls (h1.below hx)
 have HR:Hid (∀ wx,Below w.heap.size w wx→Calls Tryz.prog 50 #[.slice ar n.sources.length cr,.int .i64 n.streams.length] wx fun e w'=>e=.returned (.bool (validSourcesB n.sources n.streams.length))∧Below wx.heap.size wx w'):=
  fun wx hx=>validSources_calls _ (h2.below hx)
 have HW:Hid (∀ wx,Below w.heap.size w wx→Calls Tryz.prog 51 #[.slice aw n.workers.length cw,.int .i64 n.streams.length] wx fun e w'=>e=.returned (.bool (validWorkersB n.workers n.streams.length))∧Below wx.heap.size wx w'):=
  fun wx hx=>validWorkers_calls _ (h3.below hx)
 clear h1 h2 h3
 have HV:Hid (validB n=(validStreamsB n.streams && validSourcesB n.sources n.streams.length && validWorkersB n.workers n.streams.length && validEndsB n)):=rfl
 generalize validStreamsB n.streams=y1 at *
 generalize validSourcesB n.sources n.streams.length=y2 at *
 generalize validWorkersB n.workers n.streams.length=y3 at *
 generalize validEndsB n=y4 at *
 generalize n.sources.length=rl at *
 generalize n.workers.length=wl at *
 generalize n.streams.length=sl at *
 go_enter Tryz.func23,Tryz.ntmps23
 have hbl0:Below (w.heap.size+1) (w.alloc (.cells #[.slice sa sl sc,.slice ar rl cr,.slice aw wl cw] 26)) (w.alloc (.cells #[.slice sa sl sc,.slice ar rl cr,.slice aw wl cw] 26)):=Below.refl _ _
 go_wp2_with fail
 refine (unhide HS _ (below_box hbl0)).mono ?_
 rintro e w1 ⟨rfl,rfl⟩
 cases y1
 ·go_wp2
  go_ret
  exact ⟨ret_bool (by rw [HV.out];rfl),below_box hbl0⟩
 go_wp2_with fail
 refine (unhide HR _ (below_box hbl0)).mono ?_
 rintro e w2 ⟨rfl,hb2⟩
 have hbl2:=hbl0.trans (hb2.mono (by simp))
 have hsz2:w.heap.size+1≤w2.heap.size:=by have:=hbl2.size;simpa using this
 obtain ⟨c0,c1,c2⟩:=box3 hbl2
 clear hb2
 cases y2
 ·go_wp2
  go_ret
  exact ⟨ret_bool (by rw [HV.out];rfl),below_box hbl2⟩
 go_wp2_with fail
 refine (unhide HW _ (below_box hbl2)).mono ?_
 rintro e w3 ⟨rfl,hb3⟩
 have hbl3:=hbl2.trans (hb3.mono hsz2)
 have hsz3:w.heap.size+1≤w3.heap.size:=by have:=hbl3.size;simpa using this
 obtain ⟨c0,c1,c2⟩:=box3 hbl3
 clear hb3
 cases y3
 ·go_wp2
  go_ret
  exact ⟨ret_bool (by rw [HV.out];rfl),below_box hbl3⟩
 go_wp2_with fail
 refine (unhide HE _ (below_box hbl3)).mono ?_
 rintro e w4 ⟨rfl,hb4⟩
 have hbl4:=hbl3.trans (hb4.mono hsz3)
 clear hb4
 go_wp2
 go_ret
 exact ⟨ret_bool (by rw [HV.out];rfl),below_box hbl4⟩
set_option maxHeartbeats 1000000 in
theorem reckoned_calls (op b c:Int) (w:World) (ho:op=4∨op=5∨op=6∨op=7) :
  Calls Tryz.prog 80 #[.int .i64 op,.int .i64 b,.int .i64 c] w fun e w'=>e=.returned (.int .i64 (alu op b c))∧w'=w:=by
 rcases ho with rfl | rfl | rfl | rfl
 ·go_enter Tryz.func80,Tryz.ntmps80
  go_wp2
  go_ret
  exact ⟨ret_int (by simp [alu]),rfl⟩
 ·go_enter Tryz.func80,Tryz.ntmps80
  go_wp2
  go_ret
  exact ⟨ret_int (by simp [alu]),rfl⟩
 ·go_enter Tryz.func80,Tryz.ntmps80
  go_wp2
  go_ret
  exact ⟨ret_int (by simp [alu]),rfl⟩
 ·by_cases h:b<c
  ·go_enter Tryz.func80,Tryz.ntmps80
   go_wp2
   go_ret
   exact ⟨ret_int (by simp [alu,h]),rfl⟩
  ·have h':decide (b<c)=false:=by simpa using h
   go_enter Tryz.func80,Tryz.ntmps80
   go_wp2
   go_ret
   exact ⟨ret_int (by
     have:¬ b<c:=by omega
     simp [alu,this]),rfl⟩
def codeRow (l:List Ins):List Value:=l.flatMap fun i=>[.int .i64 i.op,.int .i64 i.a,.int .i64 i.b,.int .i64 i.c]
structure WkAt (w:World) (b:Nat) (vc:Value) (code:List Ins) (x:Wk):Prop where
 blk:w.heap[b]? = some (.cells #[vc,.int .i64 x.place,.int .i64 (x.r 0),.int .i64 (x.r 1),.int .i64 (x.r 2),.int .i64 (x.r 3),.int .i64 x.steps] 139 (0,0))
 own:w.ownsRow 0 44 4 vc code.length (codeRow code)
 le:x.place≤code.length
 small:code.length≤20
theorem codeRow_length (l:List Ins):(codeRow l).length=l.length*4:=by
 induction l with
 | nil=>rfl
 | cons i l ih=>simp only [codeRow,List.flatMap_cons,List.length_append,List.length_cons,List.length_nil] at ih ⊢;omega
theorem codeRow_get:∀ (l:List Ins) (k:Nat) (hk:k<l.length) (j:Nat),j<4→(codeRow l)[k*4+j]? = some (l[k].cell j)
 | i::l,0,_,j,hj=>by
  rcases (show j=0∨j=1∨j=2∨j=3 by omega) with rfl | rfl | rfl | rfl<;>rfl
 | i::l,k+1,hk,j,hj=>by
  have ih:=codeRow_get l k (by simpa using hk) j hj
  have e:codeRow (i::l)=[.int .i64 i.op,.int .i64 i.a,.int .i64 i.b,.int .i64 i.c]++codeRow l:=rfl
  rw [e,List.getElem?_append_right (by simp;omega)]
  simp only [List.length_cons,List.length_nil,List.getElem_cons_succ]
  rw [show (k+1)*4+j-(0+1+1+1+1)=k*4+j by omega]
  exact ih
theorem code_form {w:World} {vc:Value} {l:List Ins} (h:w.ownsRow 0 44 4 vc l.length (codeRow l)):∃ a cap,vc=.slice a l.length cap∧l.length≤cap∧(∀ i (hi:i<l.length),∃ g,a=some ⟨g,0,none⟩ ∧
  w.cell? ⟨g,i*4,none⟩=some (.int .i64 l[i].op)∧w.cell? ⟨g,i*4+1,none⟩=some (.int .i64 l[i].a)∧w.cell? ⟨g,i*4+2,none⟩=some (.int .i64 l[i].b)∧w.cell? ⟨g,i*4+3,none⟩=some (.int .i64 l[i].c)):=by
 obtain ⟨h1,h2⟩:=h
 rcases h2 with ⟨h3,h4⟩ | ⟨g,cap,cur,hv,hg,hh,hn,hm,hs,ht⟩
 ·exact ⟨none,0,by rw [h3,h4],by omega,fun i hi=>by omega⟩
 ·refine ⟨some ⟨g,0,none⟩,cap,hv,hn,fun i hi=>⟨g,rfl,?_⟩⟩
  have cell:∀ j,j<4→w.cell? ⟨g,i*4+j,none⟩=some (l[i].cell j):=by
   intro j hj
   have e:=codeRow_get l i hi j hj
   rw [← ht,List.getElem?_take_of_lt (by omega)] at e
   simp [World.cell?,hh]
   simpa using e
  exact ⟨cell 0 (by decide),cell 1 (by decide),cell 2 (by decide),cell 3 (by decide)⟩
theorem WkAt.cells {w:World} {b:Nat} {vc:Value} {code:List Ins} {x:Wk} (h:WkAt w b vc code x) :
  w.cell? ⟨b,0,none⟩=some vc∧w.cell? ⟨b,1,none⟩=some (.int .i64 x.place)∧w.cell? ⟨b,2,none⟩=some (.int .i64 (x.r 0))∧w.cell? ⟨b,3,none⟩=some (.int .i64 (x.r 1))∧w.cell? ⟨b,4,none⟩=some (.int .i64 (x.r 2))∧w.cell? ⟨b,5,none⟩=some (.int .i64 (x.r 3))∧w.cell? ⟨b,6,none⟩=some (.int .i64 x.steps) ∧
   (∀ i,w.frozen? ⟨b,i,none⟩=false):=
 ⟨row_cell h.blk rfl,row_cell h.blk rfl,row_cell h.blk rfl,row_cell h.blk rfl,row_cell h.blk rfl,row_cell h.blk rfl,row_cell h.blk rfl,fun i=>row_frozen h.blk i⟩
theorem WkAt.stays {w w':World} {b:Nat} {vc:Value} {code:List Ins} {x:Wk} (h:WkAt w b vc code x) (hk:∀ y,y=b∨vc.ownBlock=some y→w'.heap[y]? = w.heap[y]?):WkAt w' b vc code x:=
 ⟨by rw [hk b (Or.inl rfl)];exact h.blk,own_of_block h.own fun g hg=>hk g (Or.inr hg),h.le,h.small⟩
theorem WkAt.ne_own {w:World} {b:Nat} {vc:Value} {code:List Ins} {x:Wk} (h:WkAt w b vc code x) {g:Nat} (hg:vc.ownBlock=some g):g≠b:=by
 obtain ⟨cur,hc⟩:=own_block h.own hg
 exact ne_of_types hc h.blk (by decide)
structure Along (w:World) (v:Value) (st:Nat→Nat) (n:Nat):Prop where
 form:∃ g cap,v=.slice (some ⟨g,0,none⟩) n cap∧∃ cs:List Value,w.heap[g]? = some (.cells cs.toArray 70 (0,0))∧∀ i,i<n→cs[i]? = some (.pointer (some ⟨st i,0,none⟩))
 small:n≤8
structure Env (w:World) (va:Value) (n:Nat) (st:Nat→Nat) (VW:Nat→Value) (CH:Nat→Option Nat) (SRC:Nat→Bool) (M:Nat→Sm):Prop where
 along:Along w va st n
 at':∀ s,s<n→StAt w (st s) (VW s) (CH s) (SRC s) (M s)
structure CodeOk (code:List Ins) (n:Nat) (CH:Nat→Option Nat) (SRC:Nat→Bool):Prop where
 ins:∀ i∈code,opsValid i code.length n=true
 rd:∀ i∈code,i.op=1→SRC i.b.toNat=true∨CH i.b.toNat≠none
 wr:∀ i∈code,i.op=2→SRC i.b.toNat=false
def stateL (code:List Ins) (x:Wk) (CH:Nat→Option Nat) (SRC:Nat→Bool) (M:Nat→Sm):Nat:=
 match code[x.place]? with
 | none=>4
 | some i=>
  if i.op=1∧SRC i.b.toNat=false∧(M i.b.toNat).read=(M i.b.toNat).words.length then 2
  else if i.op=2∧(CH i.b.toNat).isSome=true∧(M i.b.toNat).room≤(M i.b.toNat).words.length-(M i.b.toNat).read then 3
  else 1
theorem Env.below {w w':World} {va:Value} {n:Nat} {st:Nat→Nat} {VW:Nat→Value} {CH:Nat→Option Nat} {SRC:Nat→Bool} {M:Nat→Sm} (h:Env w va n st VW CH SRC M) (hb:Below w.heap.size w w'):Env w' va n st VW CH SRC M:=by
 obtain ⟨⟨g,cap,hv,cs,hg,hcs⟩,hsm⟩:=h.along
 exact ⟨⟨⟨g,cap,hv,cs,by rw [hb.block g (lt_of_blk hg)];exact hg,hcs⟩,hsm⟩,fun s hs=>(h.at' s hs).below hb⟩
theorem WkAt.below {w w':World} {b:Nat} {vc:Value} {code:List Ins} {x:Wk} (h:WkAt w b vc code x) (hb:Below w.heap.size w w'):WkAt w' b vc code x:=by
 refine h.stays fun y hy=>hb.block y ?_
 rcases hy with rfl | hy
 ·exact lt_of_blk h.blk
 ·obtain ⟨cur,hc⟩:=own_block h.own hy;exact lt_of_blk hc
theorem valid_op {i:Ins} {c s:Int} (h:opsValid i c s=true):1≤i.op∧i.op≤9:=by
 simp only [opsValid,Bool.and_eq_true,decide_eq_true_eq] at h
 exact ⟨h.1.1.1.1,h.1.1.1.2⟩
theorem valid_reg {i:Ins} {c s:Int} (h:opsValid i c s=true) (ho:i.op≠9):0≤i.a∧i.a<4:=by
 have hv:=valid_op h
 simp only [opsValid,Bool.and_eq_true,decide_eq_true_eq] at h
 have h1:=h.1.1.2
 simp only [fitsB,k1,if_neg ho,if_true,inB,Bool.and_eq_true,decide_eq_true_eq] at h1
 exact h1
theorem valid_stream {i:Ins} {c s:Int} (h:opsValid i c s=true) (ho:i.op=1∨i.op=2):0≤i.b∧i.b<s:=by
 simp only [opsValid,Bool.and_eq_true,decide_eq_true_eq] at h
 have h1:=h.1.2
 simp only [fitsB,k2,if_pos ho] at h1
 simpa [inB] using h1
theorem valid_alu {i:Ins} {c s:Int} (h:opsValid i c s=true) (ho:i.op=4∨i.op=5∨i.op=6∨i.op=7):(0≤i.b∧i.b<4)∧(0≤i.c∧i.c<4):=by
 simp only [opsValid,Bool.and_eq_true,decide_eq_true_eq] at h
 have h1:=h.1.2
 have h2:=h.2
 rcases ho with e | e | e | e<;>simp [fitsB,k2,k3,e,inB] at h1 h2<;>exact ⟨h1,h2⟩
theorem valid_place {i:Ins} {c s:Int} (h:opsValid i c s=true) (ho:i.op=1∨i.op=8∨i.op=9):0≤i.c∧i.c≤c:=by
 simp only [opsValid,Bool.and_eq_true,decide_eq_true_eq] at h
 have h2:=h.2
 rcases ho with e | e | e<;>simp [fitsB,k3,e] at h2<;>exact h2
theorem along_at {w:World} {va:Value} {st:Nat→Nat} {n:Nat} (h:Along w va st n):∃ g cap,va=.slice (some ⟨g,0,none⟩) n cap∧g<w.heap.size∧∀ wr,Below w.heap.size w wr→∀ s,s<n→wr.cell? ⟨g,s,none⟩=some (.pointer (some ⟨st s,0,none⟩)):=by
 obtain ⟨⟨g,cap,hv,cs,hg,hcs⟩, -⟩:=h
 refine ⟨g,cap,hv,lt_of_blk hg,fun wr hb s hs=>?_⟩
 rw [hb.cell (p:=⟨g,s,none⟩) (lt_of_blk hg)]
 exact row_cell hg (hcs s hs)
set_option maxRecDepth 100000 in
set_option maxHeartbeats 2000000 in
theorem wstate_calls {w:World} {b:Nat} {vc va:Value} {code:List Ins} {x:Wk} {n:Nat} {st:Nat→Nat} {VW:Nat→Value} {CH:Nat→Option Nat} {SRC:Nat→Bool} {M:Nat→Sm}
  (hw:WkAt w b vc code x) (he:Env w va n st VW CH SRC M) (hc:CodeOk code n CH SRC) :
  Calls Tryz.prog 87 #[.pointer (some ⟨b,0,none⟩),va] w fun e w'=>e=.returned (.int .i64 (stateL code x CH SRC M))∧Below w.heap.size w w':=by
 obtain ⟨c0,c1,c2,c3,c4,c5,c6,cf⟩:=hw.cells
 obtain ⟨a,cap,rfl,hcap,hcode⟩:=code_form hw.own
 have hle:=hw.le
 have hsm:=hw.small
 clear cf c2 c3 c4 c5 c6
 by_cases hlt:x.place<code.length
 ·obtain ⟨g,rfl,d0,d1,d2,d3⟩:=hcode x.place hlt
  have hmem:code[x.place]∈code:=List.getElem_mem hlt
  have hok:=hc.ins _ hmem
  have hrd:=hc.rd _ hmem
  have hwr:=hc.wr _ hmem
  have HV:Hid (stateL code x CH SRC M=(if code[x.place].op=1∧SRC code[x.place].b.toNat=false∧(M code[x.place].b.toNat).read=(M code[x.place].b.toNat).words.length then 2
   else if code[x.place].op=2∧(CH code[x.place].b.toNat).isSome=true∧(M code[x.place].b.toNat).room≤(M code[x.place].b.toNat).words.length-(M code[x.place].b.toNat).read then 3
   else 1)):=by unfold Hid;simp [stateL,List.getElem?_eq_getElem hlt]
  have HE:=hide he
  obtain ⟨ga,gcap,rfl,hgl,hal⟩:=along_at he.along
  have HAL:=hide hal
  clear hcode hmem hc hw hal he
  generalize code[x.place]=ins at *
  obtain ⟨op,ia,ib,ic⟩:=ins
  dsimp only at *
  have hop:=valid_op hok
  have hst:=valid_stream hok
  dsimp only at hop hst
  have hd0:decide ((code.length:Int)≤(x.place:Int))=false:=by simp;omega
  have hp0:(0:Int)≤(x.place:Int):=by omega
  have hp1:(x.place:Int)<(code.length:Int):=by omega
  by_cases o1:op=1
  ·subst o1
   obtain ⟨hb0,hb1⟩:=hst (Or.inl rfl)
   obtain ⟨kb,rfl⟩:=Int.eq_ofNat_of_zero_le hb0
   have hkb:kb<n:=by omega
   simp only [Int.toNat_natCast] at HV hrd hwr
   have hrd:=hrd (by trivial)
   clear hwr hst hok
   go_enter Tryz.func87,Tryz.ntmps87
   go_wp2
   go_quiet (fail)
   go_wp2
   obtain ⟨w1,hw1⟩:∃ w1,w1=w.drewN nq:=⟨_,rfl⟩
   rw [← hw1]
   have hcell:∀ p,w1.cell? p=w.cell? p:=fun p=>by rw [hw1];rfl
   rw [← hcell] at c0 c1 d0 d1 d2 d3
   clear hcell
   have hbl:Below w.heap.size w w1:=by rw [hw1];exact below_drewN (Below.refl _ _) _
   clear hw1
   have n0:=World.new_ne w1 _ c0
   have n1:=World.new_ne w1 _ c1
   have n2:=World.new_ne w1 _ d0
   have n3:=World.new_ne w1 _ d1
   have n4:=World.new_ne w1 _ d2
   have n5:=World.new_ne w1 _ d3
   go_region_held3 (fun w'=>w'.cell? ⟨b,0,none⟩=some (.slice (some ⟨g,0,none⟩) code.length cap)∧w'.cell? ⟨b,1,none⟩=some (.int .i64 x.place)∧w'.cell? ⟨g,x.place*4,none⟩=some (.int .i64 1)∧w'.cell? ⟨g,x.place*4+1,none⟩=some (.int .i64 ia)∧w'.cell? ⟨g,x.place*4+2,none⟩=some (.int .i64 kb)∧w'.cell? ⟨g,x.place*4+3,none⟩=some (.int .i64 ic)) (go_keep) (fail)
   have HBL:Hid (Below w.heap.size w (w1.alloc (.cells #[.int .i64 1,.int .i64 ia,.int .i64 kb,.int .i64 ic] 44)).drew):=(hbl.alloc hbl.size _).drew
   have a0:(w1.alloc (.cells #[.int .i64 1,.int .i64 ia,.int .i64 kb,.int .i64 ic] 44)).drew.cell? ⟨w1.heap.size,0,none⟩=some (.int .i64 1):=by simp [go_sem]
   have a2:(w1.alloc (.cells #[.int .i64 1,.int .i64 ia,.int .i64 kb,.int .i64 ic] 44)).drew.cell? ⟨w1.heap.size,2,none⟩=some (.int .i64 kb):=by simp [go_sem]
   generalize (w1.alloc (.cells #[.int .i64 1,.int .i64 ia,.int .i64 kb,.int .i64 ic] 44)).drew=w2 at *
   have da:=HAL.out w2 HBL.out kb hkb
   clear c0 c1 d0 d1 d2 d3
   go_wp2_with fail
   refine (waiting_calls (((unhide HE).at' kb hkb).below HBL.out) hrd).mono ?_
   rintro e w3 ⟨rfl,rfl⟩
   generalize hy:(!SRC kb && ((M kb).read == (M kb).words.length))=y
   have HY:=hide hy
   clear hy
   cases y
   ·have F:Hid (stateL code x CH SRC M=1):=by
     have h1:=HY.out
     have hne:¬ (SRC kb=false∧(M kb).read=(M kb).words.length):=by
      rintro ⟨e1,e2⟩;rw [e1,e2] at h1;simp at h1
     unfold Hid;rw [HV.out,if_neg (fun e=>hne e.2),if_neg (fun e=>by cases e.1)]
    go_wp2
    go_ret
    exact ⟨ret_int (by rw [F.out];rfl),by repeat (first | exact HBL.out | apply Below.drew | apply below_drewN)⟩
   ·have F:Hid (stateL code x CH SRC M=2):=by
     have h1:=HY.out
     simp only [Bool.and_eq_true,Bool.not_eq_true',beq_iff_eq] at h1
     unfold Hid;rw [HV.out,if_pos ⟨by trivial,h1.1,h1.2⟩]
    go_wp2
    go_ret
    exact ⟨ret_int (by rw [F.out];rfl),by repeat (first | exact HBL.out | apply Below.drew | apply below_drewN)⟩
  by_cases o2:op=2
  ·subst o2
   obtain ⟨hb0,hb1⟩:=hst (Or.inr rfl)
   obtain ⟨kb,rfl⟩:=Int.eq_ofNat_of_zero_le hb0
   have hkb:kb<n:=by omega
   simp only [Int.toNat_natCast] at HV hrd hwr
   clear hwr hst hok hrd
   go_enter Tryz.func87,Tryz.ntmps87
   go_wp2
   go_quiet (fail)
   go_wp2
   obtain ⟨w1,hw1⟩:∃ w1,w1=w.drewN nq:=⟨_,rfl⟩
   rw [← hw1]
   have hcell:∀ p,w1.cell? p=w.cell? p:=fun p=>by rw [hw1];rfl
   rw [← hcell] at c0 c1 d0 d1 d2 d3
   clear hcell
   have hbl:Below w.heap.size w w1:=by rw [hw1];exact below_drewN (Below.refl _ _) _
   clear hw1
   have n0:=World.new_ne w1 _ c0
   have n1:=World.new_ne w1 _ c1
   have n2:=World.new_ne w1 _ d0
   have n3:=World.new_ne w1 _ d1
   have n4:=World.new_ne w1 _ d2
   have n5:=World.new_ne w1 _ d3
   go_region_held3 (fun w'=>w'.cell? ⟨b,0,none⟩=some (.slice (some ⟨g,0,none⟩) code.length cap)∧w'.cell? ⟨b,1,none⟩=some (.int .i64 x.place)∧w'.cell? ⟨g,x.place*4,none⟩=some (.int .i64 2)∧w'.cell? ⟨g,x.place*4+1,none⟩=some (.int .i64 ia)∧w'.cell? ⟨g,x.place*4+2,none⟩=some (.int .i64 kb)∧w'.cell? ⟨g,x.place*4+3,none⟩=some (.int .i64 ic)) (go_keep) (fail)
   have HBL:Hid (Below w.heap.size w (w1.alloc (.cells #[.int .i64 2,.int .i64 ia,.int .i64 kb,.int .i64 ic] 44)).drew):=(hbl.alloc hbl.size _).drew
   have a0:(w1.alloc (.cells #[.int .i64 2,.int .i64 ia,.int .i64 kb,.int .i64 ic] 44)).drew.cell? ⟨w1.heap.size,0,none⟩=some (.int .i64 2):=by simp [go_sem]
   have a2:(w1.alloc (.cells #[.int .i64 2,.int .i64 ia,.int .i64 kb,.int .i64 ic] 44)).drew.cell? ⟨w1.heap.size,2,none⟩=some (.int .i64 kb):=by simp [go_sem]
   generalize (w1.alloc (.cells #[.int .i64 2,.int .i64 ia,.int .i64 kb,.int .i64 ic] 44)).drew=w2 at *
   have da:=HAL.out w2 HBL.out kb hkb
   clear c0 c1 d0 d1 d2 d3
   go_wp2_with fail
   refine (full_calls (((unhide HE).at' kb hkb).below HBL.out)).mono ?_
   rintro e w3 ⟨rfl,q,rfl⟩
   generalize hy:((CH kb).isSome && decide ((M kb).room≤(M kb).words.length-(M kb).read))=y
   have HY:=hide hy
   clear hy
   cases y
   ·have F:Hid (stateL code x CH SRC M=1):=by
     have h1:=HY.out
     have hne:¬ ((CH kb).isSome=true∧(M kb).room≤(M kb).words.length-(M kb).read):=by
      rintro ⟨e1,e2⟩;rw [e1,decide_eq_true e2] at h1;cases h1
     unfold Hid;rw [HV.out,if_neg (fun e=>by cases e.1),if_neg (fun e=>hne e.2)]
    go_wp2
    go_ret
    exact ⟨ret_int (by rw [F.out];rfl),by repeat (first | exact HBL.out | apply Below.drew | apply below_drewN)⟩
   ·have F:Hid (stateL code x CH SRC M=3):=by
     have h1:=HY.out
     simp only [Bool.and_eq_true,decide_eq_true_eq] at h1
     unfold Hid;rw [HV.out,if_neg (fun e=>by cases e.1),if_pos ⟨by trivial,h1.1,h1.2⟩]
    go_wp2
    go_ret
    exact ⟨ret_int (by rw [F.out];rfl),by repeat (first | exact HBL.out | apply Below.drew | apply below_drewN)⟩
  have b1:(op == 1)=false:=by simpa using o1
  have b2:(op == 2)=false:=by simpa using o2
  have F:Hid (stateL code x CH SRC M=1):=by unfold Hid;rw [HV.out,if_neg (fun e=>o1 e.1),if_neg (fun e=>o2 e.1)]
  go_enter Tryz.func87,Tryz.ntmps87
  go_wp2
  go_quiet (fail)
  go_wp2
  obtain ⟨w1,hw1⟩:∃ w1,w1=w.drewN nq:=⟨_,rfl⟩
  rw [← hw1]
  have hcell:∀ p,w1.cell? p=w.cell? p:=fun p=>by rw [hw1];rfl
  rw [← hcell] at c0 c1 d0 d1 d2 d3
  clear hcell
  have hbl:Below w.heap.size w w1:=by rw [hw1];exact below_drewN (Below.refl _ _) _
  clear hw1
  have n0:=World.new_ne w1 _ c0
  have n1:=World.new_ne w1 _ c1
  have n2:=World.new_ne w1 _ d0
  have n3:=World.new_ne w1 _ d1
  have n4:=World.new_ne w1 _ d2
  have n5:=World.new_ne w1 _ d3
  go_region_held3 (fun w'=>w'.cell? ⟨b,0,none⟩=some (.slice (some ⟨g,0,none⟩) code.length cap)∧w'.cell? ⟨b,1,none⟩=some (.int .i64 x.place)∧w'.cell? ⟨g,x.place*4,none⟩=some (.int .i64 op)∧w'.cell? ⟨g,x.place*4+1,none⟩=some (.int .i64 ia)∧w'.cell? ⟨g,x.place*4+2,none⟩=some (.int .i64 ib)∧w'.cell? ⟨g,x.place*4+3,none⟩=some (.int .i64 ic)) (go_keep) (fail)
  have HBL:Hid (Below w.heap.size w (w1.alloc (.cells #[.int .i64 op,.int .i64 ia,.int .i64 ib,.int .i64 ic] 44))):=hbl.alloc hbl.size _
  go_wp2
  go_ret
  exact ⟨ret_int (by rw [F.out];rfl),by repeat (first | exact HBL.out | apply Below.drew | apply below_drewN)⟩
 ·have F:Hid (stateL code x CH SRC M=4):=by unfold Hid;simp only [stateL];rw [List.getElem?_eq_none (by omega)]
  have hd0:decide ((code.length:Int)≤(x.place:Int))=true:=by simp;omega
  clear hcode
  go_enter Tryz.func87,Tryz.ntmps87
  go_wp2
  go_quiet (fail)
  go_wp2
  go_ret
  exact ⟨ret_int (by rw [F.out];rfl),below_drewN (Below.refl _ _) _⟩
end Go.Proofs.YthfdgdfnflilfaaGreatDoor

/- Part 6: Back1, Ret1, Over, Ret2. -/
import Derived.Deep.Cut
import Derived.Laws.StructEq
import Derived.Test.YthfdgdfnflilfaaGreatDoorPart5
namespace Go.Proofs.YthfdgdfnflilfaaGreatDoor
open Go.RowKit Go.Conc
def recol (col:Nat→Nat) (g n r:Nat):Nat→Nat:=fun b=>if b=g then 8 else if b<n then col b else r
theorem recol_g (col:Nat→Nat) (g n r:Nat):recol col g n r g=8:=by simp [recol]
theorem recol_old (col:Nat→Nat) (g n r b:Nat) (h:b≠g) (hb:b<n):recol col g n r b=col b:=by simp [recol,h,hb]
theorem recol_new (col:Nat→Nat) (g n r b:Nat) (h:b≠g) (hb:n≤b):recol col g n r b=r:=by simp [recol,h,Nat.not_lt.2 hb]
theorem setCell_over {w:World} {g i:Nat} {cs:List Value} {t:TypeId} {v:Value} (h:w.heap[g]? = some (.cells (List.replicate i v++cs.drop i).toArray t (0,0))) (hi:i<cs.length) :
  (w.setCell ⟨g,i,none⟩ v).heap[g]? = some (.cells (List.replicate (i+1) v++cs.drop (i+1)).toArray t (0,0)):=by
 have:=blk_set h i v
 rw [this]
 congr 3
 rw [List.set_append_right _ _ (by simp)]
 simp only [List.length_replicate,Nat.sub_self]
 have hd:cs.drop i=cs[i]::cs.drop (i+1):=List.drop_eq_getElem_cons hi
 rw [hd,List.set_cons_zero,List.replicate_succ']
 simp
theorem over_get {i:Nat} {cs:List Value} {v:Value} (hi:i<cs.length):(List.replicate i v++cs.drop i)[i]? = some cs[i]:=by
 rw [List.getElem?_append_right (by simp)]
 simp [hi]
theorem replicate_sl {w:World} {g n:Nat} {v:Value} {t:TypeId} (h:w.heap[g]? = some (.cells (List.replicate n v).toArray t (0,0))) (hn:n≤140737488355328):Sl w (.slice (some ⟨g,0,none⟩) n n) n 1 fun _ _=>v:=by
 refine ⟨_,_,rfl,hn,Nat.le_refl _,Or.inr ⟨g,0,rfl,fun i hi j hj=>?_⟩⟩
 refine row_cell h ?_
 have:0+i*1+j=i:=by omega
 rw [this]
 simp [hi]
structure Backed (base:Nat) (col:Nat→Nat) (w:World) (p:Nat) (v0:Value) (c g:Nat) (w':World):Prop where
 ex:∃ col',Bk base col' w' p v0 (c+1)∧(∀ b,b<w.heap.size→b≠g→col' b=col b)∧(∀ b,w.heap.size≤b→col' b≤8)∧col' g=8
 fr:Fr (fun b=>b=g∨(base≤b∧col b≤8)) w w'
theorem Backed.push {base:Nat} {col:Nat→Nat} {w w1 w2:World} {p:Nat} {v0:Value} {c m g r:Nat} {v u:Value} {vals:List Value} {gr gcap H:Nat} {o:Obj} (hr1:3≤r) (hr7:r≤7) (hb:Bk base col w p v0 c)
  (hcell:w.cell? ⟨p,r,none⟩=some v) (hrow:w.ownsRow base (rowT r) 1 v vals.length vals) (hcv:∀ g,v.ownBlock=some g→col g=r) (hle:vals.length≤c) (h6:∀ i (h:i<vals.length),∃ m,Sl w vals[i] m (rowSz r) (rowF r i)) (h7:∀ x∈vals,∀ g,x.ownBlock=some g→g<w.heap.size∧col g=8)
  (hg:base≤g) (hcg:8<col g) (hgl:g<w.heap.size) (hf:Fr (fun b=>b=g) w w1)
  (hown:w2.ownsRow base (rowT r) 1 (.slice (some ⟨gr,0,none⟩) (vals.length+1) gcap) (vals.length+1) (vals++[u])) (hgr:(w1.alloc o).grownBy w2 v.ownBlock) (hor:v.ownBlock=some gr∨gr=H) (hH:w.heap.size≤H)
  (hu:Sl w1 u m (rowSz r) (rowF r vals.length)) (hug:∀ b,u.ownBlock=some b→b=g) :
  Backed base col w p v0 c g (w2.setCell ⟨p,r,none⟩ (.slice (some ⟨gr,0,none⟩) (vals.length+1) gcap)):=by
 obtain ⟨cs,hp,hl⟩:=hb.blk
 have hpl:=lt_of_blk hp
 have hgp:g≠p:=fun e=>by rw [e,hb.colp] at hcg;omega
 have hvg:v.ownBlock≠some g:=fun e=>by have:=hcv g e;omega
 have hsz1:=hf.size
 have keep:∀ b,b<w.heap.size→b≠g→v.ownBlock≠some b→w2.heap[b]? = w.heap[b]? := fun b h1 h2 h3=>by
  rw [hgr.block b (by simp;omega) (fun e=>h3 e.symm),Below.heap_alloc _ _ _ (by omega),hf.block b h1 h2]
 have hbase:base≤w.heap.size:=Nat.le_trans hb.ge (Nat.le_of_lt hpl)
 have hgrr:recol col g w.heap.size r gr=r:=by
  rcases hor with h1 | h1
  ·have:=hrow.lt gr h1
   rw [recol_old _ _ _ _ _ (fun e=>hvg (by rw [← e];exact h1)) this.2];exact hcv gr h1
  ·exact recol_new _ _ _ _ _ (by omega) (by omega)
 refine ⟨⟨recol col g w.heap.size r,?_,fun b h1 h2=>recol_old _ _ _ _ _ h2 h1,fun b h1=>?_,recol_g _ _ _ _⟩,?_⟩
 ·refine BkM.push (v:=v) (col:=col) (w:=w) (md:=rowMd) r (by omega) hr7 hb hle h6 h7 hown (fun b h1 h2 h3=>keep b h1 (fun e=>by rw [e] at h3;omega) h2) (Nat.le_trans hsz1 (Nat.le_trans (by simp) hgr.size)) hcv (fun b h1 h2=>recol_old _ _ _ _ _ (fun e=>by rw [e] at h2;omega) h1) (fun b h1=>?_) hgrr ?_ (hu.frame fun b hb'=>?_) (fun b hb'=>?_) ?_ (fun _ _=>rfl)
  ·rw [recol_old _ _ _ _ _ (by omega) (by omega)];exact hb.low b h1
  ·rcases hor with h1 | h1
   ·intro e;have:=hcv gr h1;rw [e,hb.colp] at this;omega
   ·omega
  ·have:=hug b hb'
   subst this
   rw [hgr.block b (by simp;omega) (fun e=>hvg e.symm),Below.heap_alloc _ _ _ (by omega)]
  ·have:=hug b hb'
   subst this
   have:=hgr.size
   simp at this
   exact ⟨by omega,recol_g _ _ _ _,hgp⟩
  ·have:rowMd r=1:=by
    rcases (show r=3∨r=4∨r=5∨r=6∨r=7 by omega) with rfl | rfl | rfl | rfl | rfl<;>rfl
   rw [this,Nat.mod_one]
 ·by_cases e:b=g
  ·omega
  ·rw [recol_new _ _ _ _ _ e h1];omega
 ·refine Fr.setCell (S:=fun b=>b=g∨(base≤b∧col b≤8)) ?_ (p:=⟨p,r,none⟩) (Or.inr (Or.inr ⟨hb.ge,by rw [hb.colp];omega⟩)) _
  refine Fr.grown ((hf.mono fun k _ hk=>Or.inl hk).alloc o) hgr fun k hk=>Or.inr (Or.inr ⟨(hrow.lt k hk).1,by have:=hcv k hk;omega⟩)
set_option maxRecDepth 100000 in
set_option maxHeartbeats 4000000 in
theorem backInts_calls {base:Nat} {col:Nat→Nat} {w:World} {p:Nat} {v0:Value} {c g:Nat} {l:List Int} {vl:Value} (hb:Bk base col w p v0 c) (hl:w.heap[g]? = some (.cells (intRow (l++[78])).toArray 3 (0,0))) (hg:base≤g) (hcg:8<col g) (hi:IntsAt w vl l) (hlen:l.length≤1048576) (hc:c≤1099511627776) :
  Calls Tryz.prog 29 #[.pointer (some ⟨p,0,none⟩),.slice (some ⟨g,0,none⟩) (l.length+1) (l.length+1),vl] w fun e w'=>e=.returned (.bool true)∧Backed base col w p v0 c g w':=by
 obtain ⟨iI,hiI,hI0,hI1,hI2⟩:=info_parts Tryz.infoLI
 obtain ⟨v,vals,q1,q2,q3,q4,q5,q6,q7⟩:=(hb.rows 4 (by decide) (by decide)).ex
 have q2':w.ownsRow base 22 1 v vals.length vals:=q2
 obtain ⟨cs,hp,hpl⟩:=hb.blk
 have hgl:=lt_of_blk hl
 have hgp:g≠p:=fun e=>by rw [e,hb.colp] at hcg;omega
 have hvg:v.ownBlock≠some g:=fun e=>by have:=q3 g e;omega
 have hvp:v.ownBlock≠some p:=fun e=>by have:=q3 p e;rw [hb.colp] at this;omega
 have hown:IntsAt w (.slice (some ⟨g,0,none⟩) l.length (l.length+1)) l:=(Lentd.mk (w:=w) (g:=g) (u:=.slice (some ⟨g,0,none⟩) l.length (l.length+1)) (l:=l) hl (Or.inl rfl)).ints hlen
 have HSm:Hid (Calls Tryz.prog 60 #[.slice (some ⟨g,0,none⟩) l.length (l.length+1),vl] w fun e w'=>e=.returned (.bool true)∧∃ q,w'=w.drewN q):=sameInts_calls hown hi
 have h78:∀ q,(w.drewN q).cell? ⟨g,l.length,none⟩=some (.int .i64 78):=fun q=>by
  refine row_cell (w:=w.drewN q) hl ?_
  simp [intRow]
 obtain ⟨av,cv,rfl⟩:=own_slice q2'
 obtain ⟨al,cl,rfl, -, -, -⟩:=hi.open
 have hbase:base≤w.heap.size:=Nat.le_trans hb.ge (Nat.le_of_lt (lt_of_blk hp))
 have HFin:Hid (∀ w1 w2 gr gcap o H,Fr (fun b=>b=g) w w1→w1.heap[g]? = some (.cells (List.replicate (l.length+1) (.int .i64 (-7))).toArray 3 (0,0))→w2.ownsRow base 22 1 (.slice (some ⟨gr,0,none⟩) (vals.length+1) gcap) (vals.length+1) (vals++[.slice (some ⟨g,0,none⟩) (l.length+1) (l.length+1)])→(w1.alloc o).grownBy w2 (Value.slice av vals.length cv).ownBlock→((Value.slice av vals.length cv).ownBlock=some gr∨gr=H)→w.heap.size≤H →
   (∃ cs:List Value,w2.heap[p]? = some (.cells cs.toArray 35 (0,0))∧w2.cell? ⟨p,4,none⟩=some (.slice av vals.length cv))∧Backed base col w p v0 c g (w2.setCell ⟨p,4,none⟩ (.slice (some ⟨gr,0,none⟩) (vals.length+1) gcap))):=fun w1 w2 gr gcap o H hf h7 ho hgr hor hH=>by
  have hsz1:=hf.size
  have hp2:w2.heap[p]? = w.heap[p]? := by
   rw [hgr.block p (by have:=lt_of_blk hp;simp;omega) (fun e=>hvp e.symm),Below.heap_alloc _ _ _ (by have:=lt_of_blk hp;omega),hf.block p (lt_of_blk hp) (fun e=>hgp e.symm)]
  refine ⟨⟨cs,hp2.trans hp,(World.cell?_of_block (w:=w) hp2).trans q1⟩,?_⟩
  refine Backed.push (by decide) (by decide) hb q1 q2 q3 q4 q6 q7 hg hcg hgl hf ho hgr hor hH (m:=l.length+1) ?_ (fun b hb'=>by simpa [Value.ownBlock] using hb'.symm)
  exact replicate_sl h7 (by omega)
 have HRow:Hid (∀ w1,Fr (fun b=>b=g) w w1→w1.ownsRow base 22 1 (.slice av vals.length cv) vals.length vals∧w1.cell? ⟨p,4,none⟩=some (.slice av vals.length cv)):=fun w1 hf=>
  ⟨own_of_blockB q2' fun k hk=>hf.block k (q2'.lt k hk).2 (fun e=>hvg (by rw [← e];exact hk)),(World.cell?_of_block (w:=w) (hf.block p (lt_of_blk hp) (fun e=>hgp e.symm))).trans q1⟩
 have HL:=hide hl
 have hll:(intRow (l++[78])).length=l.length+1:=by simp [intRow]
 have h63:vals.length+1≤maxLen:=by unfold maxLen;omega
 have hbytes:(vals.length+1)*24≤140737488355328:=by omega
 clear hb hl hi hown q1 q2 q2' q3 q4 q5 q6 q7 hp hpl hvg hvp
 generalize intRow (l++[78])=row at *
 generalize hn:l.length=n at *
 clear hn
 generalize vals.length=vn at *
 have hn0:(0:Int)≤(n:Int):=by omega
 have hn1:(n:Int)≤(n:Int)+1:=by omega
 have hn2:(n:Int)<(n:Int)+1:=by omega
 go_enter Tryz.func29,Tryz.ntmps29
 go_wp2_with fail
 refine (unhide HSm).mono ?_
 rintro e w1 ⟨rfl,q,rfl⟩
 have e78:=h78 q
 clear h78 HSm
 go_wp2
 go_loopw [10] (fun i wr=>∃ k:Nat,k≤n+1∧i=.int .i64 k∧Fr (fun b=>b=g) w wr∧wr.heap[g]? = some (.cells (List.replicate k (Value.int .i64 (-7))++row.drop k).toArray 3 (0,0))) (fun i _=>n+1-(intOf i).toNat)
 case atStart=>exact ⟨0,Nat.zero_le _,rfl,(Fr.refl _ w).drewN q,by simpa using HL.out⟩
 case round=>
  clear e78
  obtain ⟨k,hk,rfl,hf,hr⟩:=hrel
  by_cases hlt:k<n+1
  ·have hkr:k<row.length:=by omega
   have c0:=row_cell hr (over_get hkr)
   have f0:=row_frozen hr k
   have HNx:Hid (Fr (fun b=>b=g) w (wr.setCell ⟨g,k,none⟩ (.int .i64 (-7)))∧(wr.setCell ⟨g,k,none⟩ (.int .i64 (-7))).heap[g]? = some (.cells (List.replicate (k+1) (Value.int .i64 (-7))++row.drop (k+1)).toArray 3 (0,0))):=
    ⟨Fr.setCell (S:=fun b=>b=g) hf (p:=⟨g,k,none⟩) (Or.inr rfl) _,setCell_over hr hkr⟩
   have hk0:(0:Int)≤(k:Int):=by omega
   have hk1:(k:Int)<(n:Int)+1:=by omega
   clear hf hr
   generalize row[k]=x at *
   go_wp2
   go_roundw
   case rel=>exact ⟨k+1,by omega,by go_num,HNx.out.1,HNx.out.2⟩
   case measure=>simp [intOf];omega
  ·have hke:k=n+1:=by omega
   subst hke
   have hr':wr.heap[g]? = some (.cells (List.replicate (n+1) (.int .i64 (-7))).toArray 3 (0,0)):=by
    rw [hr,List.drop_of_length_le (by omega),List.append_nil]
   obtain ⟨hro,c4⟩:=HRow.out wr hf
   have hszr:=hf.size
   have HRo:=hide hro
   have HF2:=hide (fun w2 gr gcap o H=>HFin.out wr w2 gr gcap o H hf hr')
   clear hr hr' hf hro HFin HRow HL
   go_wp2_with (at_builtin;refine wpList_append_lies _ rfl (.tmp 39) (.tmp 41) 31 rfl base 22 iI (.slice none 0 0) 1 24 Tryz.underlying31 hiI hI0 hI1 hI2 rfl (by decide) (.slice av vn cv) vn vals rfl (HRo.out.alloc _) ⟨wr.heap.size,0,none⟩ 1 1 [.slice (some ⟨g,0,none⟩) (n+1) (n+1)] rfl rfl ?c1 ?c2 (by decide) h63 hbytes (by simp;omega) (wr.heap.size+1) (by simp) ?_)
   (try case c1=>exact cell_one_new _ _ _)
   case c2=>first | rfl | (intro u hu;simp at hu;subst hu;rfl)
   intro gr gc w2 ho hgr hor hglt
   obtain ⟨⟨cs2,y1,y2⟩,y3⟩:=HF2.out w2 gr gc _ _ ho hgr hor (by omega)
   have yf:=row_frozen y1 4
   have Y3:=hide y3
   clear ho hgr hor hglt HF2 y1 y3 c4 HRo
   go_wp2
   go_ret
   exact ⟨rfl,Y3.out⟩
structure TurnS (base:Nat) (col col':Nat→Nat) (S:Nat→Prop) (w w':World):Prop where
 fr:Fr (fun b=>base≤b∧(col b≤8∨S b)) w w'
 old:∀ b,b<w.heap.size→¬ S b→col' b=col b
 new:∀ b,w.heap.size≤b→col' b≤8
theorem TurnS.refl (base:Nat) (col:Nat→Nat) (w:World) (h:∀ b,w.heap.size≤b→col b≤8):TurnS base col col (fun _=>False) w w:=⟨Fr.refl _ _,fun _ _ _=>rfl,h⟩
theorem TurnS.keep {base:Nat} {col col':Nat→Nat} {S:Nat→Prop} {w w':World} (h:TurnS base col col' S w w') {b:Nat} (hb:b<w.heap.size) (hc:8<col b) (hs:¬ S b):w'.heap[b]? = w.heap[b]? :=
 h.fr.block b hb fun e=>by
  rcases e.2 with e | e
  ·omega
  ·exact hs e
theorem TurnS.mono {base:Nat} {col col':Nat→Nat} {S T:Nat→Prop} {w w':World} (h:TurnS base col col' S w w') (hs:∀ b,S b→T b):TurnS base col col' T w w':=
 ⟨h.fr.mono fun b _ hb=>⟨hb.1,hb.2.imp id (hs b)⟩,fun b hb hn=>h.old b hb fun e=>hn (hs b e),h.new⟩
theorem TurnS.back {base:Nat} {col c1:Nat→Nat} {S:Nat→Prop} {w w1 w2:World} {p:Nat} {v0:Value} {c g:Nat} (h:TurnS base col c1 S w w1) (hb:Backed base c1 w1 p v0 c g w2) (hg:base≤g) (hgl:g<w.heap.size):∃ c2,Bk base c2 w2 p v0 (c+1)∧TurnS base col c2 (fun b=>S b∨b=g) w w2∧∀ b,b<w1.heap.size→b≠g→c2 b=c1 b:=by
 obtain ⟨c2,q1,q2,q3,q4⟩:=hb.ex
 have hsz:=h.fr.size
 refine ⟨c2,q1,⟨?_,fun b hb' hn=>?_,fun b hb'=>?_⟩,q2⟩
 ·refine (h.fr.mono (T:=fun b=>base≤b∧(col b≤8∨(S b∨b=g))) fun b _ hb'=>⟨hb'.1,hb'.2.imp id Or.inl⟩).trans hb.fr fun b hb' hx=>?_
  rcases hx with rfl | ⟨hx1,hx2⟩
  ·exact ⟨hg,Or.inr (Or.inr rfl)⟩
  ·refine ⟨hx1,?_⟩
   by_cases hs:S b
   ·exact Or.inr (Or.inl hs)
   ·rw [h.old b hb' hs] at hx2;exact Or.inl hx2
 ·rw [q2 b (by omega) (fun e=>hn (Or.inr e)),h.old b hb' (fun e=>hn (Or.inl e))]
 ·rcases Nat.lt_or_ge b w1.heap.size with h1 | h1
  ·rw [q2 b h1 (by omega)];exact h.new b hb'
  ·exact q3 b h1
theorem TurnS.write {base:Nat} {col c1:Nat→Nat} {S:Nat→Prop} {w w1 w2:World} {g:Nat} (h:TurnS base col c1 S w w1) (hf:Fr (fun b=>b=g) w1 w2) (hg:base≤g):TurnS base col c1 (fun b=>S b∨b=g) w w2:=by
 refine ⟨?_,fun b hb hn=>h.old b hb fun e=>hn (Or.inl e),h.new⟩
 refine (h.fr.mono (T:=fun b=>base≤b∧(col b≤8∨(S b∨b=g))) fun b _ hb'=>⟨hb'.1,hb'.2.imp id Or.inl⟩).trans hf fun b _ hx=>?_
 subst hx
 exact ⟨hg,Or.inr (Or.inr rfl)⟩
theorem BkM.write {md:Nat→Nat} {base:Nat} {col:Nat→Nat} {w w':World} {p:Nat} {v0:Value} {c g:Nat} (h:BkM md base col w p v0 c) (hf:Fr (fun b=>b=g) w w') (hg:8<col g):BkM md base col w' p v0 c:=
 h.frame (fun b hb hc=>hf.block b hb fun e=>by rw [e] at hc;omega) (fun _ _ _=>rfl) h.low hf.size (Nat.le_refl _)
def LoanFoot (L:LoanL) (n:Net) (b:Nat):Prop:=
 b=L.q∨b=L.gs∨b=L.gr∨b=L.gw∨L.vW.ownBlock=some b∨L.vC.ownBlock=some b∨(∃ t,t<n.sources.length∧b=L.G t)∨(∃ t,t<n.workers.length∧b=L.C t)
theorem LoanAt.foot_lt {B:Nat} {L:LoanL} {w:World} {n:Net} (h:LoanAt B L w n) {b:Nat} (hb:LoanFoot L n b):B≤b∧b<w.heap.size:=by
 obtain ⟨g1,g2,g3,g4⟩:=h.ge
 obtain ⟨csr,hcr⟩:=h.src.blk
 obtain ⟨csw,hcw⟩:=h.wks.blk
 rcases hb with rfl | rfl | rfl | rfl | hb | hb | ⟨t,ht,rfl⟩ | ⟨t,ht,rfl⟩
 ·exact ⟨g1,lt_of_blk h.blk⟩
 ·exact ⟨g2,lt_of_blk h.str.blk⟩
 ·exact ⟨g3,lt_of_blk hcr⟩
 ·exact ⟨g4,lt_of_blk hcw⟩
 ·exact h.words.row.lt b hb
 ·exact h.codes.row.lt b hb
 ·exact ⟨h.words.ge t ht,lt_of_blk (h.words.words t ht).blk⟩
 ·exact ⟨h.codes.ge t ht,lt_of_blk (h.codes.codes t ht)⟩
def turned (L:LoanL) (i j:Nat) (b:Nat):Prop:=b=L.gs∨(∃ t,t<i∧b=L.G t)∨(∃ t,t<j∧b=L.C t)
structure LoanNe (L:LoanL) (n:Net):Prop where
 q:∀ i j,i≤n.sources.length→j≤n.workers.length→¬ turned L i j L.q
 gr:∀ i j,i≤n.sources.length→j≤n.workers.length→¬ turned L i j L.gr
 gw:∀ i j,i≤n.sources.length→j≤n.workers.length→¬ turned L i j L.gw
 vW:∀ i j,i≤n.sources.length→j≤n.workers.length→∀ b,L.vW.ownBlock=some b→¬ turned L i j b
 vC:∀ i j,i≤n.sources.length→j≤n.workers.length→∀ b,L.vC.ownBlock=some b→¬ turned L i j b
 g:∀ i,i<n.sources.length→¬ turned L i 0 (L.G i)
 c:∀ j,j<n.workers.length→¬ turned L n.sources.length j (L.C j)
 rw:L.gr≠L.gw
 qr:L.q≠L.gr
 qw:L.q≠L.gw
theorem LoanAt.ne_all {B:Nat} {L:LoanL} {w:World} {n:Net} (h:LoanAt B L w n):LoanNe L n:=by
 obtain ⟨csr,hcr⟩:=h.src.blk
 obtain ⟨csw,hcw⟩:=h.wks.blk
 have key:∀ b cs t,w.heap[b]? = some (.cells cs t (0,0))→t≠3→t≠44→∀ i j,i≤n.sources.length→j≤n.workers.length→¬ turned L i j b:=fun b cs t hb h1 h2 i j hi hj ht=>by
  rcases ht with rfl | ⟨s,hs,rfl⟩ | ⟨s,hs,rfl⟩
  ·exact ne_of_types hb h.str.blk h1 rfl
  ·exact ne_of_types hb (h.words.words s (by omega)).blk h1 rfl
  ·exact ne_of_types hb (h.codes.codes s (by omega)) h2 rfl
 refine ⟨key _ _ _ h.blk (by decide) (by decide),key _ _ _ hcr (by decide) (by decide),key _ _ _ hcw (by decide) (by decide),fun i j hi hj b hb=>?_,fun i j hi hj b hb=>?_,fun i hi ht=>?_,fun j hj ht=>?_,ne_of_types hcr hcw (by decide),ne_of_types h.blk hcr (by decide),ne_of_types h.blk hcw (by decide)⟩
 ·obtain ⟨cur,hc⟩:=own_blockB h.words.row hb
  exact key _ _ _ hc (by decide) (by decide) i j hi hj
 ·obtain ⟨cur,hc⟩:=own_blockB h.codes.row hb
  exact key _ _ _ hc (by decide) (by decide) i j hi hj
 ·rcases ht with e | ⟨s,hs,e⟩ | ⟨s,hs,e⟩
  ·exact h.words.ne i hi e.symm
  ·exact h.words.inj s i hs hi e.symm
  ·omega
 ·have hc:=h.codes.codes j hj
  rcases ht with e | ⟨s,hs,e⟩ | ⟨s,hs,e⟩
  ·exact ne_of_types hc h.str.blk (by decide) e
  ·exact ne_of_types hc (h.words.words s hs).blk (by decide) e
  ·exact h.codes.inj s j hs hj e.symm
structure Ret (base:Nat) (col:Nat→Nat) (w:World) (p:Nat) (v0:Value) (c:Nat) (L:LoanL) (i j:Nat) (wr:World):Prop where
 ex:∃ col',Bk base col' wr p v0 (c+1+i+j)∧TurnS base col col' (turned L i j) w wr
theorem turned_g {L:LoanL} {i j b:Nat} (h:turned L i j b∨b=L.G i):turned L (i+1) j b:=by
 rcases h with (h | ⟨t,ht,e⟩ | h) | h
 ·exact Or.inl h
 ·exact Or.inr (Or.inl ⟨t,by omega,e⟩)
 ·exact Or.inr (Or.inr h)
 ·exact Or.inr (Or.inl ⟨i,by omega,h⟩)
theorem turned_c {L:LoanL} {i j b:Nat} (h:turned L i j b∨b=L.C j):turned L i (j+1) b:=by
 rcases h with (h | h | ⟨t,ht,e⟩) | h
 ·exact Or.inl h
 ·exact Or.inr (Or.inl h)
 ·exact Or.inr (Or.inr ⟨t,by omega,e⟩)
 ·exact Or.inr (Or.inr ⟨j,by omega,h⟩)
theorem Ret.keep {base:Nat} {col:Nat→Nat} {w:World} {p:Nat} {v0:Value} {c:Nat} {L:LoanL} {i j:Nat} {wr:World} (h:Ret base col w p v0 c L i j wr) {b:Nat} (hb:b<w.heap.size) (hc:8<col b) (hs:¬ turned L i j b):wr.heap[b]? = w.heap[b]? := by
 obtain ⟨c', -,h2⟩:=h.ex
 exact h2.keep hb hc hs
theorem Ret.drewN {base:Nat} {col:Nat→Nat} {w:World} {p:Nat} {v0:Value} {c:Nat} {L:LoanL} {i j:Nat} {wr:World} (h:Ret base col w p v0 c L i j wr) (q:Nat):Ret base col w p v0 c L i j (wr.drewN q):=by
 obtain ⟨c',h1,h2⟩:=h.ex
 exact ⟨c',h1.below (below_drewN (Below.refl _ _) q),⟨h2.fr.drewN q,h2.old,h2.new⟩⟩
theorem Ret.backG {base B:Nat} {col:Nat→Nat} {w:World} {p:Nat} {v0:Value} {c:Nat} {L:LoanL} {n:Net} {i:Nat} {wr:World} {vl:Value} (h:Ret base col w p v0 c L i 0 wr) (hL:LoanAt B L w n) (hB:base≤B) (hcol:∀ b,LoanFoot L n b→col b=20) (hi:i<n.sources.length) (hs:ShortNet n) (hv:IntsAt wr vl (wordsOf n i)) (hc:c+1+i≤1099511627776) :
  Calls Tryz.prog 29 #[.pointer (some ⟨p,0,none⟩),.slice (some ⟨L.G i,0,none⟩) ((wordsOf n i).length+1) ((wordsOf n i).length+1),vl] wr fun e w'=>e=.returned (.bool true)∧Ret base col w p v0 c L (i+1) 0 w':=by
 obtain ⟨c',h1,h2⟩:=h.ex
 have hfoot:LoanFoot L n (L.G i):=Or.inr (Or.inr (Or.inr (Or.inr (Or.inr (Or.inr (Or.inl ⟨i,hi,rfl⟩))))))
 obtain ⟨g1,g2⟩:=hL.foot_lt hfoot
 have h20:=hcol _ hfoot
 have hnt:=hL.ne_all.g i hi
 have hk:=h2.keep g2 (by omega) hnt
 have hc1:c' (L.G i)=20:=(h2.old _ g2 hnt).trans h20
 have hl:(wordsOf n i).length≤1048576:=by unfold wordsOf;rw [getD_eq _ _ _ hi];exact (hs.2.2.2.1 _ (List.getElem_mem hi)).1
 refine (backInts_calls h1 (hk.trans (hL.words.words i hi).blk) (by omega) (by omega) hv hl (by omega)).mono fun e w' ⟨q1,q2⟩=>⟨q1,?_⟩
 obtain ⟨c2,r1,r2, -⟩:=h2.back q2 (by omega) g2
 refine ⟨c2,?_,r2.mono fun b hb=>turned_g hb⟩
 have e:c+1+(i+1)+0=c+1+i+0+1:=by omega
 rw [e];exact r1
theorem Ret.start {base B:Nat} {col:Nat→Nat} {w:World} {p:Nat} {v0:Value} {c:Nat} {L:LoanL} {n:Net} {wr:World} {vl:Value} (hb:Bk base col wr p v0 c) (h0:TurnS base col col (fun _=>False) w wr) (hL:LoanAt B L w n) (hB:base≤B) (hcol:∀ b,LoanFoot L n b→col b=20) (hs:ShortNet n) (hv:IntsAt wr vl n.streams) (hc:c≤1099511627776) :
  Calls Tryz.prog 29 #[.pointer (some ⟨p,0,none⟩),.slice (some ⟨L.gs,0,none⟩) (n.streams.length+1) (n.streams.length+1),vl] wr fun e w'=>e=.returned (.bool true)∧Ret base col w p v0 c L 0 0 w':=by
 have hfoot:LoanFoot L n L.gs:=Or.inr (Or.inl rfl)
 obtain ⟨g1,g2⟩:=hL.foot_lt hfoot
 have h20:=hcol _ hfoot
 have hk:=h0.keep g2 (by omega) (fun e=>e)
 refine (backInts_calls hb (hk.trans hL.str.blk) (by omega) (by omega) hv hs.1 hc).mono fun e w' ⟨q1,q2⟩=>⟨q1,?_⟩
 obtain ⟨c2,r1,r2, -⟩:=h0.back q2 (by omega) g2
 exact ⟨c2,r1,r2.mono fun b hb=>hb.elim False.elim Or.inl⟩
theorem flat_length (l:List Value):∀ n,((List.replicate n l).flatten).length=n*l.length
 | 0=>by simp
 | n+1=>by rw [List.replicate_succ,List.flatten_cons,List.length_append,flat_length l n,Nat.add_mul];omega
theorem flat_get (l:List Value):∀ (n i j:Nat),i<n→j<l.length→((List.replicate n l).flatten)[i*l.length+j]? = l[j]?
 | 0,i,j,h,_=>by omega
 | n+1,0,j,_,hj=>by
  rw [List.replicate_succ,List.flatten_cons,Nat.zero_mul,Nat.zero_add,List.getElem?_append_left hj]
 | n+1,i+1,j,h,hj=>by
  rw [List.replicate_succ,List.flatten_cons,List.getElem?_append_right (by rw [Nat.add_mul];omega)]
  have e:(i+1)*l.length+j-l.length=i*l.length+j:=by rw [Nat.add_mul];omega
  rw [e]
  exact flat_get l n i j (by omega) hj
theorem flat_succ (l:List Value) (n:Nat):(List.replicate (n+1) l).flatten=(List.replicate n l).flatten++l:=by
 rw [List.replicate_succ',List.flatten_append]
 simp
theorem over_set2 {cs:List Value} {t:Nat} {x y:Value} (h:t*2+2≤cs.length):(((List.replicate t [x,y]).flatten++cs.drop (t*2)).set (t*2) x).set (t*2+1) y=(List.replicate (t+1) [x,y]).flatten++cs.drop ((t+1)*2):=by
 have hl:=flat_length [x,y] t
 simp only [List.length_cons,List.length_nil,Nat.zero_add] at hl
 rw [flat_succ]
 generalize (List.replicate t [x,y]).flatten=A at *
 have hd:cs.drop (t*2)=cs[t*2]'(by omega)::cs[t*2+1]'(by omega)::cs.drop ((t+1)*2):=by
  rw [List.drop_eq_getElem_cons (by omega),List.drop_eq_getElem_cons (by omega)]
  congr 3;omega
 rw [hd,List.set_append_right _ _ (by omega),List.set_append_right _ _ (by omega)]
 have e0:t*2-A.length=0:=by omega
 have e1:t*2+1-A.length=1:=by omega
 rw [e0,e1]
 simp
theorem over_set4 {cs:List Value} {t:Nat} {x y z u:Value} (h:t*4+4≤cs.length):(((((List.replicate t [x,y,z,u]).flatten++cs.drop (t*4)).set (t*4) x).set (t*4+1) y).set (t*4+2) z).set (t*4+3) u=(List.replicate (t+1) [x,y,z,u]).flatten++cs.drop ((t+1)*4):=by
 have hl:=flat_length [x,y,z,u] t
 simp only [List.length_cons,List.length_nil,Nat.zero_add] at hl
 rw [flat_succ]
 generalize (List.replicate t [x,y,z,u]).flatten=A at *
 have hd:cs.drop (t*4)=cs[t*4]'(by omega)::cs[t*4+1]'(by omega)::cs[t*4+2]'(by omega)::cs[t*4+3]'(by omega)::cs.drop ((t+1)*4):=by
  rw [List.drop_eq_getElem_cons (by omega),List.drop_eq_getElem_cons (by omega),List.drop_eq_getElem_cons (by omega),List.drop_eq_getElem_cons (by omega)]
  congr 5;omega
 rw [hd,List.set_append_right _ _ (by omega),List.set_append_right _ _ (by omega),List.set_append_right _ _ (by omega),List.set_append_right _ _ (by omega)]
 have e0:t*4-A.length=0:=by omega
 have e1:t*4+1-A.length=1:=by omega
 have e2:t*4+2-A.length=2:=by omega
 have e3:t*4+3-A.length=3:=by omega
 rw [e0,e1,e2,e3]
 simp
theorem over_at {cs l:List Value} {t i:Nat} (hi:i<cs.length) (ht:t*l.length≤i):((List.replicate t l).flatten++cs.drop (t*l.length))[i]? = some cs[i]:=by
 have hl:=flat_length l t
 rw [List.getElem?_append_right (by omega),hl,List.getElem?_drop]
 have e:t*l.length+(i-t*l.length)=i:=by omega
 rw [e]
 exact List.getElem?_eq_getElem hi
theorem flat_sl {w:World} {g n:Nat} {l:List Value} {t:TypeId} {f:Nat→Nat→Value} (h:w.heap[g]? = some (.cells (List.replicate n l).flatten.toArray t (0,0))) (hn:n≤140737488355328) (hf:∀ i j,j<l.length→l[j]? = some (f i j)):Sl w (.slice (some ⟨g,0,none⟩) n n) n l.length f:=by
 refine ⟨_,_,rfl,hn,Nat.le_refl _,Or.inr ⟨g,0,rfl,fun i hi j hj=>?_⟩⟩
 refine row_cell h ?_
 rw [Nat.zero_add,flat_get l n i j hi hj]
 exact hf i j hj
theorem eqIns (a b c d:Int) (w:World):(Op.equalIn 10000 44 (.agg #[.int .i64 a,.int .i64 b,.int .i64 c,.int .i64 d]) (.agg #[.int .i64 a,.int .i64 b,.int .i64 c,.int .i64 d])).run Tryz.prog w=.ok true w:=by
 have u3:=Tryz.underlying3
 have i3:=Tryz.isAgg3
 have z3:=Tryz.sizeOf3
 have hS:Tryz.prog.underlying 44=some (.struct (Tryz.prog.fieldsOf 44)):=by kernel_rfl
 have hp:Tryz.prog.stoodInHeld 44=false:=Tryz.stoodInHeld44
 rw [show (10000:Nat)=9999+1 from rfl,run_equalIn_agg w 9999 44 _ _ hS hp]
 simp only [Program.fieldsOf,Tryz.underlying44]
 go_simp
theorem LoanAt.below {B:Nat} {L:LoanL} {w w':World} {n:Net} (h:LoanAt B L w n) (hb:Below w.heap.size w w'):LoanAt B L w' n:=by
 have hk:∀ b,b<w.heap.size→w'.heap[b]? = w.heap[b]? := fun b h=>hb.block b h
 obtain ⟨csr,hcr⟩:=h.src.blk
 obtain ⟨csw,hcw⟩:=h.wks.blk
 exact ⟨(hk _ (lt_of_blk h.blk)).trans h.blk,h.str.frame (hk _ (lt_of_blk h.str.blk)),h.words.frame (fun g hg=>hk g (h.words.row.lt g hg).2) (fun t ht=>hk _ (lt_of_blk (h.words.words t ht).blk)),h.src.frame (hk _ (lt_of_blk hcr)),
  h.codes.frame (fun g hg=>hk g (h.codes.row.lt g hg).2) (fun t ht=>hk _ (lt_of_blk (h.codes.codes t ht))),h.wks.frame (hk _ (lt_of_blk hcw)),h.ne,h.ge⟩
def boxed (col:Nat→Nat) (n:Nat):Nat→Nat:=fun b=>if b=n then 21 else if b<n then col b else 8
theorem boxed_box (col:Nat→Nat) (n:Nat):boxed col n n=21:=by simp [boxed]
theorem boxed_old (col:Nat→Nat) (n b:Nat) (h:b<n):boxed col n b=col b:=by
 have:b≠n:=by omega
 simp [boxed,this,h]
theorem boxed_new (col:Nat→Nat) (n b:Nat) (h:n<b):boxed col n b=8:=by
 have h1:b≠n:=by omega
 have h2:¬ b<n:=by omega
 simp [boxed,h1,h2]
structure Turned (base:Nat) (col col':Nat→Nat) (w w':World):Prop where
 fr:Fr (fun b=>base≤b∧col b≤20) w w'
 old:∀ b,b<w.heap.size→20<col b→col' b=col b
 new:∀ b,w.heap.size≤b→col' b<30
structure Back (base B:Nat) (col:Nat→Nat) (w w1:World) (p:Nat) (v0:Value) (c:Nat) (L:LoanL) (n:Net) (vs vr vw:Value):Prop where
 bk:Bk base (boxed col w.heap.size) w1 p v0 c
 turn:TurnS base (boxed col w.heap.size) (boxed col w.heap.size) (fun _=>False) w1 w1
 loan:LoanAt B L w1 n
 col20:∀ b,LoanFoot L n b→boxed col w.heap.size b=20∧b<w.heap.size
 net:∀ i j wr,i≤n.sources.length→j≤n.workers.length→Ret base (boxed col w.heap.size) w1 p v0 c L i j wr→NetAt wr (.agg #[vs,vr,vw]) n∧wr.heap[w.heap.size]? = some (.cells #[vs,vr,vw] 26 (0,0))
 fin:∀ i j c' wr,i≤n.sources.length→j≤n.workers.length→TurnS base (boxed col w.heap.size) c' (fun b=>turned L i j b∨b=L.gr∨b=L.gw) w1 wr→Turned base col c' w wr
theorem turned_foot {L:LoanL} {n:Net} {i j b:Nat} (hi:i≤n.sources.length) (hj:j≤n.workers.length) (h:turned L i j b):LoanFoot L n b:=by
 rcases h with h | ⟨t,ht,h⟩ | ⟨t,ht,h⟩
 ·exact Or.inr (Or.inl h)
 ·exact Or.inr (Or.inr (Or.inr (Or.inr (Or.inr (Or.inr (Or.inl ⟨t,by omega,h⟩))))))
 ·exact Or.inr (Or.inr (Or.inr (Or.inr (Or.inr (Or.inr (Or.inr ⟨t,by omega,h⟩))))))
theorem back_open {base B:Nat} {col:Nat→Nat} {w:World} {p:Nat} {v0:Value} {c:Nat} {L:LoanL} {n:Net} {vs vr vw:Value} (hb:Bk base col w p v0 c) (hL:LoanAt B L w n) (hcol:∀ b,LoanFoot L n b→col b=20)
  (hn:∀ wx,Fr (fun b=>base≤b∧col b≤20) w wx→NetAt wx (.agg #[vs,vr,vw]) n):Back base B col w (w.alloc (.cells #[vs,vr,vw] 26)) p v0 c L n vs vr vw:=by
 have hbl:Below w.heap.size w (w.alloc (.cells #[vs,vr,vw] 26)):=(Below.refl _ _).alloc (Nat.le_refl _) _
 obtain ⟨cs,hp, -⟩:=hb.blk
 have hbase:base≤w.heap.size:=Nat.le_trans hb.ge (Nat.le_of_lt (lt_of_blk hp))
 have hft:∀ b,LoanFoot L n b→boxed col w.heap.size b=20∧b<w.heap.size:=fun b h=>by
  have:=(hL.foot_lt h).2
  exact ⟨(boxed_old _ _ _ this).trans (hcol b h),this⟩
 have hsz:(w.alloc (.cells #[vs,vr,vw] 26)).heap.size=w.heap.size+1:=by simp
 refine ⟨?_,?_,hL.below hbl,hft,fun i j wr hi hj h=>?_,fun i j c' wr hi hj h=>?_⟩
 ·exact hb.frame (fun b h _=>hbl.block b h) (fun b h _=>boxed_old _ _ _ h) (fun b h=>by rw [boxed_old _ _ _ (by omega)];exact hb.low b h) hbl.size (Nat.le_refl _)
 ·refine TurnS.refl _ _ _ fun b h=>?_
  rw [boxed_new _ _ _ (by rw [hsz] at h;omega)];omega
 ·obtain ⟨c', -,h2⟩:=h.ex
  refine ⟨hn wr ?_,?_⟩
  ·refine (Fr.of_below hbl).trans h2.fr fun b hb' hx=>⟨hx.1,?_⟩
   rcases hx.2 with hx | hx
   ·rw [boxed_old _ _ _ hb'] at hx;omega
   ·have:=hft b (turned_foot hi hj hx)
    rw [boxed_old _ _ _ hb'] at this;omega
  ·rw [h2.keep (by rw [hsz];omega) (by rw [boxed_box];omega) (fun e=>by have:=hft _ (turned_foot hi hj e);omega)]
   exact heapNew rfl
 ·refine ⟨?_,fun b hb' hx=>?_,fun b hb'=>?_⟩
  ·refine (Fr.of_below hbl).trans h.fr fun b hb' hx=>⟨hx.1,?_⟩
   have ho:=boxed_old col w.heap.size b hb'
   rcases hx.2 with hx | hx | rfl | rfl
   ·rw [ho] at hx;omega
   ·have:=(hft b (turned_foot hi hj hx)).1;omega
   ·have:=(hft L.gr (Or.inr (Or.inr (Or.inl rfl)))).1;omega
   ·have:=(hft L.gw (Or.inr (Or.inr (Or.inr (Or.inl rfl))))).1;omega
  ·have ho:=boxed_old col w.heap.size b hb'
   rw [h.old b (by rw [hsz];omega) (fun e=>?_),ho]
   rcases e with e | rfl | rfl
   ·have:=(hft b (turned_foot hi hj e)).1;omega
   ·have:=(hft L.gr (Or.inr (Or.inr (Or.inl rfl)))).1;omega
   ·have:=(hft L.gw (Or.inr (Or.inr (Or.inr (Or.inl rfl))))).1;omega
  ·by_cases e:b=w.heap.size
   ·subst e
    rw [h.old _ (by rw [hsz];omega) (fun e=>?_),boxed_box]
    ·omega
    ·rcases e with e | e | e
     ·have:=(hft _ (turned_foot hi hj e)).2;omega
     ·have:=(hft L.gr (Or.inr (Or.inr (Or.inl rfl)))).2;omega
     ·have:=(hft L.gw (Or.inr (Or.inr (Or.inr (Or.inl rfl))))).2;omega
   ·have:=h.new b (by rw [hsz];omega)
    omega
structure LoanRd (L:LoanL) (n:Net) (wr:World):Prop where
 c3:wr.cell? ⟨L.q,3,none⟩=some (.slice (some ⟨L.gs,0,none⟩) (n.streams.length+1) (n.streams.length+1))
 c4:wr.cell? ⟨L.q,4,none⟩=some L.vW
 c5:wr.cell? ⟨L.q,5,none⟩=some (.slice (some ⟨L.gr,0,none⟩) (n.sources.length+1) (n.sources.length+1))
 c6:wr.cell? ⟨L.q,6,none⟩=some L.vC
 c7:wr.cell? ⟨L.q,7,none⟩=some (.slice (some ⟨L.gw,0,none⟩) (n.workers.length+1) (n.workers.length+1))
theorem Back.rd {base B:Nat} {col:Nat→Nat} {w w1:World} {p:Nat} {v0:Value} {c:Nat} {L:LoanL} {n:Net} {vs vr vw:Value} (h:Back base B col w w1 p v0 c L n vs vr vw) {wr:World} (hk:wr.heap[L.q]? = w1.heap[L.q]?):LoanRd L n wr:=by
 have hq:=hk.trans h.loan.blk
 exact ⟨(blk_cell (l:=[_,_,_,_,_,_,_,_]) hq 3 _ rfl).1,(blk_cell (l:=[_,_,_,_,_,_,_,_]) hq 4 _ rfl).1,(blk_cell (l:=[_,_,_,_,_,_,_,_]) hq 5 _ rfl).1,(blk_cell (l:=[_,_,_,_,_,_,_,_]) hq 6 _ rfl).1,(blk_cell (l:=[_,_,_,_,_,_,_,_]) hq 7 _ rfl).1⟩
theorem Back.keep {base B:Nat} {col:Nat→Nat} {w w1:World} {p:Nat} {v0:Value} {c:Nat} {L:LoanL} {n:Net} {vs vr vw:Value} (h:Back base B col w w1 p v0 c L n vs vr vw) {i j:Nat} {wr:World} (hr:Ret base (boxed col w.heap.size) w1 p v0 c L i j wr) {b:Nat} (hf:LoanFoot L n b) (hn:¬ turned L i j b):wr.heap[b]? = w1.heap[b]? :=
 hr.keep (h.loan.foot_lt hf).2 (by rw [(h.col20 b hf).1];omega) hn
theorem push_open {base:Nat} {col c1:Nat→Nat} {S:Nat→Prop} {w wA:World} {p:Nat} {v0:Value} {C g r m:Nat} {u:Value} (hb:Bk base c1 wA p v0 C) (ht:TurnS base col c1 S w wA) (hr3:3≤r) (hr7:r≤7) (hg:base≤g) (hgl:g<w.heap.size) (hcg:8<c1 g) (hu:∀ i,Sl wA u m (rowSz r) (rowF r i)) (hug:∀ b,u.ownBlock=some b→b=g) :
  ∃ av cv vals,vals.length≤C∧wA.cell? ⟨p,r,none⟩=some (.slice av vals.length cv)∧wA.ownsRow base (rowT r) 1 (.slice av vals.length cv) vals.length vals∧base≤wA.heap.size∧p<wA.heap.size ∧
   ∀ w2 gr gcap o H,w2.ownsRow base (rowT r) 1 (.slice (some ⟨gr,0,none⟩) (vals.length+1) gcap) (vals.length+1) (vals++[u])→(wA.alloc o).grownBy w2 (Value.slice av vals.length cv).ownBlock→((Value.slice av vals.length cv).ownBlock=some gr∨gr=H)→wA.heap.size≤H →
    (w2.cell? ⟨p,r,none⟩=some (.slice av vals.length cv)∧w2.frozen? ⟨p,r,none⟩=false)∧∃ c2,Bk base c2 (w2.setCell ⟨p,r,none⟩ (.slice (some ⟨gr,0,none⟩) (vals.length+1) gcap)) p v0 (C+1)∧TurnS base col c2 (fun b=>S b∨b=g) w (w2.setCell ⟨p,r,none⟩ (.slice (some ⟨gr,0,none⟩) (vals.length+1) gcap)) ∧
     ∀ b,b<wA.heap.size→8<c1 b→(b≠g→c2 b=c1 b)∧(w2.setCell ⟨p,r,none⟩ (.slice (some ⟨gr,0,none⟩) (vals.length+1) gcap)).heap[b]? = wA.heap[b]? := by
 obtain ⟨v,vals,q1,q2,q3,q4,q5,q6,q7⟩:=(hb.rows r (by omega) hr7).ex
 obtain ⟨av,cv,rfl⟩:=own_slice q2
 obtain ⟨cs,hp,hl⟩:=hb.blk
 have hpl:=lt_of_blk hp
 have hglA:g<wA.heap.size:=Nat.lt_of_lt_of_le hgl ht.fr.size
 have hvp:(Value.slice av vals.length cv).ownBlock≠some p:=fun e=>by have:=q3 p e;rw [hb.colp] at this;omega
 refine ⟨av,cv,vals,q4,q1,q2,Nat.le_trans hb.ge (Nat.le_of_lt hpl),hpl,fun w2 gr gcap o H ho hgr hor hH=>?_⟩
 have hp2:w2.heap[p]? = wA.heap[p]? := by
  rw [hgr.block p (by simp;omega) (fun e=>hvp e.symm),Below.heap_alloc _ _ _ hpl]
 refine ⟨⟨(World.cell?_of_block (w:=wA) hp2).trans q1,row_frozen (hp2.trans hp) r⟩,?_⟩
 obtain ⟨c2,x1,x2,x3⟩:=ht.back (Backed.push hr3 hr7 hb q1 q2 q3 q4 q6 q7 hg hcg hglA (Fr.refl _ _) ho hgr hor hH (hu vals.length) hug) hg hgl
 refine ⟨c2,x1,x2,fun b hb1 hb8=>⟨x3 b hb1,?_⟩⟩
 have hbv:(Value.slice av vals.length cv).ownBlock≠some b:=fun e=>by have:=q3 b e;omega
 rw [heap_setCell_other _ _ _ _ (show b≠p from fun e=>by rw [e,hb.colp] at hb8;omega),hgr.block b (by simp;omega) (fun e=>hbv e.symm),Below.heap_alloc _ _ _ hb1]
structure Last (base:Nat) (col:Nat→Nat) (w:World) (p:Nat) (v0:Value) (c:Nat) (L:LoanL) (n:Net) (wc:World):Prop where
 c7:wc.cell? ⟨L.q,7,none⟩=some (.slice (some ⟨L.gw,0,none⟩) (n.workers.length+1) (n.workers.length+1))
 ex:∃ av cv vals,vals.length≤c+1+n.sources.length+n.workers.length+1∧wc.cell? ⟨p,6,none⟩=some (.slice av vals.length cv)∧wc.drew.ownsRow base 24 1 (.slice av vals.length cv) vals.length vals∧base≤wc.heap.size∧p<wc.heap.size ∧
  ∀ w3 gr3 gcap3 o3 H3,w3.ownsRow base 24 1 (.slice (some ⟨gr3,0,none⟩) (vals.length+1) gcap3) (vals.length+1) (vals++[.slice (some ⟨L.gw,0,none⟩) (n.workers.length+1) (n.workers.length+1)])→(wc.drew.alloc o3).grownBy w3 (Value.slice av vals.length cv).ownBlock→((Value.slice av vals.length cv).ownBlock=some gr3∨gr3=H3)→wc.heap.size≤H3 →
   (w3.cell? ⟨p,6,none⟩=some (.slice av vals.length cv)∧w3.frozen? ⟨p,6,none⟩=false)∧∃ col',Bk base col' (w3.setCell ⟨p,6,none⟩ (.slice (some ⟨gr3,0,none⟩) (vals.length+1) gcap3)) p v0 (c+n.sources.length+n.workers.length+3)∧Turned base col col' w (w3.setCell ⟨p,6,none⟩ (.slice (some ⟨gr3,0,none⟩) (vals.length+1) gcap3))
end Go.Proofs.YthfdgdfnflilfaaGreatDoor

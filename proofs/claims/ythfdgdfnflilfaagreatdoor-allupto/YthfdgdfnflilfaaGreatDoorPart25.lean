/- Part 25: KNums, KNums2, KBytes, KBytes2. -/
import Derived.Deep.Cut
import Derived.Test.YthfdgdfnflilfaaGreatDoorPart11
import Derived.Test.YthfdgdfnflilfaaGreatDoorPart12
import Derived.Test.YthfdgdfnflilfaaGreatDoorPart18
namespace Go.Proofs.YthfdgdfnflilfaaGreatDoor
open Go.RowKit Go.Conc
theorem own_set {w:World} {base n:Nat} {t:TypeId} {g cap i:Nat} {vals:List Value} (h:w.ownsRow base t 1 (.slice (some ⟨g,0,none⟩) n cap) n vals) (x:Value):(w.setCell ⟨g,i,none⟩ x).ownsRow base t 1 (.slice (some ⟨g,0,none⟩) n cap) n (vals.set i x):=by
 obtain ⟨h1,h2⟩:=h
 refine ⟨by simpa using h1,?_⟩
 rcases h2 with ⟨hv, -⟩ | ⟨g',cap',cur,hv,hg,hh,hn,hm,hs,ht⟩
 ·cases hv
 ·cases hv
  have hh':w.heap[g]? = some (.cells cur.toList.toArray t (0,0)):=by simpa using hh
  refine Or.inr ⟨g,cap,(cur.toList.set i x).toArray,rfl,hg,blk_set hh' i x,hn,hm,by simpa using hs,?_⟩
  rw [← ht,List.take_set]
def NumsAt (w:World) (x:Int) (M:Nat) (u:Value):Prop:=
 ∃ a m c,u=.slice a m c∧m≤M∧m≤c∧((a=none∧m=0)∨∃ b cs,a=some ⟨b,0,none⟩∧w.heap[b]? = some (.cells cs 3 (0,0))∧∀ j,j<m→cs.toList[j]? = some (.int .i64 x))
theorem nums_of_own {w:World} {base M:Nat} {u:Value} {x:Int} (h:w.ownsRow base 3 1 u M (List.replicate M (.int .i64 x))):NumsAt w x M u:=by
 rcases h.2 with ⟨rfl,rfl⟩ | ⟨g,cap,cur,rfl,hg,hh,hn,hm,hs,ht⟩
 ·exact ⟨none,0,0,rfl,Nat.le_refl _,Nat.le_refl _,Or.inl ⟨rfl,rfl⟩⟩
 ·refine ⟨_,M,cap,rfl,Nat.le_refl _,hn,Or.inr ⟨g,cur,rfl,hh,fun j hj=>?_⟩⟩
  have e:(cur.toList.take (M*1))[j]? = (List.replicate M (Value.int .i64 x))[j]? := by rw [ht]
  rw [List.getElem?_take_of_lt (by omega),List.getElem?_replicate] at e
  rw [e,if_pos hj]
theorem NumsAt.sl {w:World} {x:Int} {M:Nat} {u:Value} (h:NumsAt w x M u) (hM:M≤140737488355328):∃ m,Sl w u m 1 fun _ _=>.int .i64 x:=by
 obtain ⟨a,m,c,rfl,h1,h2,h3⟩:=h
 refine ⟨m,a,c,rfl,by omega,h2,?_⟩
 rcases h3 with ⟨rfl,rfl⟩ | ⟨b,cs,rfl,hb,hc⟩
 ·exact Or.inl rfl
 ·refine Or.inr ⟨b,0,rfl,fun i hi j hj=>?_⟩
  have hb':w.heap[b]? = some (.cells cs.toList.toArray 3 (0,0)):=by simpa using hb
  have:0+i*1+j=i:=by omega
  rw [this]
  exact row_cell hb' (hc i hi)
theorem NumsAt.far {w w':World} {x:Int} {M:Nat} {u:Value} (h:NumsAt w x M u) (hk:∀ (b:Nat) (cs:Array Value),w.heap[b]? = some (.cells cs 3 (0,0))→w'.heap[b]? = w.heap[b]?):NumsAt w' x M u:=by
 obtain ⟨a,m,c,rfl,h1,h2,h3⟩:=h
 refine ⟨a,m,c,rfl,h1,h2,?_⟩
 rcases h3 with h3 | ⟨b,cs,rfl,hb,hc⟩
 ·exact Or.inl h3
 ·exact Or.inr ⟨b,cs,rfl,(hk b cs hb).trans hb,hc⟩
theorem NumsAt.app {w w':World} {base:Nat} {x:Int} {M:Nat} {u l:Value} {g cap:Nat} (h:NumsAt w x M u) (ho:w'.ownsRow base 3 1 (.slice (some ⟨g,0,none⟩) (M+1) cap) (M+1) (List.replicate (M+1) (.int .i64 x))) (hg:w.grownBy w' l.ownBlock) (hor:l.ownBlock=some g∨(∀ b,b<w.heap.size→w'.heap[b]? = w.heap[b]?)):NumsAt w' x (M+1) u:=by
 obtain ⟨a,m,c,rfl,h1,h2,h3⟩:=h
 refine ⟨a,m,c,rfl,by omega,h2,?_⟩
 rcases h3 with h3 | ⟨b,cs,rfl,hb,hc⟩
 ·exact Or.inl h3
 ·rcases hor with hor | hor
  ·by_cases e:b=g
   ·subst e
    rcases ho.2 with ⟨hv, -⟩ | ⟨g',cap',cur,hv, -,hh, -, -, -,ht⟩
    ·cases hv
    ·cases hv
     refine Or.inr ⟨b,cur,rfl,hh,fun j hj=>?_⟩
     have e:(cur.toList.take ((M+1)*1))[j]? = (List.replicate (M+1) (Value.int .i64 x))[j]? := by rw [ht]
     rw [List.getElem?_take_of_lt (by omega),List.getElem?_replicate] at e
     rw [e,if_pos (by omega)]
   ·refine Or.inr ⟨b,cs,rfl,(hg.block b (lt_of_blk hb) (fun e'=>e ?_)).trans hb,hc⟩
    rw [hor] at e'
    exact Option.some.inj e'
  ·exact Or.inr ⟨b,cs,rfl,(hor b (lt_of_blk hb)).trans hb,hc⟩
def NumsIn (w0 w:World) (g0:Option Nat) (u:Value):Prop:=∀ b,u.ownBlock=some b→b<w.heap.size∧(g0=some b∨w0.heap.size≤b)∧∃ cs,w.heap[b]? = some (.cells cs 3 (0,0))
structure Kn (base B:Nat) (w0:World) (p:Nat) (cs0 vals0:List Value) (v2:Value) (g0:Option Nat) (x:Int) (M i:Nat) (vn:Value) (news:List Value) (l:Value) (w:World):Prop where
 blk:w.heap[p]? = some (.cells (cs0.set 2 vn).toArray 35 (0,0))
 row:w.ownsRow base 22 1 vn (vals0.length+i) (vals0++news)
 rowAt:∀ b,vn.ownBlock=some b→v2.ownBlock=some b∨w0.heap.size≤b
 len:news.length=i
 nums:∀ u∈news,NumsAt w x M u
 ins:∀ u∈news,NumsIn w0 w g0 u
 own:w.ownsRow B 3 1 l M (List.replicate M (.int .i64 x))
 lin:NumsIn w0 w g0 l
 fr:Fr (fun b=>b=p∨v2.ownBlock=some b∨g0=some b) w0 w
theorem own_typed {w:World} {base n:Nat} {t:TypeId} {v:Value} {vals:List Value} (h:w.ownsRow base t 1 v n vals) {g:Nat} (hg:v.ownBlock=some g):∃ cs,w.heap[g]? = some (.cells cs t (0,0)):=by
 rcases h.2 with ⟨rfl, -⟩ | ⟨g',cap,cur,rfl, -,hh, -⟩
 ·cases hg
 ·have e:g'=g:=by simpa [Value.ownBlock] using hg
  exact ⟨cur,e ▸ hh⟩
theorem NumsIn.far {w0 w w':World} {g0:Option Nat} {u:Value} (h:NumsIn w0 w g0 u) (hsz:w.heap.size≤w'.heap.size) (hk:∀ (b:Nat) (cs:Array Value),w.heap[b]? = some (.cells cs 3 (0,0))→w'.heap[b]? = w.heap[b]?):NumsIn w0 w' g0 u:=fun b hb=>by
 obtain ⟨h1,h2,cs,h3⟩:=h b hb
 exact ⟨Nat.lt_of_lt_of_le h1 hsz,h2,cs,(hk b cs h3).trans h3⟩
theorem Kn.push {base B:Nat} {w0:World} {p:Nat} {cs0 vals0:List Value} {v2:Value} {g0:Option Nat} {x:Int} {M i:Nat} {vn:Value} {news:List Value} {l:Value} {w w1 w2:World} {gr gcap:Nat} (h:Kn base B w0 p cs0 vals0 v2 g0 x M i vn news l w) (h8:2<cs0.length) (hw1:Below w.heap.size w w1)
  (ho:w2.ownsRow base 22 1 (.slice (some ⟨gr,0,none⟩) (vals0.length+i+1) gcap) (vals0.length+i+1) ((vals0++news)++[l])) (hg:w1.grownBy w2 vn.ownBlock) (hor:vn.ownBlock=some gr∨w.heap.size≤gr) :
  (w2.cell? ⟨p,2,none⟩=some vn∧w2.frozen? ⟨p,2,none⟩=false)∧Kn base B w0 p cs0 vals0 v2 g0 x M (i+1) (.slice (some ⟨gr,0,none⟩) (vals0.length+i+1) gcap) (news++[l]) l (w2.setCell ⟨p,2,none⟩ (.slice (some ⟨gr,0,none⟩) (vals0.length+i+1) gcap)):=by
 have hpl:=lt_of_blk h.blk
 have hb':w.heap[p]? = some (.cells (cs0.set 2 vn).toArray 35 (0,0)):=h.blk
 have hvp:vn.ownBlock≠some p:=own_ne_type h.row h.blk (by decide)
 have hA:∀ b,b<w.heap.size→vn.ownBlock≠some b→w2.heap[b]? = w.heap[b]? := fun b hb hne=>(hg.block b (Nat.lt_of_lt_of_le hb hw1.size) (fun e=>hne e.symm)).trans (hw1.block b hb)
 have hp2:=(hA p hpl hvp).trans h.blk
 have hsz2:w.heap.size≤w2.heap.size:=Nat.le_trans hw1.size hg.size
 have hsz0:=h.fr.size
 have hset:∀ b,b≠p→(w2.setCell ⟨p,2,none⟩ (.slice (some ⟨gr,0,none⟩) (vals0.length+i+1) gcap)).heap[b]? = w2.heap[b]? := fun b hb=>heap_setCell_other _ _ _ _ hb
 have hI:∀ (b:Nat) (cs:Array Value),w.heap[b]? = some (.cells cs 3 (0,0))→(w2.setCell ⟨p,2,none⟩ (.slice (some ⟨gr,0,none⟩) (vals0.length+i+1) gcap)).heap[b]? = w.heap[b]? := fun b cs hb=>by
  rw [hset b (ne_of_types hb h.blk (by decide)),hA b (lt_of_blk hb) (own_ne_type h.row hb (by decide))]
 have hsz3:(w2.setCell ⟨p,2,none⟩ (.slice (some ⟨gr,0,none⟩) (vals0.length+i+1) gcap)).heap.size=w2.heap.size:=by simp [World.setCell]
 have hgp:gr≠p:=fun e=>own_ne_type ho hp2 (by decide) (by rw [← e];rfl)
 refine ⟨⟨(blk_cell hp2 2 vn (by simp [h8])).1,row_frozen hp2 2⟩,⟨?_,?_,fun b hb=>?_,by simp [h.len],fun u hu=>?_,fun u hu=>?_,?_,h.lin.far (by rw [hsz3];exact hsz2) hI,?_⟩⟩
 ·have:=blk_set hp2 2 (.slice (some ⟨gr,0,none⟩) (vals0.length+i+1) gcap)
  rw [List.set_set] at this
  exact this
 ·rw [← List.append_assoc]
  exact own_of_blockB ho fun g hg'=>hset g (fun e=>own_ne_type ho hp2 (by decide) (e ▸ hg'))
 ·have e:gr=b:=by simpa [Value.ownBlock] using hb
  subst e
  rcases hor with h1 | h1
  ·exact h.rowAt gr h1
  ·exact Or.inr (by omega)
 ·rcases List.mem_append.1 hu with h1 | h1
  ·exact (h.nums u h1).far hI
  ·rw [List.mem_singleton.1 h1]
   exact (nums_of_own h.own).far hI
 ·rcases List.mem_append.1 hu with h1 | h1
  ·exact (h.ins u h1).far (by rw [hsz3];exact hsz2) hI
  ·rw [List.mem_singleton.1 h1]
   exact h.lin.far (by rw [hsz3];exact hsz2) hI
 ·refine own_of_blockB h.own fun g hg'=>?_
  obtain ⟨-, -,cs,hc⟩:=h.lin g hg'
  exact hI g cs hc
 ·refine Fr.setCell (S:=fun b=>b=p∨v2.ownBlock=some b∨g0=some b) ?_ (p:=⟨p,2,none⟩) (Or.inr (Or.inl rfl)) _
  refine (h.fr.trans (Fr.of_below (S:=fun b=>b=p∨v2.ownBlock=some b∨g0=some b) hw1) (fun _ _ e=>e)).grown hg fun k hk=>?_
  rcases h.rowAt k hk with h1 | h1
  ·exact Or.inr (Or.inr (Or.inl h1))
  ·exact Or.inl h1
theorem Kn.app {base B:Nat} {w0:World} {p:Nat} {cs0 vals0:List Value} {v2:Value} {g0:Option Nat} {x:Int} {M i:Nat} {vn:Value} {news:List Value} {l:Value} {w w1 w2:World} {g cap H:Nat} (h:Kn base B w0 p cs0 vals0 v2 g0 x M i vn news l w) (hw1:Below w.heap.size w w1) (hH:w1.heap.size=H)
  (ho:w2.ownsRow B 3 1 (.slice (some ⟨g,0,none⟩) (M+1) cap) (M+1) (List.replicate M (.int .i64 x)++[.int .i64 x])) (hg:w1.grownBy w2 l.ownBlock) (hor:l.ownBlock=some g∨(g=H∧∀ b,b<H→w2.heap[b]? = w1.heap[b]?)) (hlt:g<w2.heap.size) :
  Kn base B w0 p cs0 vals0 v2 g0 x (M+1) i vn news (.slice (some ⟨g,0,none⟩) (M+1) cap) w2:=by
 subst hH
 rw [← List.replicate_succ'] at ho
 have hpl:=lt_of_blk h.blk
 have hlp:l.ownBlock≠some p:=own_ne_type h.own h.blk (by decide)
 have hA:∀ b,b<w.heap.size→l.ownBlock≠some b→w2.heap[b]? = w.heap[b]? := fun b hb hne=>(hg.block b (Nat.lt_of_lt_of_le hb hw1.size) (fun e=>hne e.symm)).trans (hw1.block b hb)
 have hsz1:=hw1.size
 have hsz2:w.heap.size≤w2.heap.size:=Nat.le_trans hw1.size hg.size
 have hsz0:=h.fr.size
 have hins:∀ u,NumsIn w0 w g0 u→NumsIn w0 w2 g0 u:=fun u hu b hb=>by
  obtain ⟨h1,h2,cs,h3⟩:=hu b hb
  refine ⟨by omega,h2,?_⟩
  by_cases e:l.ownBlock=some b
  ·rcases hor with h4 | h4
   ·rw [h4] at e
    cases e
    exact own_typed ho rfl
   ·exact ⟨cs,((h4.2 b (by omega)).trans (hw1.block b h1)).trans h3⟩
  ·exact ⟨cs,(hA b h1 e).trans h3⟩
 refine ⟨(hA p hpl hlp).trans h.blk,?_,h.rowAt,h.len,fun u hu=>?_,fun u hu=>hins u (h.ins u hu),ho,fun b hb=>?_,?_⟩
 ·refine own_of_blockB h.row fun b hb=>?_
  obtain ⟨cs,hc⟩:=own_typed h.row hb
  exact hA b (lt_of_blk hc) (own_ne_type h.own hc (by decide))
 ·have h1:NumsAt w1 x M u:=(h.nums u hu).far fun b cs hb=>hw1.block b (lt_of_blk hb)
  exact h1.app ho hg (hor.imp id (fun e=>e.2))
 ·have e:g=b:=by simpa [Value.ownBlock] using hb
  subst e
  refine ⟨hlt,?_,own_typed ho rfl⟩
  rcases hor with h4 | h4
  ·exact (h.lin g h4).2.1
  ·exact Or.inr (by omega)
 ·refine (h.fr.trans (Fr.of_below (S:=fun b=>b=p∨v2.ownBlock=some b∨g0=some b) hw1) (fun _ _ e=>e)).grown hg fun k hk=>?_
  rcases (h.lin k hk).2.1 with h1 | h1
  ·exact Or.inr (Or.inr (Or.inr h1))
  ·exact Or.inl h1
structure KeptN (base:Nat) (col:Nat→Nat) (w:World) (p:Nat) (v0:Value) (c:Nat) (g0:Option Nat) (w':World):Prop where
 ex:∃ col',Bk base col' w' p v0 (c+4)∧(∀ b,b<w.heap.size→g0≠some b→col' b=col b)∧∀ b,w.heap.size≤b→col' b≤8
 fr:Fr (fun b=>g0=some b∨(base≤b∧col b≤8)) w w'
theorem Kn.done {base B:Nat} {col:Nat→Nat} {w0:World} {p:Nat} {v0:Value} {c:Nat} {cs0 vals0:List Value} {v2:Value} {g0:Option Nat} {M:Nat} {vn:Value} {news:List Value} {l:Value} {w:World} (hb:Bk base col w0 p v0 c) (hp:w0.heap[p]? = some (.cells cs0.toArray 35 (0,0))) (hl8:cs0.length=8)
  (hrow:w0.ownsRow base 22 1 v2 vals0.length vals0) (hcv:∀ g,v2.ownBlock=some g→col g=2) (hle:vals0.length≤c) (h4:vals0.length%4=0) (h6:∀ i (h:i<vals0.length),∃ m,Sl w0 vals0[i] m 1 (wrN i)) (h7:∀ u∈vals0,∀ g,u.ownBlock=some g→g<w0.heap.size∧col g=8)
  (hg0:∀ g,g0=some g→base≤g∧8<col g∧g<w0.heap.size) (hM:M≤140737488355328) (h:Kn base B w0 p cs0 vals0 v2 g0 (-1-(vals0.length:Int)) M 4 vn news l w):KeptN base col w0 p v0 c g0 w:=by
 have hpl:=lt_of_blk hp
 have hsz:=h.fr.size
 have hbase:base≤w0.heap.size:=Nat.le_trans hb.ge (Nat.le_of_lt hpl)
 have hvl:∀ g,v2.ownBlock=some g→g<w0.heap.size:=fun g hg=>(hrow.lt g hg).2
 let col':Nat→Nat:=fun b=>if b<w0.heap.size then (if g0=some b then 8 else col b) else if vn.ownBlock=some b then 2 else 8
 have k1:∀ b,b<w0.heap.size→g0≠some b→col' b=col b:=fun b h1 h2=>by simp [col',h1,h2]
 have k2:∀ b,w0.heap.size≤b→col' b≤8:=fun b h1=>by
  show (if b<w0.heap.size then (if g0=some b then 8 else col b) else if vn.ownBlock=some b then 2 else 8)≤8
  rw [if_neg (by omega)];split<;>omega
 have n8:∀ b,col b≤8→g0≠some b:=fun b h1 e=>by have:=(hg0 b e).2.1;omega
 have keep:∀ b,b<w0.heap.size→b≠p→v2.ownBlock≠some b→g0≠some b→w.heap[b]? = w0.heap[b]? := fun b h1 h2 h3 h4=>h.fr.block b h1 (fun e=>by rcases e with e | e | e;exact h2 e;exact h3 e;exact h4 e)
 have hk8:∀ b,b<w0.heap.size→col b≤8→col b≠0→col b≠2→w.heap[b]? = w0.heap[b]? := fun b h1 h2 h3 h4=>keep b h1 (fun e=>by rw [e,hb.colp] at h3;exact h3 rfl) (fun e=>h4 (hcv b e)) (n8 b h2)
 have hc2:∀ j,j≠2→w.cell? ⟨p,j,none⟩=w0.cell? ⟨p,j,none⟩:=fun j hj=>by
  rw [cell_of_row w p j _ _ _ h.blk,cell_of_row w0 p j _ _ _ hp]
  simp [List.getElem?_set_ne (fun e=>hj e.symm)]
 refine ⟨⟨col',⟨⟨_,h.blk,by simpa using hl8⟩,(k1 p hpl (n8 p (by rw [hb.colp];omega))).trans hb.colp,hb.ge,(hc2 0 (by decide)).trans hb.c0,fun r hr1 hr7=>?_,fun b hb'=>?_⟩,k1,k2⟩,?_⟩
 ·by_cases e:r=2
  ·subst e
   have hcell:w.cell? ⟨p,2,none⟩=some vn:=(blk_cell h.blk 2 vn (by simp [hl8])).1
   refine ⟨vn,vals0++news,hcell,by rw [List.length_append,h.len];exact h.row,fun g hg=>?_,by rw [List.length_append,h.len];omega,by rw [List.length_append,h.len];show (vals0.length+4)%4=0;omega,fun i hi=>?_,fun u hu g hg=>?_⟩
   ·rcases h.rowAt g hg with h1 | h1
    ·rw [k1 g (hvl g h1) (n8 g (by rw [hcv g h1];omega))];exact hcv g h1
    ·show (if g<w0.heap.size then (if g0=some g then 8 else col g) else if vn.ownBlock=some g then 2 else 8)=2
     rw [if_neg (by omega),if_pos hg]
   ·rcases Nat.lt_or_ge i vals0.length with h1 | h1
    ·obtain ⟨m,hm⟩:=h6 i h1
     refine ⟨m,?_⟩
     rw [List.getElem_append_left h1]
     refine hm.frame fun g hg=>?_
     obtain ⟨q1,q2⟩:=h7 _ (List.getElem_mem h1) g hg
     exact hk8 g q1 (by omega) (by omega) (by omega)
    ·have hi4:i-vals0.length<news.length:=by rw [List.length_append] at hi;omega
     obtain ⟨m,hm⟩:=(h.nums _ (List.getElem_mem hi4)).sl hM
     refine ⟨m,?_⟩
     rw [List.getElem_append_right h1]
     have e:(fun (_ _:Nat)=>Value.int .i64 (-1-(vals0.length:Int)))=rowF 2 i:=by
      funext a b
      show _=wrN i a b
      unfold wrN
      rw [h.len] at hi4
      have:i / 4*4=vals0.length:=by omega
      rw [this]
     rw [← e]
     exact hm
   ·rcases List.mem_append.1 hu with h1 | h1
    ·obtain ⟨q1,q2⟩:=h7 u h1 g hg
     exact ⟨by omega,(k1 g q1 (n8 g (by omega))).trans q2⟩
    ·obtain ⟨q1,q2,cs,q3⟩:=h.ins u h1 g hg
     refine ⟨q1,?_⟩
     show (if g<w0.heap.size then (if g0=some g then 8 else col g) else if vn.ownBlock=some g then 2 else 8)=8
     rcases q2 with q2 | q2
     ·rw [if_pos (hg0 g q2).2.2,if_pos q2]
     ·rw [if_neg (by omega),if_neg (own_ne_type h.row q3 (by decide))]
  ·refine (hb.rows r hr1 hr7).frame (hc2 r e) (fun b h1 h2=>hk8 b h1 (by omega) (by omega) (by omega)) (fun b h1 h2=>k1 b h1 (n8 b (by omega))) hsz (by omega)
 ·rw [k1 b (by omega) (fun e=>by have:=(hg0 b e).1;omega)];exact hb.low b hb'
 ·refine h.fr.mono fun b h1 e=>?_
  rcases e with rfl | e | e
  ·exact Or.inr ⟨hb.ge,by rw [hb.colp];omega⟩
  ·exact Or.inr ⟨(hrow.lt b e).1,by rw [hcv b e];omega⟩
  ·exact Or.inl e
theorem fill_set {x:Value} {l:List Value} {k:Nat} (h:k<l.length):(List.replicate k x++l.drop k).set k x=List.replicate (k+1) x++l.drop (k+1):=by
 rw [List.set_append_right _ _ (by simp),List.length_replicate,Nat.sub_self,List.drop_eq_getElem_cons h,List.set_cons_zero,List.replicate_succ']
 simp
theorem Kn.start {base B:Nat} {w0:World} {p:Nat} {cs0 vals0:List Value} {v2 v:Value} {x:Int} {m:Nat} {w:World} (hp:w0.heap[p]? = some (.cells cs0.toArray 35 (0,0))) (h2:cs0[2]? = some v2) (hrow:w0.ownsRow base 22 1 v2 vals0.length vals0) (hv:w0.ownsRow B 3 1 v m (List.replicate m (.int .i64 0))∨∃ l:List Value,w0.ownsRow B 3 1 v m l)
  (hown:w.ownsRow B 3 1 v m (List.replicate m (.int .i64 x))) (hf:Fr (fun b=>v.ownBlock=some b) w0 w):Kn base B w0 p cs0 vals0 v2 v.ownBlock x m 0 v2 [] v w:=by
 obtain ⟨l,hl⟩:∃ l:List Value,w0.ownsRow B 3 1 v m l:=hv.elim (fun h=>⟨_,h⟩) id
 refine ⟨?_,?_,fun b hb=>Or.inl hb,rfl,(fun u hu=>by cases hu),(fun u hu=>by cases hu),hown,fun b hb=>?_,hf.mono fun b _ e=>Or.inr (Or.inr e)⟩
 ·have e:cs0.set 2 v2=cs0:=by
   obtain ⟨hl2,e2⟩:=List.getElem?_eq_some_iff.1 h2
   rw [← e2,List.set_getElem_self]
  rw [e,hf.block p (lt_of_blk hp) (own_ne_type hl hp (by decide))]
  exact hp
 ·rw [List.append_nil,Nat.add_zero]
  refine own_of_blockB hrow fun b hb=>hf.block b (hrow.lt b hb).2 fun e=>?_
  obtain ⟨cs,hc⟩:=own_typed hrow hb
  exact own_ne_type hl hc (by decide) e
 ·exact ⟨(hown.lt b hb).2,Or.inl hb,own_typed hown hb⟩
set_option maxRecDepth 100000 in
set_option maxHeartbeats 4000000 in
theorem keepNums_calls {base B:Nat} {col:Nat→Nat} {w:World} {p:Nat} {v0:Value} {c m:Nat} {v:Value} {l:List Value} (hb:Bk base col w p v0 c) (hl:w.ownsRow B 3 1 v m l) (hB:B≤w.heap.size) (hg:∀ g,v.ownBlock=some g→base≤g∧8<col g) (hm:m≤4398046511104) (hc:c≤1099511627776) :
  Calls Tryz.prog 65 #[.pointer (some ⟨p,0,none⟩),v] w fun e w'=>e=.returned (.tuple #[])∧KeptN base col w p v0 c v.ownBlock w':=by
 obtain ⟨iI,hiI,hI0,hI1,hI2⟩:=info_parts Tryz.infoLI
 obtain ⟨iN,hiN,hN0,hN1,hN2⟩:=info_parts Tryz.info3
 obtain ⟨v2,vals0,q1,q2,q3,q4,q5,q6,q7⟩:=(hb.rows 2 (by decide) (by decide)).ex
 obtain ⟨cs0,hp,hp8⟩:=hb.blk
 have h2:cs0[2]? = some v2:=by
  have:=cell_of_row w p 2 _ _ _ hp
  rw [q1] at this
  simpa using this.symm
 have hbase:base≤w.heap.size:=Nat.le_trans hb.ge (Nat.le_of_lt (lt_of_blk hp))
 have hll:=hl.1
 rw [Nat.mul_one] at hll
 have HSt:Hid (∀ wr,wr.ownsRow B 3 1 v m (List.replicate m (.int .i64 (-1-(vals0.length:Int))))→Fr (fun b=>v.ownBlock=some b) w wr→Kn base B w p cs0 vals0 v2 v.ownBlock (-1-(vals0.length:Int)) m 0 v2 [] v wr):=fun wr h1 hf=>Kn.start hp h2 q2 (Or.inr ⟨l,hl⟩) h1 hf
 have HDn:Hid (∀ vn news l' wr,Kn base B w p cs0 vals0 v2 v.ownBlock (-1-(vals0.length:Int)) (m+4) 4 vn news l' wr→KeptN base col w p v0 c v.ownBlock wr):=fun vn news l' wr h=>Kn.done hb hp hp8 q2 q3 q4 q5 q6 q7 (fun g e=>⟨(hg g e).1,(hg g e).2,(hl.lt g e).2⟩) (by omega) h
 obtain ⟨av,cv,rfl⟩:=own_slice q2
 obtain ⟨al,cl,rfl⟩:=own_slice hl
 have HL:=hide hl
 have hvn:vals0.length≤1099511627776:=by omega
 have wr1:wrap64 (-1-(vals0.length:Int)) = -1-(vals0.length:Int):=by unfold wrap64;omega
 clear hb hl hg hp h2 q2 q3 q4 q5 q6 q7
 have hxv:∃ xv:Int,xv = -1-(vals0.length:Int):=⟨_,rfl⟩
 obtain ⟨xv,hxv⟩:=hxv
 rw [← hxv] at HSt HDn
 go_enter Tryz.func65,Tryz.ntmps65
 go_wp2
 rw [← hxv] at *
 go_loopw [5] (fun i wr=>∃ k:Nat,k≤m∧i=.int .i64 k∧Fr (fun b=>(Value.slice al m cl).ownBlock=some b) w wr∧wr.ownsRow B 3 1 (.slice al m cl) m (List.replicate k (.int .i64 xv)++l.drop k)) (fun i _=>m-(intOf i).toNat)
 case atStart=>exact ⟨0,Nat.zero_le _,rfl,Fr.refl _ w,by simpa using HL.out⟩
 case round=>
  obtain ⟨k,hk,rfl,hf,hr⟩:=hrel
  by_cases hlt:k<m
  ·obtain ⟨a',c',hv', -,hget⟩:=own_row_get hr
   simp only [Value.slice.injEq,true_and] at hv'
   obtain ⟨rfl,rfl⟩:=hv'
   obtain ⟨g,rfl,d0⟩:=hget k (by simp;omega)
   obtain ⟨cur,hcur⟩:=own_typed hr (g:=g) rfl
   have f0:wr.frozen? ⟨g,k,none⟩=false:=by
    have hcur':wr.heap[g]? = some (.cells cur.toList.toArray 3 (0,0)):=by simpa using hcur
    exact row_frozen hcur' k
   have HNx:Hid (Fr (fun b=>(Value.slice (some ⟨g,0,none⟩) m cl).ownBlock=some b) w (wr.setCell ⟨g,k,none⟩ (.int .i64 xv))∧(wr.setCell ⟨g,k,none⟩ (.int .i64 xv)).ownsRow B 3 1 (.slice (some ⟨g,0,none⟩) m cl) m (List.replicate (k+1) (.int .i64 xv)++l.drop (k+1))):=by
    refine ⟨Fr.setCell (S:=fun b=>(Value.slice (some ⟨g,0,none⟩) m cl).ownBlock=some b) hf (p:=⟨g,k,none⟩) (Or.inr rfl) _,?_⟩
    have:=own_set (i:=k) hr (.int .i64 xv)
    rw [fill_set (by omega)] at this
    exact this
   have hk0:(0:Int)≤(k:Int):=by omega
   have hk1:(k:Int)<(m:Int):=by omega
   obtain ⟨ov,dd⟩:∃ ov,wr.cell? ⟨g,k,none⟩=some ov:=⟨_,d0⟩
   clear hf hr hget hcur q1 d0
   go_wp2
   go_roundw
   case rel=>exact ⟨k+1,by omega,by go_num,HNx.out.1,HNx.out.2⟩
   case measure=>simp [intOf];omega
  ·have hke:k=m:=by omega
   subst hke
   rw [List.drop_of_length_le (by omega),List.append_nil] at hr
   have HK0:=hide (HSt.out wr hr hf)
   clear hr hf HSt HL q1
   obtain ⟨g0,hg0⟩:∃ g0,g0=(Value.slice al k cl).ownBlock:=⟨_,rfl⟩
   rw [← hg0] at HK0 HDn
   have HG0:=hide hg0
   clear hg0
   go_wp2
   go_loopw [1,6,7] (fun lv i _ wr=>∃ (j:Nat) (vn:Value) (news:List Value),j≤4∧i=.int .i64 j∧Kn base B w p cs0 vals0 (.slice av vals0.length cv) g0 xv (k+j) j vn news lv wr) (fun _ i _ _=>4-(intOf i).toNat)
   case atStart=>exact ⟨0,_,_,Nat.zero_le _,rfl,HK0.out⟩
   case round=>
    clear HK0
    obtain ⟨j,vn,news,hj,rfl,hkn⟩:=hrel
    by_cases hj4:j<4
    ·obtain ⟨anv,cnv,hvn2⟩:=own_slice hkn.row
     obtain ⟨alv,clv,hlv⟩:=own_slice hkn.own
     subst hvn2
     subst hlv
     have c2:wr.cell? ⟨p,2,none⟩=some (.slice anv (vals0.length+j) cnv):=(blk_cell hkn.blk 2 _ (by simp [hp8])).1
     have hszr:=hkn.fr.size
     have HRo:=hide hkn.row
     have HPu:Hid (∀ w2 gr gcap,w2.ownsRow base 22 1 (.slice (some ⟨gr,0,none⟩) (vals0.length+j+1) gcap) (vals0.length+j+1) (vals0++(news++[.slice alv (k+j) clv]))→(wr.alloc (.cells #[.slice alv (k+j) clv] 22)).grownBy w2 (Value.slice anv (vals0.length+j) cnv).ownBlock→((Value.slice anv (vals0.length+j) cnv).ownBlock=some gr∨gr=wr.heap.size+1) →
       (w2.cell? ⟨p,2,none⟩=some (.slice anv (vals0.length+j) cnv)∧w2.frozen? ⟨p,2,none⟩=false)∧Kn base B w p cs0 vals0 (.slice av vals0.length cv) g0 xv (k+j) (j+1) (.slice (some ⟨gr,0,none⟩) (vals0.length+j+1) gcap) (news++[.slice alv (k+j) clv]) (.slice alv (k+j) clv) (w2.setCell ⟨p,2,none⟩ (.slice (some ⟨gr,0,none⟩) (vals0.length+j+1) gcap))):=fun w2 gr gcap ho hgr hor=>
      hkn.push (by omega) ((Below.refl _ _).alloc (Nat.le_refl _) _) (by rw [List.append_assoc];exact ho) hgr (hor.imp id (fun e=>by omega))
     have h63:vals0.length+j+1≤maxLen:=by unfold maxLen;omega
     have hbytes:(vals0.length+j+1)*24≤140737488355328:=by omega
     clear hkn HDn
     go_wp2_with (at_builtin;refine wpList_append_lies _ rfl (.tmp 32) (.tmp 34) 31 rfl base 22 iI (.slice none 0 0) 1 24 Tryz.underlying31 hiI hI0 hI1 hI2 rfl (by decide) (.slice anv (vals0.length+j) cnv) (vals0.length+j) (vals0++news) rfl (HRo.out.alloc _) ⟨wr.heap.size,0,none⟩ 1 1 [.slice alv (k+j) clv] rfl rfl ?c1 ?c2 (by decide) h63 hbytes (by simp;omega) (wr.heap.size+1) (by simp) ?_)
     (try case c1=>exact cell_one_new _ _ _)
     case c2=>first | rfl | (intro u hu;simp at hu;subst hu;rfl)
     intro gr gc w2 ho hgr hor hglt
     obtain ⟨⟨y1,yf⟩,y3⟩:=HPu.out w2 gr gc ho hgr hor
     have Y3:=hide y3
     clear ho hgr hor hglt y3 HPu c2 HRo
     go_upto_region 9 with fail
     generalize w2.setCell ⟨p,2,none⟩ (.slice (some ⟨gr,0,none⟩) (vals0.length+j+1) gc)=w3 at *
     have HRo3:=hide Y3.out.own
     have hsz3:=Y3.out.fr.size
     have HAp:Hid (∀ w5 g gc',w5.ownsRow B 3 1 (.slice (some ⟨g,0,none⟩) (k+j+1) gc') (k+j+1) (List.replicate (k+j) (.int .i64 xv)++[.int .i64 xv])→(w3.alloc (.cells #[.int .i64 xv] 3)).grownBy w5 (Value.slice alv (k+j) clv).ownBlock→((Value.slice alv (k+j) clv).ownBlock=some g∨(g=w3.heap.size+1∧∀ b,b<w3.heap.size+1→w5.heap[b]? = (w3.alloc (.cells #[.int .i64 xv] 3)).heap[b]?))→g<w5.heap.size →
       Kn base B w p cs0 vals0 (.slice av vals0.length cv) g0 xv (k+j+1) (j+1) (.slice (some ⟨gr,0,none⟩) (vals0.length+j+1) gc) (news++[.slice alv (k+j) clv]) (.slice (some ⟨g,0,none⟩) (k+j+1) gc') w5):=fun w5 g gc' ho hgr hor hlt=>
      Y3.out.app ((Below.refl _ _).alloc (Nat.le_refl _) _) (by simp) ho hgr hor hlt
     have k63:k+j+1≤maxLen:=by unfold maxLen;omega
     have kbytes:(k+j+1)*8≤140737488355328:=by omega
     clear Y3 y1 yf
     go_wp2_with (at_builtin;refine wpList_append_keep _ rfl (.tmp 38) (.tmp 40) 22 rfl B 3 iN (.int .i64 0) 1 8 Tryz.underlying22 hiN hN0 hN1 hN2 rfl (by decide) (.slice alv (k+j) clv) (k+j) (List.replicate (k+j) (.int .i64 xv)) rfl (HRo3.out.alloc _) ⟨w3.heap.size,0,none⟩ 1 1 [.int .i64 xv] rfl rfl ?c1 ?c2 (by decide) k63 kbytes (by simp;omega) (w3.heap.size+1) (by simp) ?_)
     (try case c1=>exact cell_one_new _ _ _)
     case c2=>first | rfl | (intro u hu;simp at hu;subst hu;rfl)
     intro g gc' w5 ho hgr hor hlt
     have HK5:=hide (HAp.out w5 g gc' ho hgr hor hlt)
     clear ho hgr hor hlt HAp HRo3
     go_wp2
     go_roundw
     case rel=>exact ⟨j+1,_,_,by omega,by go_num,HK5.out⟩
     case measure=>simp [intOf];omega
    ·have:j=4:=by omega
     subst this
     have HDone:=hide (HDn.out _ _ _ _ hkn)
     clear hkn HDn
     go_wp2
     go_end0
     refine ⟨rfl,?_⟩
     rw [← HG0.out]
     exact HDone.out
def BysAt (w:World) (x:Nat→Value) (M:Nat) (u:Value):Prop:=
 ∃ a m c,u=.slice a m c∧m≤M∧m≤c∧((a=none∧m=0)∨∃ b cs,a=some ⟨b,0,none⟩∧w.heap[b]? = some (.cells cs 5 (0,0))∧∀ j,j<m→cs.toList[j]? = some (x j))
theorem bys_of_own {w:World} {base M:Nat} {u:Value} {x:Nat→Value} (h:w.ownsRow base 5 1 u M ((List.range M).map x)):BysAt w x M u:=by
 rcases h.2 with ⟨rfl,rfl⟩ | ⟨g,cap,cur,rfl,hg,hh,hn,hm,hs,ht⟩
 ·exact ⟨none,0,0,rfl,Nat.le_refl _,Nat.le_refl _,Or.inl ⟨rfl,rfl⟩⟩
 ·refine ⟨_,M,cap,rfl,Nat.le_refl _,hn,Or.inr ⟨g,cur,rfl,hh,fun j hj=>?_⟩⟩
  have e:(cur.toList.take (M*1))[j]? = ((List.range M).map x)[j]? := by rw [ht]
  rw [List.getElem?_take_of_lt (by omega)] at e
  rw [e];simp [hj]
theorem BysAt.sl {w:World} {x:Nat→Value} {M:Nat} {u:Value} (h:BysAt w x M u) (hM:M≤140737488355328):∃ m,Sl w u m 1 fun i _=>x i:=by
 obtain ⟨a,m,c,rfl,h1,h2,h3⟩:=h
 refine ⟨m,a,c,rfl,by omega,h2,?_⟩
 rcases h3 with ⟨rfl,rfl⟩ | ⟨b,cs,rfl,hb,hc⟩
 ·exact Or.inl rfl
 ·refine Or.inr ⟨b,0,rfl,fun i hi j hj=>?_⟩
  have hb':w.heap[b]? = some (.cells cs.toList.toArray 5 (0,0)):=by simpa using hb
  have:0+i*1+j=i:=by omega
  rw [this]
  exact row_cell hb' (hc i hi)
theorem BysAt.far {w w':World} {x:Nat→Value} {M:Nat} {u:Value} (h:BysAt w x M u) (hk:∀ (b:Nat) (cs:Array Value),w.heap[b]? = some (.cells cs 5 (0,0))→w'.heap[b]? = w.heap[b]?):BysAt w' x M u:=by
 obtain ⟨a,m,c,rfl,h1,h2,h3⟩:=h
 refine ⟨a,m,c,rfl,h1,h2,?_⟩
 rcases h3 with h3 | ⟨b,cs,rfl,hb,hc⟩
 ·exact Or.inl h3
 ·exact Or.inr ⟨b,cs,rfl,(hk b cs hb).trans hb,hc⟩
theorem BysAt.app {w w':World} {base:Nat} {x:Nat→Value} {M:Nat} {u l:Value} {g cap:Nat} (h:BysAt w x M u) (ho:w'.ownsRow base 5 1 (.slice (some ⟨g,0,none⟩) (M+1) cap) (M+1) ((List.range (M+1)).map x)) (hg:w.grownBy w' l.ownBlock) (hor:l.ownBlock=some g∨(∀ b,b<w.heap.size→w'.heap[b]? = w.heap[b]?)):BysAt w' x (M+1) u:=by
 obtain ⟨a,m,c,rfl,h1,h2,h3⟩:=h
 refine ⟨a,m,c,rfl,by omega,h2,?_⟩
 rcases h3 with h3 | ⟨b,cs,rfl,hb,hc⟩
 ·exact Or.inl h3
 ·rcases hor with hor | hor
  ·by_cases e:b=g
   ·subst e
    rcases ho.2 with ⟨hv, -⟩ | ⟨g',cap',cur,hv, -,hh, -, -, -,ht⟩
    ·cases hv
    ·cases hv
     refine Or.inr ⟨b,cur,rfl,hh,fun j hj=>?_⟩
     have e:(cur.toList.take ((M+1)*1))[j]? = ((List.range (M+1)).map x)[j]? := by rw [ht]
     rw [List.getElem?_take_of_lt (by omega)] at e
     rw [e];simp [show j<M+1 by omega]
   ·refine Or.inr ⟨b,cs,rfl,(hg.block b (lt_of_blk hb) (fun e'=>e ?_)).trans hb,hc⟩
    rw [hor] at e'
    exact Option.some.inj e'
  ·exact Or.inr ⟨b,cs,rfl,(hor b (lt_of_blk hb)).trans hb,hc⟩
def BysIn (w0 w:World) (g0:Option Nat) (u:Value):Prop:=∀ b,u.ownBlock=some b→b<w.heap.size∧(g0=some b∨w0.heap.size≤b)∧∃ cs,w.heap[b]? = some (.cells cs 5 (0,0))
structure Kb (base B:Nat) (w0:World) (p:Nat) (cs0 vals0:List Value) (v2:Value) (g0:Option Nat) (x:Nat→Value) (M i:Nat) (vn:Value) (news:List Value) (l:Value) (w:World):Prop where
 blk:w.heap[p]? = some (.cells (cs0.set 1 vn).toArray 35 (0,0))
 row:w.ownsRow base 100 1 vn (vals0.length+i) (vals0++news)
 rowAt:∀ b,vn.ownBlock=some b→v2.ownBlock=some b∨w0.heap.size≤b
 len:news.length=i
 nums:∀ u∈news,BysAt w x M u
 ins:∀ u∈news,BysIn w0 w g0 u
 own:w.ownsRow B 5 1 l M ((List.range M).map x)
 lin:BysIn w0 w g0 l
 fr:Fr (fun b=>b=p∨v2.ownBlock=some b∨g0=some b) w0 w
theorem BysIn.far {w0 w w':World} {g0:Option Nat} {u:Value} (h:BysIn w0 w g0 u) (hsz:w.heap.size≤w'.heap.size) (hk:∀ (b:Nat) (cs:Array Value),w.heap[b]? = some (.cells cs 5 (0,0))→w'.heap[b]? = w.heap[b]?):BysIn w0 w' g0 u:=fun b hb=>by
 obtain ⟨h1,h2,cs,h3⟩:=h b hb
 exact ⟨Nat.lt_of_lt_of_le h1 hsz,h2,cs,(hk b cs h3).trans h3⟩
theorem Kb.push {base B:Nat} {w0:World} {p:Nat} {cs0 vals0:List Value} {v2:Value} {g0:Option Nat} {x:Nat→Value} {M i:Nat} {vn:Value} {news:List Value} {l:Value} {w w1 w2:World} {gr gcap:Nat} (h:Kb base B w0 p cs0 vals0 v2 g0 x M i vn news l w) (h8:1<cs0.length) (hw1:Below w.heap.size w w1)
  (ho:w2.ownsRow base 100 1 (.slice (some ⟨gr,0,none⟩) (vals0.length+i+1) gcap) (vals0.length+i+1) ((vals0++news)++[l])) (hg:w1.grownBy w2 vn.ownBlock) (hor:vn.ownBlock=some gr∨w.heap.size≤gr) :
  (w2.cell? ⟨p,1,none⟩=some vn∧w2.frozen? ⟨p,1,none⟩=false)∧Kb base B w0 p cs0 vals0 v2 g0 x M (i+1) (.slice (some ⟨gr,0,none⟩) (vals0.length+i+1) gcap) (news++[l]) l (w2.setCell ⟨p,1,none⟩ (.slice (some ⟨gr,0,none⟩) (vals0.length+i+1) gcap)):=by
 have hpl:=lt_of_blk h.blk
 have hb':w.heap[p]? = some (.cells (cs0.set 1 vn).toArray 35 (0,0)):=h.blk
 have hvp:vn.ownBlock≠some p:=own_ne_type h.row h.blk (by decide)
 have hA:∀ b,b<w.heap.size→vn.ownBlock≠some b→w2.heap[b]? = w.heap[b]? := fun b hb hne=>(hg.block b (Nat.lt_of_lt_of_le hb hw1.size) (fun e=>hne e.symm)).trans (hw1.block b hb)
 have hp2:=(hA p hpl hvp).trans h.blk
 have hsz2:w.heap.size≤w2.heap.size:=Nat.le_trans hw1.size hg.size
 have hsz0:=h.fr.size
 have hset:∀ b,b≠p→(w2.setCell ⟨p,1,none⟩ (.slice (some ⟨gr,0,none⟩) (vals0.length+i+1) gcap)).heap[b]? = w2.heap[b]? := fun b hb=>heap_setCell_other _ _ _ _ hb
 have hI:∀ (b:Nat) (cs:Array Value),w.heap[b]? = some (.cells cs 5 (0,0))→(w2.setCell ⟨p,1,none⟩ (.slice (some ⟨gr,0,none⟩) (vals0.length+i+1) gcap)).heap[b]? = w.heap[b]? := fun b cs hb=>by
  rw [hset b (ne_of_types hb h.blk (by decide)),hA b (lt_of_blk hb) (own_ne_type h.row hb (by decide))]
 have hsz3:(w2.setCell ⟨p,1,none⟩ (.slice (some ⟨gr,0,none⟩) (vals0.length+i+1) gcap)).heap.size=w2.heap.size:=by simp [World.setCell]
 have hgp:gr≠p:=fun e=>own_ne_type ho hp2 (by decide) (by rw [← e];rfl)
 refine ⟨⟨(blk_cell hp2 1 vn (by simp [h8])).1,row_frozen hp2 1⟩,⟨?_,?_,fun b hb=>?_,by simp [h.len],fun u hu=>?_,fun u hu=>?_,?_,h.lin.far (by rw [hsz3];exact hsz2) hI,?_⟩⟩
 ·have:=blk_set hp2 1 (.slice (some ⟨gr,0,none⟩) (vals0.length+i+1) gcap)
  rw [List.set_set] at this
  exact this
 ·rw [← List.append_assoc]
  exact own_of_blockB ho fun g hg'=>hset g (fun e=>own_ne_type ho hp2 (by decide) (e ▸ hg'))
 ·have e:gr=b:=by simpa [Value.ownBlock] using hb
  subst e
  rcases hor with h1 | h1
  ·exact h.rowAt gr h1
  ·exact Or.inr (by omega)
 ·rcases List.mem_append.1 hu with h1 | h1
  ·exact (h.nums u h1).far hI
  ·rw [List.mem_singleton.1 h1]
   exact (bys_of_own h.own).far hI
 ·rcases List.mem_append.1 hu with h1 | h1
  ·exact (h.ins u h1).far (by rw [hsz3];exact hsz2) hI
  ·rw [List.mem_singleton.1 h1]
   exact h.lin.far (by rw [hsz3];exact hsz2) hI
 ·refine own_of_blockB h.own fun g hg'=>?_
  obtain ⟨-, -,cs,hc⟩:=h.lin g hg'
  exact hI g cs hc
 ·refine Fr.setCell (S:=fun b=>b=p∨v2.ownBlock=some b∨g0=some b) ?_ (p:=⟨p,1,none⟩) (Or.inr (Or.inl rfl)) _
  refine (h.fr.trans (Fr.of_below (S:=fun b=>b=p∨v2.ownBlock=some b∨g0=some b) hw1) (fun _ _ e=>e)).grown hg fun k hk=>?_
  rcases h.rowAt k hk with h1 | h1
  ·exact Or.inr (Or.inr (Or.inl h1))
  ·exact Or.inl h1
theorem Kb.app {base B:Nat} {w0:World} {p:Nat} {cs0 vals0:List Value} {v2:Value} {g0:Option Nat} {x:Nat→Value} {M i:Nat} {vn:Value} {news:List Value} {l:Value} {w w1 w2:World} {g cap H:Nat} (h:Kb base B w0 p cs0 vals0 v2 g0 x M i vn news l w) (hw1:Below w.heap.size w w1) (hH:w1.heap.size=H)
  (ho:w2.ownsRow B 5 1 (.slice (some ⟨g,0,none⟩) (M+1) cap) (M+1) ((List.range M).map x++[x M])) (hg:w1.grownBy w2 l.ownBlock) (hor:l.ownBlock=some g∨(g=H∧∀ b,b<H→w2.heap[b]? = w1.heap[b]?)) (hlt:g<w2.heap.size) :
  Kb base B w0 p cs0 vals0 v2 g0 x (M+1) i vn news (.slice (some ⟨g,0,none⟩) (M+1) cap) w2:=by
 subst hH
 rw [show (List.range M).map x++[x M]=(List.range (M+1)).map x by rw [List.range_succ,List.map_append];rfl] at ho
 have hpl:=lt_of_blk h.blk
 have hlp:l.ownBlock≠some p:=own_ne_type h.own h.blk (by decide)
 have hA:∀ b,b<w.heap.size→l.ownBlock≠some b→w2.heap[b]? = w.heap[b]? := fun b hb hne=>(hg.block b (Nat.lt_of_lt_of_le hb hw1.size) (fun e=>hne e.symm)).trans (hw1.block b hb)
 have hsz1:=hw1.size
 have hsz2:w.heap.size≤w2.heap.size:=Nat.le_trans hw1.size hg.size
 have hsz0:=h.fr.size
 have hins:∀ u,BysIn w0 w g0 u→BysIn w0 w2 g0 u:=fun u hu b hb=>by
  obtain ⟨h1,h2,cs,h3⟩:=hu b hb
  refine ⟨by omega,h2,?_⟩
  by_cases e:l.ownBlock=some b
  ·rcases hor with h4 | h4
   ·rw [h4] at e
    cases e
    exact own_typed ho rfl
   ·exact ⟨cs,((h4.2 b (by omega)).trans (hw1.block b h1)).trans h3⟩
  ·exact ⟨cs,(hA b h1 e).trans h3⟩
 refine ⟨(hA p hpl hlp).trans h.blk,?_,h.rowAt,h.len,fun u hu=>?_,fun u hu=>hins u (h.ins u hu),ho,fun b hb=>?_,?_⟩
 ·refine own_of_blockB h.row fun b hb=>?_
  obtain ⟨cs,hc⟩:=own_typed h.row hb
  exact hA b (lt_of_blk hc) (own_ne_type h.own hc (by decide))
 ·have h1:BysAt w1 x M u:=(h.nums u hu).far fun b cs hb=>hw1.block b (lt_of_blk hb)
  exact h1.app ho hg (hor.imp id (fun e=>e.2))
 ·have e:g=b:=by simpa [Value.ownBlock] using hb
  subst e
  refine ⟨hlt,?_,own_typed ho rfl⟩
  rcases hor with h4 | h4
  ·exact (h.lin g h4).2.1
  ·exact Or.inr (by omega)
 ·refine (h.fr.trans (Fr.of_below (S:=fun b=>b=p∨v2.ownBlock=some b∨g0=some b) hw1) (fun _ _ e=>e)).grown hg fun k hk=>?_
  rcases (h.lin k hk).2.1 with h1 | h1
  ·exact Or.inr (Or.inr (Or.inr h1))
  ·exact Or.inl h1
structure KeptB (base:Nat) (col:Nat→Nat) (w:World) (p:Nat) (v0:Value) (c:Nat) (g0:Option Nat) (w':World):Prop where
 ex:∃ col',Bk base col' w' p v0 (c+4)∧(∀ b,b<w.heap.size→g0≠some b→col' b=col b)∧∀ b,w.heap.size≤b→col' b≤8
 fr:Fr (fun b=>g0=some b∨(base≤b∧col b≤8)) w w'
theorem Kb.done {base B:Nat} {col:Nat→Nat} {w0:World} {p:Nat} {v0:Value} {c:Nat} {cs0 vals0:List Value} {v2:Value} {g0:Option Nat} {M:Nat} {vn:Value} {news:List Value} {l:Value} {w:World} (hb:Bk base col w0 p v0 c) (hp:w0.heap[p]? = some (.cells cs0.toArray 35 (0,0))) (hl8:cs0.length=8)
  (hrow:w0.ownsRow base 100 1 v2 vals0.length vals0) (hcv:∀ g,v2.ownBlock=some g→col g=1) (hle:vals0.length≤c) (h4:vals0.length%4=0) (h6:∀ i (h:i<vals0.length),∃ m,Sl w0 vals0[i] m 1 (wrB i)) (h7:∀ u∈vals0,∀ g,u.ownBlock=some g→g<w0.heap.size∧col g=8)
  (hg0:∀ g,g0=some g→base≤g∧8<col g∧g<w0.heap.size) (hM:M≤140737488355328) (h:Kb base B w0 p cs0 vals0 v2 g0 (fun j=>.int .u8 (digitI (vals0.length:Nat) j)) M 4 vn news l w):KeptB base col w0 p v0 c g0 w:=by
 have hpl:=lt_of_blk hp
 have hsz:=h.fr.size
 have hbase:base≤w0.heap.size:=Nat.le_trans hb.ge (Nat.le_of_lt hpl)
 have hvl:∀ g,v2.ownBlock=some g→g<w0.heap.size:=fun g hg=>(hrow.lt g hg).2
 let col':Nat→Nat:=fun b=>if b<w0.heap.size then (if g0=some b then 8 else col b) else if vn.ownBlock=some b then 1 else 8
 have k1:∀ b,b<w0.heap.size→g0≠some b→col' b=col b:=fun b h1 h2=>by simp [col',h1,h2]
 have k2:∀ b,w0.heap.size≤b→col' b≤8:=fun b h1=>by
  show (if b<w0.heap.size then (if g0=some b then 8 else col b) else if vn.ownBlock=some b then 1 else 8)≤8
  rw [if_neg (by omega)];split<;>omega
 have n8:∀ b,col b≤8→g0≠some b:=fun b h1 e=>by have:=(hg0 b e).2.1;omega
 have keep:∀ b,b<w0.heap.size→b≠p→v2.ownBlock≠some b→g0≠some b→w.heap[b]? = w0.heap[b]? := fun b h1 h2 h3 h4=>h.fr.block b h1 (fun e=>by rcases e with e | e | e;exact h2 e;exact h3 e;exact h4 e)
 have hk8:∀ b,b<w0.heap.size→col b≤8→col b≠0→col b≠1→w.heap[b]? = w0.heap[b]? := fun b h1 h2 h3 h4=>keep b h1 (fun e=>by rw [e,hb.colp] at h3;exact h3 rfl) (fun e=>h4 (hcv b e)) (n8 b h2)
 have hc2:∀ j,j≠1→w.cell? ⟨p,j,none⟩=w0.cell? ⟨p,j,none⟩:=fun j hj=>by
  rw [cell_of_row w p j _ _ _ h.blk,cell_of_row w0 p j _ _ _ hp]
  simp [List.getElem?_set_ne (fun e=>hj e.symm)]
 refine ⟨⟨col',⟨⟨_,h.blk,by simpa using hl8⟩,(k1 p hpl (n8 p (by rw [hb.colp];omega))).trans hb.colp,hb.ge,(hc2 0 (by decide)).trans hb.c0,fun r hr1 hr7=>?_,fun b hb'=>?_⟩,k1,k2⟩,?_⟩
 ·by_cases e:r=1
  ·subst e
   have hcell:w.cell? ⟨p,1,none⟩=some vn:=(blk_cell h.blk 1 vn (by simp [hl8])).1
   refine ⟨vn,vals0++news,hcell,by rw [List.length_append,h.len];exact h.row,fun g hg=>?_,by rw [List.length_append,h.len];omega,by rw [List.length_append,h.len];show (vals0.length+4)%4=0;omega,fun i hi=>?_,fun u hu g hg=>?_⟩
   ·rcases h.rowAt g hg with h1 | h1
    ·rw [k1 g (hvl g h1) (n8 g (by rw [hcv g h1];omega))];exact hcv g h1
    ·show (if g<w0.heap.size then (if g0=some g then 8 else col g) else if vn.ownBlock=some g then 1 else 8)=1
     rw [if_neg (by omega),if_pos hg]
   ·rcases Nat.lt_or_ge i vals0.length with h1 | h1
    ·obtain ⟨m,hm⟩:=h6 i h1
     refine ⟨m,?_⟩
     rw [List.getElem_append_left h1]
     refine hm.frame fun g hg=>?_
     obtain ⟨q1,q2⟩:=h7 _ (List.getElem_mem h1) g hg
     exact hk8 g q1 (by omega) (by omega) (by omega)
    ·have hi4:i-vals0.length<news.length:=by rw [List.length_append] at hi;omega
     obtain ⟨m,hm⟩:=(h.nums _ (List.getElem_mem hi4)).sl hM
     refine ⟨m,?_⟩
     rw [List.getElem_append_right h1]
     have e:(fun (a _:Nat)=>Value.int .u8 (digitI (vals0.length:Nat) a))=rowF 1 i:=by
      funext a b
      show _=wrB i a b
      unfold wrB
      rw [h.len] at hi4
      have:i / 4*4=vals0.length:=by omega
      rw [this]
     rw [← e]
     exact hm
   ·rcases List.mem_append.1 hu with h1 | h1
    ·obtain ⟨q1,q2⟩:=h7 u h1 g hg
     exact ⟨by omega,(k1 g q1 (n8 g (by omega))).trans q2⟩
    ·obtain ⟨q1,q2,cs,q3⟩:=h.ins u h1 g hg
     refine ⟨q1,?_⟩
     show (if g<w0.heap.size then (if g0=some g then 8 else col g) else if vn.ownBlock=some g then 1 else 8)=8
     rcases q2 with q2 | q2
     ·rw [if_pos (hg0 g q2).2.2,if_pos q2]
     ·rw [if_neg (by omega),if_neg (own_ne_type h.row q3 (by decide))]
  ·refine (hb.rows r hr1 hr7).frame (hc2 r e) (fun b h1 h2=>hk8 b h1 (by omega) (by omega) (by omega)) (fun b h1 h2=>k1 b h1 (n8 b (by omega))) hsz (by omega)
 ·rw [k1 b (by omega) (fun e=>by have:=(hg0 b e).1;omega)];exact hb.low b hb'
 ·refine h.fr.mono fun b h1 e=>?_
  rcases e with rfl | e | e
  ·exact Or.inr ⟨hb.ge,by rw [hb.colp];omega⟩
  ·exact Or.inr ⟨(hrow.lt b e).1,by rw [hcv b e];omega⟩
  ·exact Or.inl e
theorem fill_setB {f:Nat→Value} {l:List Value} {k:Nat} (h:k<l.length):((List.range k).map f++l.drop k).set k (f k)=(List.range (k+1)).map f++l.drop (k+1):=by
 rw [List.set_append_right _ _ (by simp),List.length_map,List.length_range,Nat.sub_self,List.drop_eq_getElem_cons h,List.set_cons_zero,List.range_succ,List.map_append]
 simp
theorem Kb.start {base B:Nat} {w0:World} {p:Nat} {cs0 vals0:List Value} {v2 v:Value} {x:Nat→Value} {m:Nat} {w:World} (hp:w0.heap[p]? = some (.cells cs0.toArray 35 (0,0))) (h2:cs0[1]? = some v2) (hrow:w0.ownsRow base 100 1 v2 vals0.length vals0) (hv:∃ l:List Value,w0.ownsRow B 5 1 v m l)
  (hown:w.ownsRow B 5 1 v m ((List.range m).map x)) (hf:Fr (fun b=>v.ownBlock=some b) w0 w):Kb base B w0 p cs0 vals0 v2 v.ownBlock x m 0 v2 [] v w:=by
 obtain ⟨l,hl⟩:∃ l:List Value,w0.ownsRow B 5 1 v m l:=hv
 refine ⟨?_,?_,fun b hb=>Or.inl hb,rfl,(fun u hu=>by cases hu),(fun u hu=>by cases hu),hown,fun b hb=>?_,hf.mono fun b _ e=>Or.inr (Or.inr e)⟩
 ·have e:cs0.set 1 v2=cs0:=by
   obtain ⟨hl2,e2⟩:=List.getElem?_eq_some_iff.1 h2
   rw [← e2,List.set_getElem_self]
  rw [e,hf.block p (lt_of_blk hp) (own_ne_type hl hp (by decide))]
  exact hp
 ·rw [List.append_nil,Nat.add_zero]
  refine own_of_blockB hrow fun b hb=>hf.block b (hrow.lt b hb).2 fun e=>?_
  obtain ⟨cs,hc⟩:=own_typed hrow hb
  exact own_ne_type hl hc (by decide) e
 ·exact ⟨(hown.lt b hb).2,Or.inl hb,own_typed hown hb⟩
theorem Tryz.infoLB:(Tryz.prog.info? 100).map (fun i=>(i.zero,i.size,i.bytes))=some (some (.slice none 0 0),1,24):=by kernel_rfl
set_option maxRecDepth 100000 in
set_option maxHeartbeats 4000000 in
theorem keep_calls {base B:Nat} {col:Nat→Nat} {w:World} {p:Nat} {v0:Value} {c m:Nat} {v:Value} {l:List Value} (hb:Bk base col w p v0 c) (hl:w.ownsRow B 5 1 v m l) (hB:B≤w.heap.size) (hg:∀ g,v.ownBlock=some g→base≤g∧8<col g) (hm:m≤4398046511104) (hc:c≤1099511627776) :
  Calls Tryz.prog 42 #[.pointer (some ⟨p,0,none⟩),v] w fun e w'=>e=.returned (.tuple #[])∧KeptB base col w p v0 c v.ownBlock w':=by
 obtain ⟨iI,hiI,hI0,hI1,hI2⟩:=info_parts Tryz.infoLB
 obtain ⟨iN,hiN,hN0,hN1,hN2⟩:=info_parts Tryz.infoU8
 obtain ⟨v2,vals0,q1,q2,q3,q4,q5,q6,q7⟩:=(hb.rows 1 (by decide) (by decide)).ex
 obtain ⟨cs0,hp,hp8⟩:=hb.blk
 have h2:cs0[1]? = some v2:=by
  have:=cell_of_row w p 1 _ _ _ hp
  rw [q1] at this
  simpa using this.symm
 have hbase:base≤w.heap.size:=Nat.le_trans hb.ge (Nat.le_of_lt (lt_of_blk hp))
 have hll:=hl.1
 rw [Nat.mul_one] at hll
 have HSt:Hid (∀ wr,wr.ownsRow B 5 1 v m ((List.range m).map (fun j:Nat=>.int .u8 (digitI (vals0.length:Nat) j)))→Fr (fun b=>v.ownBlock=some b) w wr→Kb base B w p cs0 vals0 v2 v.ownBlock (fun j:Nat=>.int .u8 (digitI (vals0.length:Nat) j)) m 0 v2 [] v wr):=fun wr h1 hf=>Kb.start hp h2 q2 ⟨l,hl⟩ h1 hf
 have HDn:Hid (∀ vn news l' wr,Kb base B w p cs0 vals0 v2 v.ownBlock (fun j:Nat=>.int .u8 (digitI (vals0.length:Nat) j)) (m+4) 4 vn news l' wr→KeptB base col w p v0 c v.ownBlock wr):=fun vn news l' wr h=>Kb.done hb hp hp8 q2 q3 q4 q5 q6 q7 (fun g e=>⟨(hg g e).1,(hg g e).2,(hl.lt g e).2⟩) (by omega) h
 obtain ⟨av,cv,rfl⟩:=own_slice q2
 obtain ⟨al,cl,rfl⟩:=own_slice hl
 have HL:=hide hl
 have hvn:vals0.length≤1099511627776:=by omega
 have HDg:Hid (∀ (i:Nat) (wx:World),i≤4398046511110→Calls Tryz.prog 45 #[.int .i64 (vals0.length:Nat),.int .i64 (i:Nat)] wx fun e w'=>e=.returned (.int .u8 (digitI (vals0.length:Nat) (i:Nat)))∧w'=wx):=fun i wx hi=>digit_calls _ _ wx (by omega) (by omega) (by omega) (by omega)
 clear hb hl hg hp h2 q2 q3 q4 q5 q6 q7
 obtain ⟨dg,hdg⟩:∃ dg:Nat→Value,dg=fun j:Nat=>.int .u8 (digitI (vals0.length:Nat) j):=⟨_,rfl⟩
 rw [← hdg] at HSt HDn
 have HD:Hid (∀ j:Nat,dg j=.int .u8 (digitI (vals0.length:Nat) j)):=fun j=>by rw [hdg]
 clear hdg
 go_enter Tryz.func42,Tryz.ntmps42
 go_wp2
 go_loopw [5] (fun i wr=>∃ k:Nat,k≤m∧i=.int .i64 k∧Fr (fun b=>(Value.slice al m cl).ownBlock=some b) w wr∧wr.ownsRow B 5 1 (.slice al m cl) m ((List.range k).map dg++l.drop k)) (fun i _=>m-(intOf i).toNat)
 case atStart=>exact ⟨0,Nat.zero_le _,rfl,Fr.refl _ w,by simpa using HL.out⟩
 case round=>
  obtain ⟨k,hk,rfl,hf,hr⟩:=hrel
  by_cases hlt:k<m
  ·obtain ⟨a',c',hv', -,hget⟩:=own_row_get hr
   simp only [Value.slice.injEq,true_and] at hv'
   obtain ⟨rfl,rfl⟩:=hv'
   obtain ⟨g,rfl,d0⟩:=hget k (by simp;omega)
   obtain ⟨cur,hcur⟩:=own_typed hr (g:=g) rfl
   have f0:wr.frozen? ⟨g,k,none⟩=false:=by
    have hcur':wr.heap[g]? = some (.cells cur.toList.toArray 5 (0,0)):=by simpa using hcur
    exact row_frozen hcur' k
   have HNx:Hid (Fr (fun b=>(Value.slice (some ⟨g,0,none⟩) m cl).ownBlock=some b) w (wr.setCell ⟨g,k,none⟩ (.int .u8 (digitI (vals0.length:Nat) (k:Nat))))∧(wr.setCell ⟨g,k,none⟩ (.int .u8 (digitI (vals0.length:Nat) (k:Nat)))).ownsRow B 5 1 (.slice (some ⟨g,0,none⟩) m cl) m ((List.range (k+1)).map dg++l.drop (k+1))):=by
    refine ⟨Fr.setCell (S:=fun b=>(Value.slice (some ⟨g,0,none⟩) m cl).ownBlock=some b) hf (p:=⟨g,k,none⟩) (Or.inr rfl) _,?_⟩
    have:=own_set (i:=k) hr (dg k)
    rw [fill_setB (by omega)] at this
    rw [← HD.out k]
    exact this
   have hk0:(0:Int)≤(k:Int):=by omega
   have hk1:(k:Int)<(m:Int):=by omega
   obtain ⟨ov,dd⟩:∃ ov,wr.cell? ⟨g,k,none⟩=some ov:=⟨_,d0⟩
   have HDk:=hide (HDg.out k wr (by omega))
   clear hf hr hget hcur q1 d0
   go_wp2_with fail
   refine (unhide HDk).mono ?_
   rintro e w9 ⟨rfl,rfl⟩
   go_wp2
   go_roundw
   case rel=>exact ⟨k+1,by omega,by go_num,HNx.out.1,HNx.out.2⟩
   case measure=>simp [intOf];omega
  ·have hke:k=m:=by omega
   subst hke
   rw [List.drop_of_length_le (by omega),List.append_nil] at hr
   have HK0:=hide (HSt.out wr hr hf)
   clear hr hf HSt HL q1
   obtain ⟨g0,hg0⟩:∃ g0,g0=(Value.slice al k cl).ownBlock:=⟨_,rfl⟩
   rw [← hg0] at HK0 HDn
   have HG0:=hide hg0
   clear hg0
   go_wp2
   go_loopw [1,6,7] (fun lv i _ wr=>∃ (j:Nat) (vn:Value) (news:List Value),j≤4∧i=.int .i64 j∧Kb base B w p cs0 vals0 (.slice av vals0.length cv) g0 dg (k+j) j vn news lv wr) (fun _ i _ _=>4-(intOf i).toNat)
   case atStart=>exact ⟨0,_,_,Nat.zero_le _,rfl,HK0.out⟩
   case round=>
    clear HK0
    obtain ⟨j,vn,news,hj,rfl,hkn⟩:=hrel
    by_cases hj4:j<4
    ·obtain ⟨anv,cnv,hvn2⟩:=own_slice hkn.row
     obtain ⟨alv,clv,hlv⟩:=own_slice hkn.own
     subst hvn2
     subst hlv
     have c2:wr.cell? ⟨p,1,none⟩=some (.slice anv (vals0.length+j) cnv):=(blk_cell hkn.blk 1 _ (by simp [hp8])).1
     have hszr:=hkn.fr.size
     have HRo:=hide hkn.row
     have HPu:Hid (∀ w2 gr gcap,w2.ownsRow base 100 1 (.slice (some ⟨gr,0,none⟩) (vals0.length+j+1) gcap) (vals0.length+j+1) (vals0++(news++[.slice alv (k+j) clv]))→(wr.alloc (.cells #[.slice alv (k+j) clv] 100)).grownBy w2 (Value.slice anv (vals0.length+j) cnv).ownBlock→((Value.slice anv (vals0.length+j) cnv).ownBlock=some gr∨gr=wr.heap.size+1) →
       (w2.cell? ⟨p,1,none⟩=some (.slice anv (vals0.length+j) cnv)∧w2.frozen? ⟨p,1,none⟩=false)∧Kb base B w p cs0 vals0 (.slice av vals0.length cv) g0 dg (k+j) (j+1) (.slice (some ⟨gr,0,none⟩) (vals0.length+j+1) gcap) (news++[.slice alv (k+j) clv]) (.slice alv (k+j) clv) (w2.setCell ⟨p,1,none⟩ (.slice (some ⟨gr,0,none⟩) (vals0.length+j+1) gcap))):=fun w2 gr gcap ho hgr hor=>
      hkn.push (by omega) ((Below.refl _ _).alloc (Nat.le_refl _) _) (by rw [List.append_assoc];exact ho) hgr (hor.imp id (fun e=>by omega))
     have h63:vals0.length+j+1≤maxLen:=by unfold maxLen;omega
     have hbytes:(vals0.length+j+1)*24≤140737488355328:=by omega
     clear hkn HDn
     go_wp2_with (at_builtin;refine wpList_append_lies _ rfl (.tmp 33) (.tmp 35) 30 rfl base 100 iI (.slice none 0 0) 1 24 Tryz.underlying30 hiI hI0 hI1 hI2 rfl (by decide) (.slice anv (vals0.length+j) cnv) (vals0.length+j) (vals0++news) rfl (HRo.out.alloc _) ⟨wr.heap.size,0,none⟩ 1 1 [.slice alv (k+j) clv] rfl rfl ?c1 ?c2 (by decide) h63 hbytes (by simp;omega) (wr.heap.size+1) (by simp) ?_)
     (try case c1=>exact cell_one_new _ _ _)
     case c2=>first | rfl | (intro u hu;simp at hu;subst hu;rfl)
     intro gr gc w2 ho hgr hor hglt
     obtain ⟨⟨y1,yf⟩,y3⟩:=HPu.out w2 gr gc ho hgr hor
     have Y3:=hide y3
     clear ho hgr hor hglt y3 HPu c2 HRo
     go_upto_region 9 with fail
     generalize w2.setCell ⟨p,1,none⟩ (.slice (some ⟨gr,0,none⟩) (vals0.length+j+1) gc)=w3 at *
     have HRo3:=hide Y3.out.own
     have hsz3:=Y3.out.fr.size
     have HAp:Hid (∀ w5 g gc',w5.ownsRow B 5 1 (.slice (some ⟨g,0,none⟩) (k+j+1) gc') (k+j+1) ((List.range (k+j)).map dg++[.int .u8 (digitI (vals0.length:Nat) ((k:Int)+(j:Int)))])→(w3.alloc (.cells #[.int .u8 (digitI (vals0.length:Nat) ((k:Int)+(j:Int)))] 5)).grownBy w5 (Value.slice alv (k+j) clv).ownBlock→((Value.slice alv (k+j) clv).ownBlock=some g∨(g=w3.heap.size+1∧∀ b,b<w3.heap.size+1→w5.heap[b]? = (w3.alloc (.cells #[.int .u8 (digitI (vals0.length:Nat) ((k:Int)+(j:Int)))] 5)).heap[b]?))→g<w5.heap.size →
       Kb base B w p cs0 vals0 (.slice av vals0.length cv) g0 dg (k+j+1) (j+1) (.slice (some ⟨gr,0,none⟩) (vals0.length+j+1) gc) (news++[.slice alv (k+j) clv]) (.slice (some ⟨g,0,none⟩) (k+j+1) gc') w5):=fun w5 g gc' ho hgr hor hlt=>
      Y3.out.app ((Below.refl _ _).alloc (Nat.le_refl _) _) (by simp) (by rw [HD.out (k+j),Int.natCast_add];exact ho) hgr hor hlt
     have k63:k+j+1≤maxLen:=by unfold maxLen;omega
     have kbytes:(k+j+1)*1≤140737488355328:=by omega
     have HDj:=hide (HDg.out (k+j) w3 (by omega))
     clear Y3 y1 yf
     go_wp2_with fail
     refine (unhide HDj).mono ?_
     rintro e w9 ⟨rfl,h9⟩
     rw [h9]
     clear h9 HDj
     go_wp2_with (at_builtin;refine wpList_append_keep _ rfl (.tmp 39) (.tmp 44) 100 rfl B 5 iN (.int .u8 0) 1 1 Tryz.underlying100 hiN hN0 hN1 hN2 rfl (by decide) (.slice alv (k+j) clv) (k+j) ((List.range (k+j)).map dg) rfl (HRo3.out.alloc _) ⟨w3.heap.size,0,none⟩ 1 1 [.int .u8 (digitI (vals0.length:Nat) ((k:Int)+(j:Int)))] rfl rfl ?c1 ?c2 (by decide) k63 kbytes (by simp;omega) (w3.heap.size+1) (by simp) ?_)
     (try case c1=>exact cell_one_new _ _ _)
     case c2=>first | rfl | (intro u hu;simp at hu;subst hu;rfl)
     intro g gc' w5 ho hgr hor hlt
     have HK5:=hide (HAp.out w5 g gc' ho hgr hor hlt)
     clear ho hgr hor hlt HAp HRo3
     go_wp2
     go_roundw
     case rel=>exact ⟨j+1,_,_,by omega,by go_num,HK5.out⟩
     case measure=>simp [intOf];omega
    ·have:j=4:=by omega
     subst this
     have HDone:=hide (HDn.out _ _ _ _ hkn)
     clear hkn HDn
     go_wp2
     go_end0
     refine ⟨rfl,?_⟩
     rw [← HG0.out]
     exact HDone.out
end Go.Proofs.YthfdgdfnflilfaaGreatDoor

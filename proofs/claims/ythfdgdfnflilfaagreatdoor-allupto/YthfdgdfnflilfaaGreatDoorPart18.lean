/- Part 18: Lent3, Lent4, Back1, Ret1, Over, Ret2. -/
import Derived.Deep.Cut
import Derived.Laws.StructEq
import Derived.Test.YthfdgdfnflilfaaGreatDoorPart3
import Derived.Test.YthfdgdfnflilfaaGreatDoorPart13
namespace Go.Proofs.YthfdgdfnflilfaaGreatDoor
open Go.RowKit Go.Conc
theorem Tryz.infoSrc:(Tryz.prog.info? 42).map (fun i=>(i.zero,i.size,i.bytes))=some (some (.agg #[.int .i64 0,.slice none 0 0]),2,32):=by kernel_rfl
theorem Tryz.infoLI:(Tryz.prog.info? 22).map (fun i=>(i.zero,i.size,i.bytes))=some (some (.slice none 0 0),1,24):=by kernel_rfl
theorem Tryz.infoLC:(Tryz.prog.info? 45).map (fun i=>(i.zero,i.size,i.bytes))=some (some (.slice none 0 0),1,24):=by kernel_rfl
theorem Tryz.infoLS:(Tryz.prog.info? 23).map (fun i=>(i.zero,i.size,i.bytes))=some (some (.slice none 0 0),1,24):=by kernel_rfl
theorem Tryz.infoLW:(Tryz.prog.info? 24).map (fun i=>(i.zero,i.size,i.bytes))=some (some (.slice none 0 0),1,24):=by kernel_rfl
theorem make_wide {P:Program} (t e:TypeId) (z:Value) (size bytes:Nat) (ht:P.underlying t=some (.slice e)) (hinfo:(P.info? e).map (fun i=>(i.zero,i.size,i.bytes))=some (some z,size,bytes)) (n:Nat) (hb:bytes*(n+1)≤281474976710656) (h63:n+1≤9223372036854775807) (w:World) :
  (Instr.makeSlice t (.int .i64 ((n:Int)+1)) (.int .i64 ((n:Int)+1))).run P w=.ok (.slice (some ⟨w.heap.size,0,none⟩) (n+1) (n+1)) (w.alloc (.cells (madeCells z.cells ((n+1)*size)) e)):=by
 obtain ⟨i,hi,hz0,hz1,hz2⟩:=info_parts hinfo
 have hb':(i.bytes:Int)*((n:Int)+1)≤281474976710656:=by
  have h:((i.bytes*(n+1):Nat):Int)≤281474976710656:=by rw [hz2];omega
  rwa [Int.natCast_mul,Int.natCast_add] at h
 have hr:=run_make (P:=P) w t e i z ht hi hz0 .i64 .i64 ((n:Int)+1) ((n:Int)+1) (by omega) (Int.le_refl _) hb' (by omega)
 have ec:((n:Int)+1).toNat=n+1:=by omega
 rw [ec,hz1] at hr
 exact hr
structure Loan1 (B:Nat) (w0:World) (n:Net) (bx:Obj) (gs gr:Nat) (rooms:Value) (G:Nat→Nat) (IA:Nat→Option Addr) (IC:Nat→Nat) (vW:Value) (i:Nat) (wr:World):Prop where
 box:wr.heap[B]? = some bx
 blk:wr.heap[B+1]? = some (.cells #[rooms,.slice none 0 0,.slice none 0 0,ownV gs n.streams.length,vW,ownV gr n.sources.length,.slice none 0 0,.slice none 0 0] 61 (0,0))
 str:Lentd wr gs rooms n.streams
 words:WordsAt (B+2) wr n gs G IA IC vW i
 src:SrcRow wr gr n.sources IA IC i
 ges:B+2≤gs
 ger:B+2≤gr
 below:Below B w0 wr
theorem SrcRow.blk {w:World} {g:Nat} {ss:List Src} {IA:Nat→Option Addr} {IC:Nat→Nat} {i:Nat} (h:SrcRow w g ss IA IC i):∃ cs:Array Value,w.heap[g]? = some (.cells cs 42 (0,0)):=by
 obtain ⟨cs,h1, -⟩:=h.ex
 exact ⟨_,h1⟩
theorem WkRow.blk {w:World} {g:Nat} {ws:List (List Ins)} {C:Nat→Nat} {i:Nat} (h:WkRow w g ws C i):∃ cs:Array Value,w.heap[g]? = some (.cells cs 45 (0,0)):=by
 obtain ⟨cs,h1, -⟩:=h.ex
 exact ⟨_,h1⟩
theorem kept_append {wr w1 w2:World} {o:Obj} {v:Value} {k:Nat} (hb1:Below wr.heap.size wr w1) (hg:(w1.alloc o).grownBy w2 v.ownBlock) (hk:k<wr.heap.size) (hne:v.ownBlock≠some k):w2.heap[k]? = wr.heap[k]? := by
 have:=hb1.size
 rw [hg.block k (by simp;omega) (fun e=>hne e.symm),Below.heap_alloc _ _ _ (by omega),hb1.block k hk]
theorem own_ne_type {w:World} {B n:Nat} {e t:TypeId} {size:Nat} {v:Value} {xs:List Value} {k:Nat} {cs:Array Value} {f:Nat×Nat} (h:w.ownsRow B e size v n xs) (hk:w.heap[k]? = some (.cells cs t f)) (ht:e≠t):v.ownBlock≠some k:=fun e'=>by
 obtain ⟨cur,hc⟩:=own_blockB h e'
 exact absurd rfl (ne_of_types hc hk ht)
theorem Loan1.next {B:Nat} {w0:World} {n:Net} {bx:Obj} {gs gr:Nat} {rooms:Value} {G:Nat→Nat} {IA:Nat→Option Addr} {IC:Nat→Nat} {vW:Value} {i:Nat} {wr w1 w2:World} (h:Loan1 B w0 n bx gs gr rooms G IA IC vW i wr) (hi:i<n.sources.length)
  {ia:Option Addr} {ic g cap:Nat} {o:Obj} (hb1:Below wr.heap.size wr w1) (hl:Lentd w1 wr.heap.size (.slice ia (wordsOf n i).length ic) (wordsOf n i))
  (ho:w2.ownsRow (B+2) 22 1 (.slice (some ⟨g,0,none⟩) (i+1) cap) (i+1) ((List.range i).map (fun t=>ownV (G t) (wordsOf n t).length)++[ownV wr.heap.size (wordsOf n i).length])) (hg:(w1.alloc o).grownBy w2 vW.ownBlock) :
  w2.heap[B]? = some bx∧w2.heap[B+1]? = wr.heap[B+1]? ∧ w2.heap[gr]? = wr.heap[gr]? ∧ Below B w0 w2∧gr≠B+1 ∧
  Loan1 B w0 n bx gs gr rooms (fun t=>if t=i then wr.heap.size else G t) (fun t=>if t=i then ia else IA t) (fun t=>if t=i then ic else IC t) (.slice (some ⟨g,0,none⟩) (i+1) cap) (i+1)
   (((w2.setCell ⟨B+1,4,none⟩ (.slice (some ⟨g,0,none⟩) (i+1) cap)).setCell ⟨gr,i*2,none⟩ (.int .i64 (n.sources.getD i ⟨0,[]⟩).stream)).setCell ⟨gr,i*2+1,none⟩ (.slice ia (wordsOf n i).length ic)):=by
 have hsz1:=hb1.size
 have hB1:=lt_of_blk h.blk
 obtain ⟨csr,hcr⟩:=h.src.blk
 have keep:∀ k,k<wr.heap.size→vW.ownBlock≠some k→w2.heap[k]? = wr.heap[k]? := fun k hk hne=>kept_append hb1 hg hk hne
 have low:∀ k,k<B+2→k<wr.heap.size→w2.heap[k]? = wr.heap[k]? := fun k hk hk'=>keep k hk' fun e=>by have:=own_baseB h.words.row e;omega
 have hgr2:w2.heap[gr]? = wr.heap[gr]? := keep gr (lt_of_blk hcr) (own_ne_type h.words.row hcr (by decide))
 have hne1:gr≠B+1:=by have:=h.ger;omega
 have hng:=lt_of_blk hl.blk
 have hnew:w2.heap[wr.heap.size]? = w1.heap[wr.heap.size]? := by
  rw [hg.block _ (by simp;omega) (fun e=>?_),Below.heap_alloc _ _ _ hng]
  have:=(h.words.row.lt _ e.symm).2
  omega
 have hb2:Below B w0 w2:=h.below.trans ⟨hg.os.trans hb1.os,hg.tape.trans hb1.tape,hg.output.trans hb1.output,Nat.le_trans hsz1 (Nat.le_trans (by simp) hg.size),fun k hk=>low k (by omega) (by omega)⟩
 have hgg:B+2≤g:=own_baseB ho rfl
 have hset:∀ k,k≠B+1→k≠gr→∀ v1 v2 v3,(((w2.setCell ⟨B+1,4,none⟩ v1).setCell ⟨gr,i*2,none⟩ v2).setCell ⟨gr,i*2+1,none⟩ v3).heap[k]? = w2.heap[k]? := fun k h1 h2 v1 v2 v3=>by
  rw [heap_setCell_other _ _ _ _ h2,heap_setCell_other _ _ _ _ h2,heap_setCell_other _ _ _ _ h1]
 have hgrt:∀ k cs t,wr.heap[k]? = some (.cells cs t (0,0))→t≠42→k≠gr:=fun k cs t hk ht=>ne_of_types hk hcr ht
 refine ⟨(low B (by omega) (by omega)).trans h.box,low (B+1) (by omega) hB1,hgr2,hb2,hne1,⟨?_,?_,?_,⟨?_,fun t ht=>?_,fun s t hst ht=>?_,fun t ht=>?_,fun t ht=>?_⟩,?_,h.ges,h.ger,?_⟩⟩
 ·rw [hset _ (by omega) (by have:=h.ger;omega),low B (by omega) (by omega)];exact h.box
 ·rw [heap_setCell_other _ _ _ _ (fun e=>hne1 e.symm),heap_setCell_other _ _ _ _ (fun e=>hne1 e.symm)]
  exact blk_set (l:=[_,_,_,_,_,_,_,_]) ((low (B+1) (by omega) hB1).trans h.blk) 4 _
 ·have hlt:=lt_of_blk h.str.blk
  refine h.str.frame ?_
  rw [hset _ (by have:=h.ges;omega) (hgrt _ _ _ h.str.blk (by decide)),keep gs hlt (own_ne_type h.words.row h.str.blk (by decide))]
 ·have e:=map_range_snoc (fun t=>ownV (G t) (wordsOf n t).length) (fun t=>ownV (if t=i then wr.heap.size else G t) (wordsOf n t).length) i (ownV wr.heap.size (wordsOf n i).length) (fun t ht=>by rw [if_neg (by omega)]) (by rw [if_pos rfl])
  rw [e]
  refine own_of_blockB ho fun k hk=>hset k ?_ ?_ _ _ _
  ·have:=own_baseB ho hk;omega
  ·obtain ⟨cur,hc⟩:=own_blockB ho hk
   exact ne_of_types hc (hgr2.trans hcr) (by decide)
 ·by_cases e:t=i
  ·subst e
   simp only [if_true]
   refine hl.frame ?_
   rw [hset _ (by omega) (fun e=>by have:=lt_of_blk hcr;omega),hnew]
  ·simp only [e,if_false]
   have hw:=h.words.words t (by omega)
   have hlt:=lt_of_blk hw.blk
   refine hw.frame ?_
   rw [hset _ (by have:=h.words.ge t (by omega);omega) (hgrt _ _ _ hw.blk (by decide)),keep _ hlt (own_ne_type h.words.row hw.blk (by decide))]
 ·by_cases e:t=i
  ·subst e
   have hs:s≠t:=by omega
   simp only [hs,if_false,if_true]
   have:=lt_of_blk (h.words.words s (by omega)).blk
   omega
  ·have hs:s≠i:=by omega
   simp only [e,hs,if_false]
   exact h.words.inj s t hst (by omega)
 ·by_cases e:t=i
  ·simp only [e,if_true]
   have:=lt_of_blk h.str.blk
   omega
  ·simp only [e,if_false];exact h.words.ne t (by omega)
 ·by_cases e:t=i
  ·simp only [e,if_true];omega
  ·simp only [e,if_false];exact h.words.ge t (by omega)
 ·refine SrcRow.next (h.src.frame ?_) hi ia ic
  rw [heap_setCell_other _ _ _ _ hne1,hgr2]
 ·exact ((hb2.setCell (p:=⟨B+1,4,none⟩) (by show B≤B+1;omega) _).setCell (p:=⟨gr,i*2,none⟩) (by have:=h.ger;show B≤gr;omega) _).setCell (p:=⟨gr,i*2+1,none⟩) (by have:=h.ger;show B≤gr;omega) _
structure Loan2 (B:Nat) (w0:World) (n:Net) (bx:Obj) (L:LoanL) (C:Nat→Nat) (vC:Value) (j:Nat) (wr:World):Prop where
 box:wr.heap[B]? = some bx
 blk:wr.heap[B+1]? = some (.cells #[L.rooms,.slice none 0 0,.slice none 0 0,ownV L.gs n.streams.length,L.vW,ownV L.gr n.sources.length,vC,ownV L.gw n.workers.length] 61 (0,0))
 str:Lentd wr L.gs L.rooms n.streams
 words:WordsAt (B+2) wr n L.gs L.G L.IA L.IC L.vW n.sources.length
 src:SrcRow wr L.gr n.sources L.IA L.IC n.sources.length
 codes:CodesAt (B+2) wr n.workers C vC j
 wks:WkRow wr L.gw n.workers C j
 ne:vC.ownBlock≠some L.gw
 ges:B+2≤L.gs
 ger:B+2≤L.gr
 gew:B+2≤L.gw
 below:Below B w0 wr
theorem Loan2.next {B:Nat} {w0:World} {n:Net} {bx:Obj} {L:LoanL} {C:Nat→Nat} {vC:Value} {j:Nat} {wr w1 w2:World} (h:Loan2 B w0 n bx L C vC j wr) (hj:j<n.workers.length)
  {g cap H:Nat} {o:Obj} (hb1:Below wr.heap.size wr w1) (hl:w1.heap[wr.heap.size]? = some (.cells (codeRow (n.workers.getD j []++[⟨80,0,0,0⟩])).toArray 44 (0,0)))
  (ho:w2.ownsRow (B+2) 45 1 (.slice (some ⟨g,0,none⟩) (j+1) cap) (j+1) ((List.range j).map (fun t=>ownV (C t) (n.workers.getD t []).length)++[ownV wr.heap.size (n.workers.getD j []).length])) (hg:(w1.alloc o).grownBy w2 vC.ownBlock) (hor:vC.ownBlock=some g∨g=H) (hH:wr.heap.size≤H) :
  w2.heap[B]? = some bx∧w2.heap[B+1]? = wr.heap[B+1]? ∧ w2.heap[L.gw]? = wr.heap[L.gw]? ∧ Below B w0 w2∧L.gw≠B+1 ∧
  Loan2 B w0 n bx L (fun t=>if t=j then wr.heap.size else C t) (.slice (some ⟨g,0,none⟩) (j+1) cap) (j+1)
   ((w2.setCell ⟨B+1,6,none⟩ (.slice (some ⟨g,0,none⟩) (j+1) cap)).setCell ⟨L.gw,j,none⟩ (.slice (some ⟨wr.heap.size,0,none⟩) (n.workers.getD j []).length ((n.workers.getD j []).length+1))):=by
 have hsz1:=hb1.size
 have hB1:=lt_of_blk h.blk
 obtain ⟨csr,hcr⟩:=h.src.blk
 obtain ⟨csw,hcw⟩:=h.wks.blk
 have hgwl:=lt_of_blk hcw
 have keep:∀ k,k<wr.heap.size→vC.ownBlock≠some k→w2.heap[k]? = wr.heap[k]? := fun k hk hne=>kept_append hb1 hg hk hne
 have low:∀ k,k<B+2→k<wr.heap.size→w2.heap[k]? = wr.heap[k]? := fun k hk hk'=>keep k hk' fun e=>by have:=own_baseB h.codes.row e;omega
 have hgw2:w2.heap[L.gw]? = wr.heap[L.gw]? := keep L.gw hgwl h.ne
 have hne1:L.gw≠B+1:=by have:=h.gew;omega
 have hng:=lt_of_blk hl
 have hnew:w2.heap[wr.heap.size]? = w1.heap[wr.heap.size]? := by
  rw [hg.block _ (by simp;omega) (fun e=>?_),Below.heap_alloc _ _ _ hng]
  have:=(h.codes.row.lt _ e.symm).2
  omega
 have hb2:Below B w0 w2:=h.below.trans ⟨hg.os.trans hb1.os,hg.tape.trans hb1.tape,hg.output.trans hb1.output,Nat.le_trans hsz1 (Nat.le_trans (by simp) hg.size),fun k hk=>low k (by omega) (by omega)⟩
 have hgg:B+2≤g:=own_baseB ho rfl
 have hggw:g≠L.gw:=fun e=>by
  rcases hor with h1 | h1
  ·exact h.ne (by rw [h1,e])
  ·omega
 have hset:∀ k,k≠B+1→k≠L.gw→∀ v1 v2,((w2.setCell ⟨B+1,6,none⟩ v1).setCell ⟨L.gw,j,none⟩ v2).heap[k]? = w2.heap[k]? := fun k h1 h2 v1 v2=>by
  rw [heap_setCell_other _ _ _ _ h2,heap_setCell_other _ _ _ _ h1]
 have hgt:∀ k cs t,wr.heap[k]? = some (.cells cs t (0,0))→t≠45→k≠L.gw:=fun k cs t hk ht=>ne_of_types hk hcw ht
 have old:∀ k cs t,wr.heap[k]? = some (.cells cs t (0,0))→t≠45→B+2≤k→∀ v1 v2,((w2.setCell ⟨B+1,6,none⟩ v1).setCell ⟨L.gw,j,none⟩ v2).heap[k]? = wr.heap[k]? := fun k cs t hk ht hge v1 v2=>by
  rw [hset k (by omega) (hgt k cs t hk ht),keep k (lt_of_blk hk) (own_ne_type h.codes.row hk (fun e=>ht e.symm))]
 refine ⟨(low B (by omega) (by omega)).trans h.box,low (B+1) (by omega) hB1,hgw2,hb2,hne1,⟨?_,?_,?_,?_,?_,⟨?_,fun t ht=>?_,fun s t hst ht=>?_,fun t ht=>?_⟩,?_,?_,h.ges,h.ger,h.gew,?_⟩⟩
 ·rw [hset _ (by omega) (by have:=h.gew;omega),low B (by omega) (by omega)];exact h.box
 ·rw [heap_setCell_other _ _ _ _ (fun e=>hne1 e.symm)]
  exact blk_set (l:=[_,_,_,_,_,_,_,_]) ((low (B+1) (by omega) hB1).trans h.blk) 6 _
 ·exact h.str.frame (old _ _ _ h.str.blk (by decide) h.ges _ _)
 ·refine h.words.frame (fun k hk=>?_) (fun t ht=>old _ _ _ (h.words.words t ht).blk (by decide) (h.words.ge t ht) _ _)
  obtain ⟨cur,hc⟩:=own_blockB h.words.row hk
  exact old _ _ _ hc (by decide) (own_baseB h.words.row hk) _ _
 ·exact h.src.frame (old _ _ _ hcr (by decide) h.ger _ _)
 ·have e:=map_range_snoc (fun t=>ownV (C t) (n.workers.getD t []).length) (fun t=>ownV (if t=j then wr.heap.size else C t) (n.workers.getD t []).length) j (ownV wr.heap.size (n.workers.getD j []).length) (fun t ht=>by rw [if_neg (by omega)]) (by rw [if_pos rfl])
  rw [e]
  refine own_of_blockB ho fun k hk=>?_
  have:k=g:=by simpa [Value.ownBlock] using hk.symm
  subst this
  exact hset _ (by omega) hggw _ _
 ·by_cases e:t=j
  ·subst e
   simp only [if_true]
   rw [hset _ (by omega) (fun e=>by omega),hnew]
   exact hl
  ·simp only [e,if_false]
   rw [old _ _ _ (h.codes.codes t (by omega)) (by decide) (h.codes.ge t (by omega))]
   exact h.codes.codes t (by omega)
 ·by_cases e:t=j
  ·subst e
   have hs:s≠t:=by omega
   simp only [hs,if_false,if_true]
   have:=lt_of_blk (h.codes.codes s (by omega))
   omega
  ·have hs:s≠j:=by omega
   simp only [e,hs,if_false]
   exact h.codes.inj s t hst (by omega)
 ·by_cases e:t=j
  ·simp only [e,if_true];omega
  ·simp only [e,if_false];exact h.codes.ge t (by omega)
 ·refine WkRow.next (h.wks.frame ?_) hj _
  rw [heap_setCell_other _ _ _ _ hne1,hgw2]
 ·intro e
  exact hggw (by simpa [Value.ownBlock] using e)
 ·exact (hb2.setCell (p:=⟨B+1,6,none⟩) (by show B≤B+1;omega) _).setCell (p:=⟨L.gw,j,none⟩) (by have:=h.gew;show B≤L.gw;omega) _
structure LoanAt (B:Nat) (L:LoanL) (w:World) (n:Net):Prop where
 blk:w.heap[L.q]? = some (.cells #[L.rooms,.slice (some ⟨L.gr,0,none⟩) n.sources.length (n.sources.length+1),.slice (some ⟨L.gw,0,none⟩) n.workers.length (n.workers.length+1),ownV L.gs n.streams.length,L.vW,ownV L.gr n.sources.length,L.vC,ownV L.gw n.workers.length] 61 (0,0))
 str:Lentd w L.gs L.rooms n.streams
 words:WordsAt B w n L.gs L.G L.IA L.IC L.vW n.sources.length
 src:SrcRow w L.gr n.sources L.IA L.IC n.sources.length
 codes:CodesAt B w n.workers L.C L.vC n.workers.length
 wks:WkRow w L.gw n.workers L.C n.workers.length
 ne:L.vC.ownBlock≠some L.gw
 ge:B≤L.q∧B≤L.gs∧B≤L.gr∧B≤L.gw
theorem own_lower {w:World} {B B' n:Nat} {e:TypeId} {size:Nat} {v:Value} {xs:List Value} (h:w.ownsRow B e size v n xs) (hB:B'≤B):w.ownsRow B' e size v n xs:=by
 obtain ⟨h1,h2⟩:=h
 refine ⟨h1,h2.imp id fun ⟨g,cap,cur,hv,hb,r⟩=>⟨g,cap,cur,hv,Nat.le_trans hB hb,r⟩⟩
theorem LoanAt.net {B:Nat} {L:LoanL} {w:World} {n:Net} (h:LoanAt B L w n) (hs:ShortNet n):NetAt w (.agg #[L.rooms,.slice (some ⟨L.gr,0,none⟩) n.sources.length (n.sources.length+1),.slice (some ⟨L.gw,0,none⟩) n.workers.length (n.workers.length+1)]) n:=by
 obtain ⟨s1,s2,s3,s4,s5⟩:=hs
 obtain ⟨cs,c1,c2,c3, -, -, -⟩:=h.src.ex
 obtain ⟨ds,d1,d2,d3, -⟩:=h.wks.ex
 refine ⟨_,_,_,rfl,h.str.ints s1,⟨fun i=>.slice (L.IA i) (wordsOf n i).length (L.IC i),⟨_,_,rfl,by omega,by omega,Or.inr ⟨L.gr,0,rfl,fun i hi j hj=>?_⟩⟩,fun i hi=>?_⟩,⟨fun i=>.slice (some ⟨L.C i,0,none⟩) (n.workers.getD i []).length ((n.workers.getD i []).length+1),⟨_,_,rfl,by omega,by omega,Or.inr ⟨L.gw,0,rfl,fun i hi j hj=>?_⟩⟩,fun i hi=>?_⟩⟩
 ·rw [Nat.zero_add]
  obtain ⟨q1,q2⟩:=c3 i hi
  have hc:j=0∨j=1:=by omega
  rcases hc with rfl | rfl
  ·exact row_cell c1 q1
  ·exact row_cell c1 q2
 ·have e:n.sources[i].words=wordsOf n i:=by unfold wordsOf;rw [getD_eq _ _ _ hi]
  rw [e]
  refine (h.words.words i hi).ints ?_
  rw [← e]
  exact (s4 _ (List.getElem_mem hi)).1
 ·rw [Nat.zero_add]
  have hc:j=0:=by omega
  subst hc
  have:=row_cell d1 (d3 i hi)
  simpa using this
 ·have e:n.workers[i]=n.workers.getD i []:=by rw [getD_eq _ _ _ hi]
  have hl:(n.workers.getD i []).length≤1048576:=by rw [← e];exact (s5 _ (List.getElem_mem hi)).1
  rw [e]
  refine ⟨_,_,rfl,by omega,by omega,Or.inr ⟨L.C i,0,rfl,fun t ht j hj=>?_⟩⟩
  rw [Nat.zero_add]
  refine row_cell (h.codes.codes i hi) ?_
  have hc:=codeRow_get (n.workers.getD i []++[⟨80,0,0,0⟩]) t (by rw [List.length_append];omega) j hj
  rw [hc]
  dsimp only
  rw [getD_eq _ _ _ ht,List.getElem_append_left ht]
def recol (col:Nat→Nat) (g n r:Nat):Nat→Nat:=fun b=>if b=g then 8 else if b<n then col b else r
theorem recol_g (col:Nat→Nat) (g n r:Nat):recol col g n r g=8:=by simp [recol]
theorem recol_old (col:Nat→Nat) (g n r b:Nat) (h:b≠g) (hb:b<n):recol col g n r b=col b:=by simp [recol,h,hb]
theorem recol_new (col:Nat→Nat) (g n r b:Nat) (h:b≠g) (hb:n≤b):recol col g n r b=r:=by simp [recol,h,Nat.not_lt.2 hb]
theorem setCell_over {w:World} {g i:Nat} {cs:List Value} {t:TypeId} {v:Value} (h:w.heap[g]? = some (.cells (List.replicate i v++cs.drop i).toArray t (0,0))) (hi:i<cs.length) :
  (w.setCell ⟨g,i,none⟩ v).heap[g]? = some (.cells (List.replicate (i+1) v++cs.drop (i+1)).toArray t (0,0)):=by
 have:=blk_set h i v
 rw [this]
 congr 3
 rw [List.set_append_right _ _ (by simp)]
 simp only [List.length_replicate,Nat.sub_self]
 have hd:cs.drop i=cs[i]::cs.drop (i+1):=List.drop_eq_getElem_cons hi
 rw [hd,List.set_cons_zero,List.replicate_succ']
 simp
theorem over_get {i:Nat} {cs:List Value} {v:Value} (hi:i<cs.length):(List.replicate i v++cs.drop i)[i]? = some cs[i]:=by
 rw [List.getElem?_append_right (by simp)]
 simp [hi]
theorem replicate_sl {w:World} {g n:Nat} {v:Value} {t:TypeId} (h:w.heap[g]? = some (.cells (List.replicate n v).toArray t (0,0))) (hn:n≤140737488355328):Sl w (.slice (some ⟨g,0,none⟩) n n) n 1 fun _ _=>v:=by
 refine ⟨_,_,rfl,hn,Nat.le_refl _,Or.inr ⟨g,0,rfl,fun i hi j hj=>?_⟩⟩
 refine row_cell h ?_
 have:0+i*1+j=i:=by omega
 rw [this]
 simp [hi]
structure Backed (base:Nat) (col:Nat→Nat) (w:World) (p:Nat) (v0:Value) (c g:Nat) (w':World):Prop where
 ex:∃ col',Bk base col' w' p v0 (c+1)∧(∀ b,b<w.heap.size→b≠g→col' b=col b)∧(∀ b,w.heap.size≤b→col' b≤8)∧col' g=8
 fr:Fr (fun b=>b=g∨(base≤b∧col b≤8)) w w'
theorem Backed.push {base:Nat} {col:Nat→Nat} {w w1 w2:World} {p:Nat} {v0:Value} {c m g r:Nat} {v u:Value} {vals:List Value} {gr gcap H:Nat} {o:Obj} (hr1:3≤r) (hr7:r≤7) (hb:Bk base col w p v0 c)
  (hcell:w.cell? ⟨p,r,none⟩=some v) (hrow:w.ownsRow base (rowT r) 1 v vals.length vals) (hcv:∀ g,v.ownBlock=some g→col g=r) (hle:vals.length≤c) (h6:∀ i (h:i<vals.length),∃ m,Sl w vals[i] m (rowSz r) (rowF r i)) (h7:∀ x∈vals,∀ g,x.ownBlock=some g→g<w.heap.size∧col g=8)
  (hg:base≤g) (hcg:8<col g) (hgl:g<w.heap.size) (hf:Fr (fun b=>b=g) w w1)
  (hown:w2.ownsRow base (rowT r) 1 (.slice (some ⟨gr,0,none⟩) (vals.length+1) gcap) (vals.length+1) (vals++[u])) (hgr:(w1.alloc o).grownBy w2 v.ownBlock) (hor:v.ownBlock=some gr∨gr=H) (hH:w.heap.size≤H)
  (hu:Sl w1 u m (rowSz r) (rowF r vals.length)) (hug:∀ b,u.ownBlock=some b→b=g) :
  Backed base col w p v0 c g (w2.setCell ⟨p,r,none⟩ (.slice (some ⟨gr,0,none⟩) (vals.length+1) gcap)):=by
 obtain ⟨cs,hp,hl⟩:=hb.blk
 have hpl:=lt_of_blk hp
 have hgp:g≠p:=fun e=>by rw [e,hb.colp] at hcg;omega
 have hvg:v.ownBlock≠some g:=fun e=>by have:=hcv g e;omega
 have hsz1:=hf.size
 have keep:∀ b,b<w.heap.size→b≠g→v.ownBlock≠some b→w2.heap[b]? = w.heap[b]? := fun b h1 h2 h3=>by
  rw [hgr.block b (by simp;omega) (fun e=>h3 e.symm),Below.heap_alloc _ _ _ (by omega),hf.block b h1 h2]
 have hbase:base≤w.heap.size:=Nat.le_trans hb.ge (Nat.le_of_lt hpl)
 have hgrr:recol col g w.heap.size r gr=r:=by
  rcases hor with h1 | h1
  ·have:=hrow.lt gr h1
   rw [recol_old _ _ _ _ _ (fun e=>hvg (by rw [← e];exact h1)) this.2];exact hcv gr h1
  ·exact recol_new _ _ _ _ _ (by omega) (by omega)
 refine ⟨⟨recol col g w.heap.size r,?_,fun b h1 h2=>recol_old _ _ _ _ _ h2 h1,fun b h1=>?_,recol_g _ _ _ _⟩,?_⟩
 ·refine BkM.push (v:=v) (col:=col) (w:=w) (md:=rowMd) r (by omega) hr7 hb hle h6 h7 hown (fun b h1 h2 h3=>keep b h1 (fun e=>by rw [e] at h3;omega) h2) (Nat.le_trans hsz1 (Nat.le_trans (by simp) hgr.size)) hcv (fun b h1 h2=>recol_old _ _ _ _ _ (fun e=>by rw [e] at h2;omega) h1) (fun b h1=>?_) hgrr ?_ (hu.frame fun b hb'=>?_) (fun b hb'=>?_) ?_ (fun _ _=>rfl)
  ·rw [recol_old _ _ _ _ _ (by omega) (by omega)];exact hb.low b h1
  ·rcases hor with h1 | h1
   ·intro e;have:=hcv gr h1;rw [e,hb.colp] at this;omega
   ·omega
  ·have:=hug b hb'
   subst this
   rw [hgr.block b (by simp;omega) (fun e=>hvg e.symm),Below.heap_alloc _ _ _ (by omega)]
  ·have:=hug b hb'
   subst this
   have:=hgr.size
   simp at this
   exact ⟨by omega,recol_g _ _ _ _,hgp⟩
  ·have:rowMd r=1:=by
    rcases (show r=3∨r=4∨r=5∨r=6∨r=7 by omega) with rfl | rfl | rfl | rfl | rfl<;>rfl
   rw [this,Nat.mod_one]
 ·by_cases e:b=g
  ·omega
  ·rw [recol_new _ _ _ _ _ e h1];omega
 ·refine Fr.setCell (S:=fun b=>b=g∨(base≤b∧col b≤8)) ?_ (p:=⟨p,r,none⟩) (Or.inr (Or.inr ⟨hb.ge,by rw [hb.colp];omega⟩)) _
  refine Fr.grown ((hf.mono fun k _ hk=>Or.inl hk).alloc o) hgr fun k hk=>Or.inr (Or.inr ⟨(hrow.lt k hk).1,by have:=hcv k hk;omega⟩)
set_option maxRecDepth 100000 in
set_option maxHeartbeats 4000000 in
theorem backInts_calls {base:Nat} {col:Nat→Nat} {w:World} {p:Nat} {v0:Value} {c g:Nat} {l:List Int} {vl:Value} (hb:Bk base col w p v0 c) (hl:w.heap[g]? = some (.cells (intRow (l++[78])).toArray 3 (0,0))) (hg:base≤g) (hcg:8<col g) (hi:IntsAt w vl l) (hlen:l.length≤1048576) (hc:c≤1099511627776) :
  Calls Tryz.prog 29 #[.pointer (some ⟨p,0,none⟩),.slice (some ⟨g,0,none⟩) (l.length+1) (l.length+1),vl] w fun e w'=>e=.returned (.bool true)∧Backed base col w p v0 c g w':=by
 obtain ⟨iI,hiI,hI0,hI1,hI2⟩:=info_parts Tryz.infoLI
 obtain ⟨v,vals,q1,q2,q3,q4,q5,q6,q7⟩:=(hb.rows 4 (by decide) (by decide)).ex
 have q2':w.ownsRow base 22 1 v vals.length vals:=q2
 obtain ⟨cs,hp,hpl⟩:=hb.blk
 have hgl:=lt_of_blk hl
 have hgp:g≠p:=fun e=>by rw [e,hb.colp] at hcg;omega
 have hvg:v.ownBlock≠some g:=fun e=>by have:=q3 g e;omega
 have hvp:v.ownBlock≠some p:=fun e=>by have:=q3 p e;rw [hb.colp] at this;omega
 have hown:IntsAt w (.slice (some ⟨g,0,none⟩) l.length (l.length+1)) l:=(Lentd.mk (w:=w) (g:=g) (u:=.slice (some ⟨g,0,none⟩) l.length (l.length+1)) (l:=l) hl (Or.inl rfl)).ints hlen
 have HSm:Hid (Calls Tryz.prog 60 #[.slice (some ⟨g,0,none⟩) l.length (l.length+1),vl] w fun e w'=>e=.returned (.bool true)∧∃ q,w'=w.drewN q):=sameInts_calls hown hi
 have h78:∀ q,(w.drewN q).cell? ⟨g,l.length,none⟩=some (.int .i64 78):=fun q=>by
  refine row_cell (w:=w.drewN q) hl ?_
  simp [intRow]
 obtain ⟨av,cv,rfl⟩:=own_slice q2'
 obtain ⟨al,cl,rfl, -, -, -⟩:=hi.open
 have hbase:base≤w.heap.size:=Nat.le_trans hb.ge (Nat.le_of_lt (lt_of_blk hp))
 have HFin:Hid (∀ w1 w2 gr gcap o H,Fr (fun b=>b=g) w w1→w1.heap[g]? = some (.cells (List.replicate (l.length+1) (.int .i64 (-7))).toArray 3 (0,0))→w2.ownsRow base 22 1 (.slice (some ⟨gr,0,none⟩) (vals.length+1) gcap) (vals.length+1) (vals++[.slice (some ⟨g,0,none⟩) (l.length+1) (l.length+1)])→(w1.alloc o).grownBy w2 (Value.slice av vals.length cv).ownBlock→((Value.slice av vals.length cv).ownBlock=some gr∨gr=H)→w.heap.size≤H →
   (∃ cs:List Value,w2.heap[p]? = some (.cells cs.toArray 35 (0,0))∧w2.cell? ⟨p,4,none⟩=some (.slice av vals.length cv))∧Backed base col w p v0 c g (w2.setCell ⟨p,4,none⟩ (.slice (some ⟨gr,0,none⟩) (vals.length+1) gcap))):=fun w1 w2 gr gcap o H hf h7 ho hgr hor hH=>by
  have hsz1:=hf.size
  have hp2:w2.heap[p]? = w.heap[p]? := by
   rw [hgr.block p (by have:=lt_of_blk hp;simp;omega) (fun e=>hvp e.symm),Below.heap_alloc _ _ _ (by have:=lt_of_blk hp;omega),hf.block p (lt_of_blk hp) (fun e=>hgp e.symm)]
  refine ⟨⟨cs,hp2.trans hp,(World.cell?_of_block (w:=w) hp2).trans q1⟩,?_⟩
  refine Backed.push (by decide) (by decide) hb q1 q2 q3 q4 q6 q7 hg hcg hgl hf ho hgr hor hH (m:=l.length+1) ?_ (fun b hb'=>by simpa [Value.ownBlock] using hb'.symm)
  exact replicate_sl h7 (by omega)
 have HRow:Hid (∀ w1,Fr (fun b=>b=g) w w1→w1.ownsRow base 22 1 (.slice av vals.length cv) vals.length vals∧w1.cell? ⟨p,4,none⟩=some (.slice av vals.length cv)):=fun w1 hf=>
  ⟨own_of_blockB q2' fun k hk=>hf.block k (q2'.lt k hk).2 (fun e=>hvg (by rw [← e];exact hk)),(World.cell?_of_block (w:=w) (hf.block p (lt_of_blk hp) (fun e=>hgp e.symm))).trans q1⟩
 have HL:=hide hl
 have hll:(intRow (l++[78])).length=l.length+1:=by simp [intRow]
 have h63:vals.length+1≤maxLen:=by unfold maxLen;omega
 have hbytes:(vals.length+1)*24≤140737488355328:=by omega
 clear hb hl hi hown q1 q2 q2' q3 q4 q5 q6 q7 hp hpl hvg hvp
 generalize intRow (l++[78])=row at *
 generalize hn:l.length=n at *
 clear hn
 generalize vals.length=vn at *
 have hn0:(0:Int)≤(n:Int):=by omega
 have hn1:(n:Int)≤(n:Int)+1:=by omega
 have hn2:(n:Int)<(n:Int)+1:=by omega
 go_enter Tryz.func29,Tryz.ntmps29
 go_wp2_with fail
 refine (unhide HSm).mono ?_
 rintro e w1 ⟨rfl,q,rfl⟩
 have e78:=h78 q
 clear h78 HSm
 go_wp2
 go_loopw [10] (fun i wr=>∃ k:Nat,k≤n+1∧i=.int .i64 k∧Fr (fun b=>b=g) w wr∧wr.heap[g]? = some (.cells (List.replicate k (Value.int .i64 (-7))++row.drop k).toArray 3 (0,0))) (fun i _=>n+1-(intOf i).toNat)
 case atStart=>exact ⟨0,Nat.zero_le _,rfl,(Fr.refl _ w).drewN q,by simpa using HL.out⟩
 case round=>
  clear e78
  obtain ⟨k,hk,rfl,hf,hr⟩:=hrel
  by_cases hlt:k<n+1
  ·have hkr:k<row.length:=by omega
   have c0:=row_cell hr (over_get hkr)
   have f0:=row_frozen hr k
   have HNx:Hid (Fr (fun b=>b=g) w (wr.setCell ⟨g,k,none⟩ (.int .i64 (-7)))∧(wr.setCell ⟨g,k,none⟩ (.int .i64 (-7))).heap[g]? = some (.cells (List.replicate (k+1) (Value.int .i64 (-7))++row.drop (k+1)).toArray 3 (0,0))):=
    ⟨Fr.setCell (S:=fun b=>b=g) hf (p:=⟨g,k,none⟩) (Or.inr rfl) _,setCell_over hr hkr⟩
   have hk0:(0:Int)≤(k:Int):=by omega
   have hk1:(k:Int)<(n:Int)+1:=by omega
   clear hf hr
   generalize row[k]=x at *
   go_wp2
   go_roundw
   case rel=>exact ⟨k+1,by omega,by go_num,HNx.out.1,HNx.out.2⟩
   case measure=>simp [intOf];omega
  ·have hke:k=n+1:=by omega
   subst hke
   have hr':wr.heap[g]? = some (.cells (List.replicate (n+1) (.int .i64 (-7))).toArray 3 (0,0)):=by
    rw [hr,List.drop_of_length_le (by omega),List.append_nil]
   obtain ⟨hro,c4⟩:=HRow.out wr hf
   have hszr:=hf.size
   have HRo:=hide hro
   have HF2:=hide (fun w2 gr gcap o H=>HFin.out wr w2 gr gcap o H hf hr')
   clear hr hr' hf hro HFin HRow HL
   go_wp2_with (at_builtin;refine wpList_append_lies _ rfl (.tmp 39) (.tmp 41) 31 rfl base 22 iI (.slice none 0 0) 1 24 Tryz.underlying31 hiI hI0 hI1 hI2 rfl (by decide) (.slice av vn cv) vn vals rfl (HRo.out.alloc _) ⟨wr.heap.size,0,none⟩ 1 1 [.slice (some ⟨g,0,none⟩) (n+1) (n+1)] rfl rfl ?c1 ?c2 (by decide) h63 hbytes (by simp;omega) (wr.heap.size+1) (by simp) ?_)
   (try case c1=>exact cell_one_new _ _ _)
   case c2=>first | rfl | (intro u hu;simp at hu;subst hu;rfl)
   intro gr gc w2 ho hgr hor hglt
   obtain ⟨⟨cs2,y1,y2⟩,y3⟩:=HF2.out w2 gr gc _ _ ho hgr hor (by omega)
   have yf:=row_frozen y1 4
   have Y3:=hide y3
   clear ho hgr hor hglt HF2 y1 y3 c4 HRo
   go_wp2
   go_ret
   exact ⟨rfl,Y3.out⟩
structure TurnS (base:Nat) (col col':Nat→Nat) (S:Nat→Prop) (w w':World):Prop where
 fr:Fr (fun b=>base≤b∧(col b≤8∨S b)) w w'
 old:∀ b,b<w.heap.size→¬ S b→col' b=col b
 new:∀ b,w.heap.size≤b→col' b≤8
theorem TurnS.refl (base:Nat) (col:Nat→Nat) (w:World) (h:∀ b,w.heap.size≤b→col b≤8):TurnS base col col (fun _=>False) w w:=⟨Fr.refl _ _,fun _ _ _=>rfl,h⟩
theorem TurnS.keep {base:Nat} {col col':Nat→Nat} {S:Nat→Prop} {w w':World} (h:TurnS base col col' S w w') {b:Nat} (hb:b<w.heap.size) (hc:8<col b) (hs:¬ S b):w'.heap[b]? = w.heap[b]? :=
 h.fr.block b hb fun e=>by
  rcases e.2 with e | e
  ·omega
  ·exact hs e
theorem TurnS.mono {base:Nat} {col col':Nat→Nat} {S T:Nat→Prop} {w w':World} (h:TurnS base col col' S w w') (hs:∀ b,S b→T b):TurnS base col col' T w w':=
 ⟨h.fr.mono fun b _ hb=>⟨hb.1,hb.2.imp id (hs b)⟩,fun b hb hn=>h.old b hb fun e=>hn (hs b e),h.new⟩
theorem TurnS.back {base:Nat} {col c1:Nat→Nat} {S:Nat→Prop} {w w1 w2:World} {p:Nat} {v0:Value} {c g:Nat} (h:TurnS base col c1 S w w1) (hb:Backed base c1 w1 p v0 c g w2) (hg:base≤g) (hgl:g<w.heap.size):∃ c2,Bk base c2 w2 p v0 (c+1)∧TurnS base col c2 (fun b=>S b∨b=g) w w2∧∀ b,b<w1.heap.size→b≠g→c2 b=c1 b:=by
 obtain ⟨c2,q1,q2,q3,q4⟩:=hb.ex
 have hsz:=h.fr.size
 refine ⟨c2,q1,⟨?_,fun b hb' hn=>?_,fun b hb'=>?_⟩,q2⟩
 ·refine (h.fr.mono (T:=fun b=>base≤b∧(col b≤8∨(S b∨b=g))) fun b _ hb'=>⟨hb'.1,hb'.2.imp id Or.inl⟩).trans hb.fr fun b hb' hx=>?_
  rcases hx with rfl | ⟨hx1,hx2⟩
  ·exact ⟨hg,Or.inr (Or.inr rfl)⟩
  ·refine ⟨hx1,?_⟩
   by_cases hs:S b
   ·exact Or.inr (Or.inl hs)
   ·rw [h.old b hb' hs] at hx2;exact Or.inl hx2
 ·rw [q2 b (by omega) (fun e=>hn (Or.inr e)),h.old b hb' (fun e=>hn (Or.inl e))]
 ·rcases Nat.lt_or_ge b w1.heap.size with h1 | h1
  ·rw [q2 b h1 (by omega)];exact h.new b hb'
  ·exact q3 b h1
theorem TurnS.write {base:Nat} {col c1:Nat→Nat} {S:Nat→Prop} {w w1 w2:World} {g:Nat} (h:TurnS base col c1 S w w1) (hf:Fr (fun b=>b=g) w1 w2) (hg:base≤g):TurnS base col c1 (fun b=>S b∨b=g) w w2:=by
 refine ⟨?_,fun b hb hn=>h.old b hb fun e=>hn (Or.inl e),h.new⟩
 refine (h.fr.mono (T:=fun b=>base≤b∧(col b≤8∨(S b∨b=g))) fun b _ hb'=>⟨hb'.1,hb'.2.imp id Or.inl⟩).trans hf fun b _ hx=>?_
 subst hx
 exact ⟨hg,Or.inr (Or.inr rfl)⟩
theorem BkM.write {md:Nat→Nat} {base:Nat} {col:Nat→Nat} {w w':World} {p:Nat} {v0:Value} {c g:Nat} (h:BkM md base col w p v0 c) (hf:Fr (fun b=>b=g) w w') (hg:8<col g):BkM md base col w' p v0 c:=
 h.frame (fun b hb hc=>hf.block b hb fun e=>by rw [e] at hc;omega) (fun _ _ _=>rfl) h.low hf.size (Nat.le_refl _)
def LoanFoot (L:LoanL) (n:Net) (b:Nat):Prop:=
 b=L.q∨b=L.gs∨b=L.gr∨b=L.gw∨L.vW.ownBlock=some b∨L.vC.ownBlock=some b∨(∃ t,t<n.sources.length∧b=L.G t)∨(∃ t,t<n.workers.length∧b=L.C t)
theorem LoanAt.foot_lt {B:Nat} {L:LoanL} {w:World} {n:Net} (h:LoanAt B L w n) {b:Nat} (hb:LoanFoot L n b):B≤b∧b<w.heap.size:=by
 obtain ⟨g1,g2,g3,g4⟩:=h.ge
 obtain ⟨csr,hcr⟩:=h.src.blk
 obtain ⟨csw,hcw⟩:=h.wks.blk
 rcases hb with rfl | rfl | rfl | rfl | hb | hb | ⟨t,ht,rfl⟩ | ⟨t,ht,rfl⟩
 ·exact ⟨g1,lt_of_blk h.blk⟩
 ·exact ⟨g2,lt_of_blk h.str.blk⟩
 ·exact ⟨g3,lt_of_blk hcr⟩
 ·exact ⟨g4,lt_of_blk hcw⟩
 ·exact h.words.row.lt b hb
 ·exact h.codes.row.lt b hb
 ·exact ⟨h.words.ge t ht,lt_of_blk (h.words.words t ht).blk⟩
 ·exact ⟨h.codes.ge t ht,lt_of_blk (h.codes.codes t ht)⟩
def turned (L:LoanL) (i j:Nat) (b:Nat):Prop:=b=L.gs∨(∃ t,t<i∧b=L.G t)∨(∃ t,t<j∧b=L.C t)
structure LoanNe (L:LoanL) (n:Net):Prop where
 q:∀ i j,i≤n.sources.length→j≤n.workers.length→¬ turned L i j L.q
 gr:∀ i j,i≤n.sources.length→j≤n.workers.length→¬ turned L i j L.gr
 gw:∀ i j,i≤n.sources.length→j≤n.workers.length→¬ turned L i j L.gw
 vW:∀ i j,i≤n.sources.length→j≤n.workers.length→∀ b,L.vW.ownBlock=some b→¬ turned L i j b
 vC:∀ i j,i≤n.sources.length→j≤n.workers.length→∀ b,L.vC.ownBlock=some b→¬ turned L i j b
 g:∀ i,i<n.sources.length→¬ turned L i 0 (L.G i)
 c:∀ j,j<n.workers.length→¬ turned L n.sources.length j (L.C j)
 rw:L.gr≠L.gw
 qr:L.q≠L.gr
 qw:L.q≠L.gw
theorem LoanAt.ne_all {B:Nat} {L:LoanL} {w:World} {n:Net} (h:LoanAt B L w n):LoanNe L n:=by
 obtain ⟨csr,hcr⟩:=h.src.blk
 obtain ⟨csw,hcw⟩:=h.wks.blk
 have key:∀ b cs t,w.heap[b]? = some (.cells cs t (0,0))→t≠3→t≠44→∀ i j,i≤n.sources.length→j≤n.workers.length→¬ turned L i j b:=fun b cs t hb h1 h2 i j hi hj ht=>by
  rcases ht with rfl | ⟨s,hs,rfl⟩ | ⟨s,hs,rfl⟩
  ·exact ne_of_types hb h.str.blk h1 rfl
  ·exact ne_of_types hb (h.words.words s (by omega)).blk h1 rfl
  ·exact ne_of_types hb (h.codes.codes s (by omega)) h2 rfl
 refine ⟨key _ _ _ h.blk (by decide) (by decide),key _ _ _ hcr (by decide) (by decide),key _ _ _ hcw (by decide) (by decide),fun i j hi hj b hb=>?_,fun i j hi hj b hb=>?_,fun i hi ht=>?_,fun j hj ht=>?_,ne_of_types hcr hcw (by decide),ne_of_types h.blk hcr (by decide),ne_of_types h.blk hcw (by decide)⟩
 ·obtain ⟨cur,hc⟩:=own_blockB h.words.row hb
  exact key _ _ _ hc (by decide) (by decide) i j hi hj
 ·obtain ⟨cur,hc⟩:=own_blockB h.codes.row hb
  exact key _ _ _ hc (by decide) (by decide) i j hi hj
 ·rcases ht with e | ⟨s,hs,e⟩ | ⟨s,hs,e⟩
  ·exact h.words.ne i hi e.symm
  ·exact h.words.inj s i hs hi e.symm
  ·omega
 ·have hc:=h.codes.codes j hj
  rcases ht with e | ⟨s,hs,e⟩ | ⟨s,hs,e⟩
  ·exact ne_of_types hc h.str.blk (by decide) e
  ·exact ne_of_types hc (h.words.words s hs).blk (by decide) e
  ·exact h.codes.inj s j hs hj e.symm
structure Ret (base:Nat) (col:Nat→Nat) (w:World) (p:Nat) (v0:Value) (c:Nat) (L:LoanL) (i j:Nat) (wr:World):Prop where
 ex:∃ col',Bk base col' wr p v0 (c+1+i+j)∧TurnS base col col' (turned L i j) w wr
theorem turned_g {L:LoanL} {i j b:Nat} (h:turned L i j b∨b=L.G i):turned L (i+1) j b:=by
 rcases h with (h | ⟨t,ht,e⟩ | h) | h
 ·exact Or.inl h
 ·exact Or.inr (Or.inl ⟨t,by omega,e⟩)
 ·exact Or.inr (Or.inr h)
 ·exact Or.inr (Or.inl ⟨i,by omega,h⟩)
theorem turned_c {L:LoanL} {i j b:Nat} (h:turned L i j b∨b=L.C j):turned L i (j+1) b:=by
 rcases h with (h | h | ⟨t,ht,e⟩) | h
 ·exact Or.inl h
 ·exact Or.inr (Or.inl h)
 ·exact Or.inr (Or.inr ⟨t,by omega,e⟩)
 ·exact Or.inr (Or.inr ⟨j,by omega,h⟩)
theorem Ret.keep {base:Nat} {col:Nat→Nat} {w:World} {p:Nat} {v0:Value} {c:Nat} {L:LoanL} {i j:Nat} {wr:World} (h:Ret base col w p v0 c L i j wr) {b:Nat} (hb:b<w.heap.size) (hc:8<col b) (hs:¬ turned L i j b):wr.heap[b]? = w.heap[b]? := by
 obtain ⟨c', -,h2⟩:=h.ex
 exact h2.keep hb hc hs
theorem Ret.drewN {base:Nat} {col:Nat→Nat} {w:World} {p:Nat} {v0:Value} {c:Nat} {L:LoanL} {i j:Nat} {wr:World} (h:Ret base col w p v0 c L i j wr) (q:Nat):Ret base col w p v0 c L i j (wr.drewN q):=by
 obtain ⟨c',h1,h2⟩:=h.ex
 exact ⟨c',h1.below (below_drewN (Below.refl _ _) q),⟨h2.fr.drewN q,h2.old,h2.new⟩⟩
theorem Ret.backG {base B:Nat} {col:Nat→Nat} {w:World} {p:Nat} {v0:Value} {c:Nat} {L:LoanL} {n:Net} {i:Nat} {wr:World} {vl:Value} (h:Ret base col w p v0 c L i 0 wr) (hL:LoanAt B L w n) (hB:base≤B) (hcol:∀ b,LoanFoot L n b→col b=20) (hi:i<n.sources.length) (hs:ShortNet n) (hv:IntsAt wr vl (wordsOf n i)) (hc:c+1+i≤1099511627776) :
  Calls Tryz.prog 29 #[.pointer (some ⟨p,0,none⟩),.slice (some ⟨L.G i,0,none⟩) ((wordsOf n i).length+1) ((wordsOf n i).length+1),vl] wr fun e w'=>e=.returned (.bool true)∧Ret base col w p v0 c L (i+1) 0 w':=by
 obtain ⟨c',h1,h2⟩:=h.ex
 have hfoot:LoanFoot L n (L.G i):=Or.inr (Or.inr (Or.inr (Or.inr (Or.inr (Or.inr (Or.inl ⟨i,hi,rfl⟩))))))
 obtain ⟨g1,g2⟩:=hL.foot_lt hfoot
 have h20:=hcol _ hfoot
 have hnt:=hL.ne_all.g i hi
 have hk:=h2.keep g2 (by omega) hnt
 have hc1:c' (L.G i)=20:=(h2.old _ g2 hnt).trans h20
 have hl:(wordsOf n i).length≤1048576:=by unfold wordsOf;rw [getD_eq _ _ _ hi];exact (hs.2.2.2.1 _ (List.getElem_mem hi)).1
 refine (backInts_calls h1 (hk.trans (hL.words.words i hi).blk) (by omega) (by omega) hv hl (by omega)).mono fun e w' ⟨q1,q2⟩=>⟨q1,?_⟩
 obtain ⟨c2,r1,r2, -⟩:=h2.back q2 (by omega) g2
 refine ⟨c2,?_,r2.mono fun b hb=>turned_g hb⟩
 have e:c+1+(i+1)+0=c+1+i+0+1:=by omega
 rw [e];exact r1
theorem Ret.start {base B:Nat} {col:Nat→Nat} {w:World} {p:Nat} {v0:Value} {c:Nat} {L:LoanL} {n:Net} {wr:World} {vl:Value} (hb:Bk base col wr p v0 c) (h0:TurnS base col col (fun _=>False) w wr) (hL:LoanAt B L w n) (hB:base≤B) (hcol:∀ b,LoanFoot L n b→col b=20) (hs:ShortNet n) (hv:IntsAt wr vl n.streams) (hc:c≤1099511627776) :
  Calls Tryz.prog 29 #[.pointer (some ⟨p,0,none⟩),.slice (some ⟨L.gs,0,none⟩) (n.streams.length+1) (n.streams.length+1),vl] wr fun e w'=>e=.returned (.bool true)∧Ret base col w p v0 c L 0 0 w':=by
 have hfoot:LoanFoot L n L.gs:=Or.inr (Or.inl rfl)
 obtain ⟨g1,g2⟩:=hL.foot_lt hfoot
 have h20:=hcol _ hfoot
 have hk:=h0.keep g2 (by omega) (fun e=>e)
 refine (backInts_calls hb (hk.trans hL.str.blk) (by omega) (by omega) hv hs.1 hc).mono fun e w' ⟨q1,q2⟩=>⟨q1,?_⟩
 obtain ⟨c2,r1,r2, -⟩:=h0.back q2 (by omega) g2
 exact ⟨c2,r1,r2.mono fun b hb=>hb.elim False.elim Or.inl⟩
theorem flat_length (l:List Value):∀ n,((List.replicate n l).flatten).length=n*l.length
 | 0=>by simp
 | n+1=>by rw [List.replicate_succ,List.flatten_cons,List.length_append,flat_length l n,Nat.add_mul];omega
theorem flat_get (l:List Value):∀ (n i j:Nat),i<n→j<l.length→((List.replicate n l).flatten)[i*l.length+j]? = l[j]?
 | 0,i,j,h,_=>by omega
 | n+1,0,j,_,hj=>by
  rw [List.replicate_succ,List.flatten_cons,Nat.zero_mul,Nat.zero_add,List.getElem?_append_left hj]
 | n+1,i+1,j,h,hj=>by
  rw [List.replicate_succ,List.flatten_cons,List.getElem?_append_right (by rw [Nat.add_mul];omega)]
  have e:(i+1)*l.length+j-l.length=i*l.length+j:=by rw [Nat.add_mul];omega
  rw [e]
  exact flat_get l n i j (by omega) hj
theorem flat_succ (l:List Value) (n:Nat):(List.replicate (n+1) l).flatten=(List.replicate n l).flatten++l:=by
 rw [List.replicate_succ',List.flatten_append]
 simp
theorem over_set2 {cs:List Value} {t:Nat} {x y:Value} (h:t*2+2≤cs.length):(((List.replicate t [x,y]).flatten++cs.drop (t*2)).set (t*2) x).set (t*2+1) y=(List.replicate (t+1) [x,y]).flatten++cs.drop ((t+1)*2):=by
 have hl:=flat_length [x,y] t
 simp only [List.length_cons,List.length_nil,Nat.zero_add] at hl
 rw [flat_succ]
 generalize (List.replicate t [x,y]).flatten=A at *
 have hd:cs.drop (t*2)=cs[t*2]'(by omega)::cs[t*2+1]'(by omega)::cs.drop ((t+1)*2):=by
  rw [List.drop_eq_getElem_cons (by omega),List.drop_eq_getElem_cons (by omega)]
  congr 3;omega
 rw [hd,List.set_append_right _ _ (by omega),List.set_append_right _ _ (by omega)]
 have e0:t*2-A.length=0:=by omega
 have e1:t*2+1-A.length=1:=by omega
 rw [e0,e1]
 simp
theorem over_set4 {cs:List Value} {t:Nat} {x y z u:Value} (h:t*4+4≤cs.length):(((((List.replicate t [x,y,z,u]).flatten++cs.drop (t*4)).set (t*4) x).set (t*4+1) y).set (t*4+2) z).set (t*4+3) u=(List.replicate (t+1) [x,y,z,u]).flatten++cs.drop ((t+1)*4):=by
 have hl:=flat_length [x,y,z,u] t
 simp only [List.length_cons,List.length_nil,Nat.zero_add] at hl
 rw [flat_succ]
 generalize (List.replicate t [x,y,z,u]).flatten=A at *
 have hd:cs.drop (t*4)=cs[t*4]'(by omega)::cs[t*4+1]'(by omega)::cs[t*4+2]'(by omega)::cs[t*4+3]'(by omega)::cs.drop ((t+1)*4):=by
  rw [List.drop_eq_getElem_cons (by omega),List.drop_eq_getElem_cons (by omega),List.drop_eq_getElem_cons (by omega),List.drop_eq_getElem_cons (by omega)]
  congr 5;omega
 rw [hd,List.set_append_right _ _ (by omega),List.set_append_right _ _ (by omega),List.set_append_right _ _ (by omega),List.set_append_right _ _ (by omega)]
 have e0:t*4-A.length=0:=by omega
 have e1:t*4+1-A.length=1:=by omega
 have e2:t*4+2-A.length=2:=by omega
 have e3:t*4+3-A.length=3:=by omega
 rw [e0,e1,e2,e3]
 simp
theorem over_at {cs l:List Value} {t i:Nat} (hi:i<cs.length) (ht:t*l.length≤i):((List.replicate t l).flatten++cs.drop (t*l.length))[i]? = some cs[i]:=by
 have hl:=flat_length l t
 rw [List.getElem?_append_right (by omega),hl,List.getElem?_drop]
 have e:t*l.length+(i-t*l.length)=i:=by omega
 rw [e]
 exact List.getElem?_eq_getElem hi
theorem flat_sl {w:World} {g n:Nat} {l:List Value} {t:TypeId} {f:Nat→Nat→Value} (h:w.heap[g]? = some (.cells (List.replicate n l).flatten.toArray t (0,0))) (hn:n≤140737488355328) (hf:∀ i j,j<l.length→l[j]? = some (f i j)):Sl w (.slice (some ⟨g,0,none⟩) n n) n l.length f:=by
 refine ⟨_,_,rfl,hn,Nat.le_refl _,Or.inr ⟨g,0,rfl,fun i hi j hj=>?_⟩⟩
 refine row_cell h ?_
 rw [Nat.zero_add,flat_get l n i j hi hj]
 exact hf i j hj
theorem eqIns (a b c d:Int) (w:World):(Op.equalIn 10000 44 (.agg #[.int .i64 a,.int .i64 b,.int .i64 c,.int .i64 d]) (.agg #[.int .i64 a,.int .i64 b,.int .i64 c,.int .i64 d])).run Tryz.prog w=.ok true w:=by
 have u3:=Tryz.underlying3
 have i3:=Tryz.isAgg3
 have z3:=Tryz.sizeOf3
 have hS:Tryz.prog.underlying 44=some (.struct (Tryz.prog.fieldsOf 44)):=by kernel_rfl
 have hp:Tryz.prog.stoodInHeld 44=false:=Tryz.stoodInHeld44
 rw [show (10000:Nat)=9999+1 from rfl,run_equalIn_agg w 9999 44 _ _ hS hp]
 simp only [Program.fieldsOf,Tryz.underlying44]
 go_simp
theorem LoanAt.below {B:Nat} {L:LoanL} {w w':World} {n:Net} (h:LoanAt B L w n) (hb:Below w.heap.size w w'):LoanAt B L w' n:=by
 have hk:∀ b,b<w.heap.size→w'.heap[b]? = w.heap[b]? := fun b h=>hb.block b h
 obtain ⟨csr,hcr⟩:=h.src.blk
 obtain ⟨csw,hcw⟩:=h.wks.blk
 exact ⟨(hk _ (lt_of_blk h.blk)).trans h.blk,h.str.frame (hk _ (lt_of_blk h.str.blk)),h.words.frame (fun g hg=>hk g (h.words.row.lt g hg).2) (fun t ht=>hk _ (lt_of_blk (h.words.words t ht).blk)),h.src.frame (hk _ (lt_of_blk hcr)),
  h.codes.frame (fun g hg=>hk g (h.codes.row.lt g hg).2) (fun t ht=>hk _ (lt_of_blk (h.codes.codes t ht))),h.wks.frame (hk _ (lt_of_blk hcw)),h.ne,h.ge⟩
def boxed (col:Nat→Nat) (n:Nat):Nat→Nat:=fun b=>if b=n then 21 else if b<n then col b else 8
theorem boxed_box (col:Nat→Nat) (n:Nat):boxed col n n=21:=by simp [boxed]
theorem boxed_old (col:Nat→Nat) (n b:Nat) (h:b<n):boxed col n b=col b:=by
 have:b≠n:=by omega
 simp [boxed,this,h]
theorem boxed_new (col:Nat→Nat) (n b:Nat) (h:n<b):boxed col n b=8:=by
 have h1:b≠n:=by omega
 have h2:¬ b<n:=by omega
 simp [boxed,h1,h2]
structure Turned (base:Nat) (col col':Nat→Nat) (w w':World):Prop where
 fr:Fr (fun b=>base≤b∧col b≤20) w w'
 old:∀ b,b<w.heap.size→20<col b→col' b=col b
 new:∀ b,w.heap.size≤b→col' b<30
structure Back (base B:Nat) (col:Nat→Nat) (w w1:World) (p:Nat) (v0:Value) (c:Nat) (L:LoanL) (n:Net) (vs vr vw:Value):Prop where
 bk:Bk base (boxed col w.heap.size) w1 p v0 c
 turn:TurnS base (boxed col w.heap.size) (boxed col w.heap.size) (fun _=>False) w1 w1
 loan:LoanAt B L w1 n
 col20:∀ b,LoanFoot L n b→boxed col w.heap.size b=20∧b<w.heap.size
 net:∀ i j wr,i≤n.sources.length→j≤n.workers.length→Ret base (boxed col w.heap.size) w1 p v0 c L i j wr→NetAt wr (.agg #[vs,vr,vw]) n∧wr.heap[w.heap.size]? = some (.cells #[vs,vr,vw] 26 (0,0))
 fin:∀ i j c' wr,i≤n.sources.length→j≤n.workers.length→TurnS base (boxed col w.heap.size) c' (fun b=>turned L i j b∨b=L.gr∨b=L.gw) w1 wr→Turned base col c' w wr
theorem turned_foot {L:LoanL} {n:Net} {i j b:Nat} (hi:i≤n.sources.length) (hj:j≤n.workers.length) (h:turned L i j b):LoanFoot L n b:=by
 rcases h with h | ⟨t,ht,h⟩ | ⟨t,ht,h⟩
 ·exact Or.inr (Or.inl h)
 ·exact Or.inr (Or.inr (Or.inr (Or.inr (Or.inr (Or.inr (Or.inl ⟨t,by omega,h⟩))))))
 ·exact Or.inr (Or.inr (Or.inr (Or.inr (Or.inr (Or.inr (Or.inr ⟨t,by omega,h⟩))))))
theorem back_open {base B:Nat} {col:Nat→Nat} {w:World} {p:Nat} {v0:Value} {c:Nat} {L:LoanL} {n:Net} {vs vr vw:Value} (hb:Bk base col w p v0 c) (hL:LoanAt B L w n) (hcol:∀ b,LoanFoot L n b→col b=20)
  (hn:∀ wx,Fr (fun b=>base≤b∧col b≤20) w wx→NetAt wx (.agg #[vs,vr,vw]) n):Back base B col w (w.alloc (.cells #[vs,vr,vw] 26)) p v0 c L n vs vr vw:=by
 have hbl:Below w.heap.size w (w.alloc (.cells #[vs,vr,vw] 26)):=(Below.refl _ _).alloc (Nat.le_refl _) _
 obtain ⟨cs,hp, -⟩:=hb.blk
 have hbase:base≤w.heap.size:=Nat.le_trans hb.ge (Nat.le_of_lt (lt_of_blk hp))
 have hft:∀ b,LoanFoot L n b→boxed col w.heap.size b=20∧b<w.heap.size:=fun b h=>by
  have:=(hL.foot_lt h).2
  exact ⟨(boxed_old _ _ _ this).trans (hcol b h),this⟩
 have hsz:(w.alloc (.cells #[vs,vr,vw] 26)).heap.size=w.heap.size+1:=by simp
 refine ⟨?_,?_,hL.below hbl,hft,fun i j wr hi hj h=>?_,fun i j c' wr hi hj h=>?_⟩
 ·exact hb.frame (fun b h _=>hbl.block b h) (fun b h _=>boxed_old _ _ _ h) (fun b h=>by rw [boxed_old _ _ _ (by omega)];exact hb.low b h) hbl.size (Nat.le_refl _)
 ·refine TurnS.refl _ _ _ fun b h=>?_
  rw [boxed_new _ _ _ (by rw [hsz] at h;omega)];omega
 ·obtain ⟨c', -,h2⟩:=h.ex
  refine ⟨hn wr ?_,?_⟩
  ·refine (Fr.of_below hbl).trans h2.fr fun b hb' hx=>⟨hx.1,?_⟩
   rcases hx.2 with hx | hx
   ·rw [boxed_old _ _ _ hb'] at hx;omega
   ·have:=hft b (turned_foot hi hj hx)
    rw [boxed_old _ _ _ hb'] at this;omega
  ·rw [h2.keep (by rw [hsz];omega) (by rw [boxed_box];omega) (fun e=>by have:=hft _ (turned_foot hi hj e);omega)]
   exact heapNew rfl
 ·refine ⟨?_,fun b hb' hx=>?_,fun b hb'=>?_⟩
  ·refine (Fr.of_below hbl).trans h.fr fun b hb' hx=>⟨hx.1,?_⟩
   have ho:=boxed_old col w.heap.size b hb'
   rcases hx.2 with hx | hx | rfl | rfl
   ·rw [ho] at hx;omega
   ·have:=(hft b (turned_foot hi hj hx)).1;omega
   ·have:=(hft L.gr (Or.inr (Or.inr (Or.inl rfl)))).1;omega
   ·have:=(hft L.gw (Or.inr (Or.inr (Or.inr (Or.inl rfl))))).1;omega
  ·have ho:=boxed_old col w.heap.size b hb'
   rw [h.old b (by rw [hsz];omega) (fun e=>?_),ho]
   rcases e with e | rfl | rfl
   ·have:=(hft b (turned_foot hi hj e)).1;omega
   ·have:=(hft L.gr (Or.inr (Or.inr (Or.inl rfl)))).1;omega
   ·have:=(hft L.gw (Or.inr (Or.inr (Or.inr (Or.inl rfl))))).1;omega
  ·by_cases e:b=w.heap.size
   ·subst e
    rw [h.old _ (by rw [hsz];omega) (fun e=>?_),boxed_box]
    ·omega
    ·rcases e with e | e | e
     ·have:=(hft _ (turned_foot hi hj e)).2;omega
     ·have:=(hft L.gr (Or.inr (Or.inr (Or.inl rfl)))).2;omega
     ·have:=(hft L.gw (Or.inr (Or.inr (Or.inr (Or.inl rfl))))).2;omega
   ·have:=h.new b (by rw [hsz];omega)
    omega
structure LoanRd (L:LoanL) (n:Net) (wr:World):Prop where
 c3:wr.cell? ⟨L.q,3,none⟩=some (.slice (some ⟨L.gs,0,none⟩) (n.streams.length+1) (n.streams.length+1))
 c4:wr.cell? ⟨L.q,4,none⟩=some L.vW
 c5:wr.cell? ⟨L.q,5,none⟩=some (.slice (some ⟨L.gr,0,none⟩) (n.sources.length+1) (n.sources.length+1))
 c6:wr.cell? ⟨L.q,6,none⟩=some L.vC
 c7:wr.cell? ⟨L.q,7,none⟩=some (.slice (some ⟨L.gw,0,none⟩) (n.workers.length+1) (n.workers.length+1))
theorem Back.rd {base B:Nat} {col:Nat→Nat} {w w1:World} {p:Nat} {v0:Value} {c:Nat} {L:LoanL} {n:Net} {vs vr vw:Value} (h:Back base B col w w1 p v0 c L n vs vr vw) {wr:World} (hk:wr.heap[L.q]? = w1.heap[L.q]?):LoanRd L n wr:=by
 have hq:=hk.trans h.loan.blk
 exact ⟨(blk_cell (l:=[_,_,_,_,_,_,_,_]) hq 3 _ rfl).1,(blk_cell (l:=[_,_,_,_,_,_,_,_]) hq 4 _ rfl).1,(blk_cell (l:=[_,_,_,_,_,_,_,_]) hq 5 _ rfl).1,(blk_cell (l:=[_,_,_,_,_,_,_,_]) hq 6 _ rfl).1,(blk_cell (l:=[_,_,_,_,_,_,_,_]) hq 7 _ rfl).1⟩
theorem Back.keep {base B:Nat} {col:Nat→Nat} {w w1:World} {p:Nat} {v0:Value} {c:Nat} {L:LoanL} {n:Net} {vs vr vw:Value} (h:Back base B col w w1 p v0 c L n vs vr vw) {i j:Nat} {wr:World} (hr:Ret base (boxed col w.heap.size) w1 p v0 c L i j wr) {b:Nat} (hf:LoanFoot L n b) (hn:¬ turned L i j b):wr.heap[b]? = w1.heap[b]? :=
 hr.keep (h.loan.foot_lt hf).2 (by rw [(h.col20 b hf).1];omega) hn
theorem push_open {base:Nat} {col c1:Nat→Nat} {S:Nat→Prop} {w wA:World} {p:Nat} {v0:Value} {C g r m:Nat} {u:Value} (hb:Bk base c1 wA p v0 C) (ht:TurnS base col c1 S w wA) (hr3:3≤r) (hr7:r≤7) (hg:base≤g) (hgl:g<w.heap.size) (hcg:8<c1 g) (hu:∀ i,Sl wA u m (rowSz r) (rowF r i)) (hug:∀ b,u.ownBlock=some b→b=g) :
  ∃ av cv vals,vals.length≤C∧wA.cell? ⟨p,r,none⟩=some (.slice av vals.length cv)∧wA.ownsRow base (rowT r) 1 (.slice av vals.length cv) vals.length vals∧base≤wA.heap.size∧p<wA.heap.size ∧
   ∀ w2 gr gcap o H,w2.ownsRow base (rowT r) 1 (.slice (some ⟨gr,0,none⟩) (vals.length+1) gcap) (vals.length+1) (vals++[u])→(wA.alloc o).grownBy w2 (Value.slice av vals.length cv).ownBlock→((Value.slice av vals.length cv).ownBlock=some gr∨gr=H)→wA.heap.size≤H →
    (w2.cell? ⟨p,r,none⟩=some (.slice av vals.length cv)∧w2.frozen? ⟨p,r,none⟩=false)∧∃ c2,Bk base c2 (w2.setCell ⟨p,r,none⟩ (.slice (some ⟨gr,0,none⟩) (vals.length+1) gcap)) p v0 (C+1)∧TurnS base col c2 (fun b=>S b∨b=g) w (w2.setCell ⟨p,r,none⟩ (.slice (some ⟨gr,0,none⟩) (vals.length+1) gcap)) ∧
     ∀ b,b<wA.heap.size→8<c1 b→(b≠g→c2 b=c1 b)∧(w2.setCell ⟨p,r,none⟩ (.slice (some ⟨gr,0,none⟩) (vals.length+1) gcap)).heap[b]? = wA.heap[b]? := by
 obtain ⟨v,vals,q1,q2,q3,q4,q5,q6,q7⟩:=(hb.rows r (by omega) hr7).ex
 obtain ⟨av,cv,rfl⟩:=own_slice q2
 obtain ⟨cs,hp,hl⟩:=hb.blk
 have hpl:=lt_of_blk hp
 have hglA:g<wA.heap.size:=Nat.lt_of_lt_of_le hgl ht.fr.size
 have hvp:(Value.slice av vals.length cv).ownBlock≠some p:=fun e=>by have:=q3 p e;rw [hb.colp] at this;omega
 refine ⟨av,cv,vals,q4,q1,q2,Nat.le_trans hb.ge (Nat.le_of_lt hpl),hpl,fun w2 gr gcap o H ho hgr hor hH=>?_⟩
 have hp2:w2.heap[p]? = wA.heap[p]? := by
  rw [hgr.block p (by simp;omega) (fun e=>hvp e.symm),Below.heap_alloc _ _ _ hpl]
 refine ⟨⟨(World.cell?_of_block (w:=wA) hp2).trans q1,row_frozen (hp2.trans hp) r⟩,?_⟩
 obtain ⟨c2,x1,x2,x3⟩:=ht.back (Backed.push hr3 hr7 hb q1 q2 q3 q4 q6 q7 hg hcg hglA (Fr.refl _ _) ho hgr hor hH (hu vals.length) hug) hg hgl
 refine ⟨c2,x1,x2,fun b hb1 hb8=>⟨x3 b hb1,?_⟩⟩
 have hbv:(Value.slice av vals.length cv).ownBlock≠some b:=fun e=>by have:=q3 b e;omega
 rw [heap_setCell_other _ _ _ _ (show b≠p from fun e=>by rw [e,hb.colp] at hb8;omega),hgr.block b (by simp;omega) (fun e=>hbv e.symm),Below.heap_alloc _ _ _ hb1]
structure Last (base:Nat) (col:Nat→Nat) (w:World) (p:Nat) (v0:Value) (c:Nat) (L:LoanL) (n:Net) (wc:World):Prop where
 c7:wc.cell? ⟨L.q,7,none⟩=some (.slice (some ⟨L.gw,0,none⟩) (n.workers.length+1) (n.workers.length+1))
 ex:∃ av cv vals,vals.length≤c+1+n.sources.length+n.workers.length+1∧wc.cell? ⟨p,6,none⟩=some (.slice av vals.length cv)∧wc.drew.ownsRow base 24 1 (.slice av vals.length cv) vals.length vals∧base≤wc.heap.size∧p<wc.heap.size ∧
  ∀ w3 gr3 gcap3 o3 H3,w3.ownsRow base 24 1 (.slice (some ⟨gr3,0,none⟩) (vals.length+1) gcap3) (vals.length+1) (vals++[.slice (some ⟨L.gw,0,none⟩) (n.workers.length+1) (n.workers.length+1)])→(wc.drew.alloc o3).grownBy w3 (Value.slice av vals.length cv).ownBlock→((Value.slice av vals.length cv).ownBlock=some gr3∨gr3=H3)→wc.heap.size≤H3 →
   (w3.cell? ⟨p,6,none⟩=some (.slice av vals.length cv)∧w3.frozen? ⟨p,6,none⟩=false)∧∃ col',Bk base col' (w3.setCell ⟨p,6,none⟩ (.slice (some ⟨gr3,0,none⟩) (vals.length+1) gcap3)) p v0 (c+n.sources.length+n.workers.length+3)∧Turned base col col' w (w3.setCell ⟨p,6,none⟩ (.slice (some ⟨gr3,0,none⟩) (vals.length+1) gcap3))
end Go.Proofs.YthfdgdfnflilfaaGreatDoor

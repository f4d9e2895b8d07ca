/- Part 24: RefN1, RefN2, RefN3, RefS1, RefS2, RefS3. -/
import Derived.Deep.CutRange
import Derived.Deep.RegionLaw
import Derived.Deep.AppendLies
import Derived.Deep.Cut
import Derived.Test.YthfdgdfnflilfaaGreatDoorPart1
import Derived.Test.YthfdgdfnflilfaaGreatDoorPart7
import Derived.Test.YthfdgdfnflilfaaGreatDoorPart9
import Derived.Test.YthfdgdfnflilfaaGreatDoorPart10
import Derived.Test.YthfdgdfnflilfaaGreatDoorPart11
import Derived.Test.YthfdgdfnflilfaaGreatDoorPart13
import Derived.Test.YthfdgdfnflilfaaGreatDoorPart18
namespace Go.Proofs.YthfdgdfnflilfaaGreatDoor
open Go.RowKit Go.Conc
def sCells (N:Net) (m:Sm) (s:Nat) (vw:Value):List Value:=[.bool (srcd N s),.bool (used N s),vw,.int .i64 m.read,.int .i64 m.room]
def wCells (vc:Value) (x:Wk):List Value:=[vc,.int .i64 x.place,.int .i64 (x.r 0),.int .i64 (x.r 1),.int .i64 (x.r 2),.int .i64 (x.r 3),.int .i64 x.steps]
structure RLay where
 p:Nat
 gS:Nat
 gW:Nat
 cS:Nat
 cW:Nat
 VW:Nat→Value
 VC:Nat→Value
structure RefAt (L:RLay) (w:World) (N:Net) (R:Rc):Prop where
 blk:w.heap[L.p]? = some (.cells #[.slice (some ⟨L.gS,0,none⟩) N.streams.length L.cS,.slice (some ⟨L.gW,0,none⟩) N.workers.length L.cW] 84 (0,0))
 rowS:∃ cs:List Value,w.heap[L.gS]? = some (.cells cs.toArray 88 (0,0))∧∀ s,s<N.streams.length→∀ j,j<5→cs[s*5+j]? = (sCells N (R.s s) s (L.VW s))[j]?
 rowW:∃ cs:List Value,w.heap[L.gW]? = some (.cells cs.toArray 92 (0,0))∧∀ k,k<N.workers.length→∀ j,j<7→cs[k*7+j]? = (wCells (L.VC k) (R.w k))[j]?
 words:∀ s,s<N.streams.length→w.ownsRow 0 3 1 (L.VW s) (R.s s).words.length (intRow (R.s s).words)
 inj:∀ s t,s<N.streams.length→t<N.streams.length→s≠t→∀ g,(L.VW s).ownBlock=some g→(L.VW t).ownBlock≠some g
 code:∀ k,k<N.workers.length→CodeAt w (L.VC k) (codeOf N k)
 lenW:R.W.length=N.workers.length
 lenS:R.S.length=N.streams.length
 le:∀ s,s<N.streams.length→(R.s s).read≤(R.s s).words.length
 place:∀ k,k<N.workers.length→(R.w k).place≤(codeOf N k).length
 ok:validB N=true
def RFoot (L:RLay) (N:Net) (b:Nat):Prop:=b=L.p∨b=L.gS∨b=L.gW∨∃ s,s<N.streams.length∧(L.VW s).ownBlock=some b
theorem Tryz.infoRS:(Tryz.prog.info? 88).map (fun i=>(i.zero,i.size,i.bytes))=some (some (.agg #[.bool false,.bool false,.slice none 0 0,.int .i64 0,.int .i64 0]),5,48):=by kernel_rfl
theorem Tryz.infoRW:(Tryz.prog.info? 92).map (fun i=>(i.zero,i.size,i.bytes))=some (some (.agg #[.slice none 0 0,.int .i64 0,.int .i64 0,.int .i64 0,.int .i64 0,.int .i64 0,.int .i64 0]),7,72):=by kernel_rfl
structure RefN (wc w0:World) (bx:Obj) (B q:Nat) (N:Net) (k j:Nat) (VW VC:Nat→Value) (vS vW:Value) (wr:World):Prop where
 box:wr.heap[B]? = some bx
 blk:wr.heap[q]? = some (.cells #[vS,vW] 84 (0,0))
 rowS:wr.ownsRow (q+1) 88 5 vS k ((List.range k).flatMap fun s=>sCells N ((initR N N.streams).s s) s (VW s))
 words:∀ s,s<k→wr.ownsRow (q+1) 3 1 (VW s) ((initR N N.streams).s s).words.length (intRow ((initR N N.streams).s s).words)
 inj:∀ s t,s<t→t<k→∀ g,(VW s).ownBlock=some g→(VW t).ownBlock≠some g
 rowW:wr.ownsRow (q+1) 92 7 vW j ((List.range j).flatMap fun i=>wCells (VC i) ⟨0,fun _=>0,0⟩)
 code:∀ i,i<j→CodeAt wc (VC i) (codeOf N i)
 below:Below w0.heap.size w0 wr
 lt:B<q
 w0B:w0.heap.size≤B
theorem flatMap_congr {α β : Type} (f g : α → List β):∀ (l:List α),(∀ x∈l,f x=g x)→l.flatMap f=l.flatMap g
 | [],_=>rfl
 | x::l,h=>by rw [List.flatMap_cons,List.flatMap_cons,h x (by simp),flatMap_congr f g l fun y hy=>h y (by simp [hy])]
theorem range_snoc {α : Type} (f g:Nat→List α) (k:Nat) (x:List α) (h:∀ t,t<k→g t=f t) (hx:g k=x):(List.range (k+1)).flatMap g=(List.range k).flatMap f++x:=by
 rw [List.range_succ,List.flatMap_append]
 congr 1
 ·exact flatMap_congr _ _ _ fun t ht=>h t (List.mem_range.1 ht)
 ·simp [hx]
theorem RefN.nextS {wc w0:World} {bx:Obj} {B q:Nat} {N:Net} {k:Nat} {VW VC:Nat→Value} {vS vW:Value} {wr wA w2:World} (h:RefN wc w0 bx B q N k 0 VW VC vS vW wr) {vw:Value} {g cap:Nat} {o:Obj} (hA:Below wr.heap.size wr wA)
  (hw:wA.ownsRow wr.heap.size 3 1 vw ((initR N N.streams).s k).words.length (intRow ((initR N N.streams).s k).words))
  (ho:w2.ownsRow (q+1) 88 5 (.slice (some ⟨g,0,none⟩) (k+1) cap) (k+1) ((List.range k).flatMap (fun s=>sCells N ((initR N N.streams).s s) s (VW s))++sCells N ((initR N N.streams).s k) k vw)) (hg:(wA.alloc o).grownBy w2 vS.ownBlock) :
  w2.heap[q]? = wr.heap[q]? ∧ Below w0.heap.size w0 w2∧RefN wc w0 bx B q N (k+1) 0 (fun s=>if s=k then vw else VW s) VC (.slice (some ⟨g,0,none⟩) (k+1) cap) vW (w2.setCell ⟨q,0,none⟩ (.slice (some ⟨g,0,none⟩) (k+1) cap)):=by
 have hszA:=hA.size
 have hql:=lt_of_blk h.blk
 have hlt:=h.lt
 have hwB:=h.w0B
 have keep:∀ b,b<wr.heap.size→vS.ownBlock≠some b→w2.heap[b]? = wr.heap[b]? := fun b hb hne=>kept_append hA hg hb hne
 have low:∀ b,b<q+1→w2.heap[b]? = wr.heap[b]? := fun b hb=>keep b (by omega) fun e=>by have:=own_baseB h.rowS e;omega
 have hbl:Below w0.heap.size w0 w2:=h.below.trans ⟨hg.os.trans hA.os,hg.tape.trans hA.tape,hg.output.trans hA.output,Nat.le_trans hszA (Nat.le_trans (by simp) hg.size),fun b hb=>low b (by omega)⟩
 have hset:∀ b,b≠q→∀ v,(w2.setCell ⟨q,0,none⟩ v).heap[b]? = w2.heap[b]? := fun b hb v=>heap_setCell_other _ _ _ _ hb
 refine ⟨low q (by omega),hbl,⟨?_,?_,?_,fun s hs=>?_,fun s t hst ht b hb=>?_,?_,h.code,hbl.setCell (p:=⟨q,0,none⟩) (by show w0.heap.size≤q;omega) _,h.lt,h.w0B⟩⟩
 ·rw [hset B (by omega),low B (by omega)];exact h.box
 ·exact blk_set (l:=[_,_]) ((low q (by omega)).trans h.blk) 0 _
 ·rw [range_snoc (fun s=>sCells N ((initR N N.streams).s s) s (VW s)) (fun s=>sCells N ((initR N N.streams).s s) s (if s=k then vw else VW s)) k (sCells N ((initR N N.streams).s k) k vw) (fun t ht=>by rw [if_neg (by omega)]) (by rw [if_pos rfl])]
  exact own_of_blockB ho fun b hb=>hset b (by have:=own_baseB ho hb;omega) _
 ·by_cases e:s=k
  ·subst e
   simp only [if_true]
   refine own_lower (own_of_blockB hw fun b hb=>?_) (by omega)
   have h1:=(hw.lt b hb).1
   have h2:=(hw.lt b hb).2
   rw [hset b (by omega),hg.block b (by simp;omega) (fun e=>by have:=(h.rowS.lt b e.symm).2;omega),Below.heap_alloc _ _ _ h2]
  ·simp only [e,if_false]
   have hws:=h.words s (by omega)
   refine own_of_blockB hws fun b hb=>?_
   obtain ⟨cur,hc⟩:=own_blockB hws hb
   rw [hset b (by have:=(hws.lt b hb).1;omega),keep b (lt_of_blk hc) (own_ne_type h.rowS hc (by decide))]
 ·by_cases e:t=k
  ·subst e
   have hs:s≠t:=by omega
   simp only [hs,if_false,if_true] at hb ⊢
   intro hb2
   have h1:=((h.words s (by omega)).lt b hb).2
   have h2:=(hw.lt b hb2).1
   omega
  ·have hs:s≠k:=by omega
   simp only [e,hs,if_false] at hb ⊢
   exact h.inj s t hst (by omega) b hb
 ·refine own_of_blockB h.rowW fun b hb=>?_
  obtain ⟨cur,hc⟩:=own_blockB h.rowW hb
  rw [hset b (by have:=(h.rowW.lt b hb).1;omega),keep b (lt_of_blk hc) (own_ne_type h.rowS hc (by decide))]
theorem RefN.nextW {wc w0:World} {bx:Obj} {B q:Nat} {N:Net} {k j:Nat} {VW VC:Nat→Value} {vS vW:Value} {wr w2:World} (h:RefN wc w0 bx B q N k j VW VC vS vW wr) {vc:Value} {g cap:Nat} {o:Obj} (hc:CodeAt wc vc (codeOf N j))
  (ho:w2.ownsRow (q+1) 92 7 (.slice (some ⟨g,0,none⟩) (j+1) cap) (j+1) ((List.range j).flatMap (fun i=>wCells (VC i) ⟨0,fun _=>0,0⟩)++wCells vc ⟨0,fun _=>0,0⟩)) (hg:(wr.drew.alloc o).grownBy w2 vW.ownBlock) :
  w2.heap[q]? = wr.heap[q]? ∧ RefN wc w0 bx B q N k (j+1) VW (fun i=>if i=j then vc else VC i) vS (.slice (some ⟨g,0,none⟩) (j+1) cap) (w2.setCell ⟨q,1,none⟩ (.slice (some ⟨g,0,none⟩) (j+1) cap)):=by
 have hA:Below wr.heap.size wr wr.drew:=(Below.refl _ _).drew
 have hql:=lt_of_blk h.blk
 have hlt:=h.lt
 have hwB:=h.w0B
 have keep:∀ b,b<wr.heap.size→vW.ownBlock≠some b→w2.heap[b]? = wr.heap[b]? := fun b hb hne=>kept_append hA hg hb hne
 have low:∀ b,b<q+1→w2.heap[b]? = wr.heap[b]? := fun b hb=>keep b (by omega) fun e=>by have:=own_baseB h.rowW e;omega
 have hbl:Below w0.heap.size w0 w2:=h.below.trans ⟨hg.os.trans hA.os,hg.tape.trans hA.tape,hg.output.trans hA.output,Nat.le_trans hA.size (Nat.le_trans (by simp) hg.size),fun b hb=>low b (by omega)⟩
 have hset:∀ b,b≠q→∀ v,(w2.setCell ⟨q,1,none⟩ v).heap[b]? = w2.heap[b]? := fun b hb v=>heap_setCell_other _ _ _ _ hb
 refine ⟨low q (by omega),⟨?_,?_,?_,fun s hs=>?_,h.inj,?_,fun i hi=>?_,hbl.setCell (p:=⟨q,1,none⟩) (by show w0.heap.size≤q;omega) _,h.lt,h.w0B⟩⟩
 ·rw [hset B (by omega),low B (by omega)];exact h.box
 ·exact blk_set (l:=[_,_]) ((low q (by omega)).trans h.blk) 1 _
 ·refine own_of_blockB h.rowS fun b hb=>?_
  obtain ⟨cur,hc⟩:=own_blockB h.rowS hb
  rw [hset b (by have:=(h.rowS.lt b hb).1;omega),keep b (lt_of_blk hc) (own_ne_type h.rowW hc (by decide))]
 ·have hws:=h.words s hs
  refine own_of_blockB hws fun b hb=>?_
  obtain ⟨cur,hc⟩:=own_blockB hws hb
  rw [hset b (by have:=(hws.lt b hb).1;omega),keep b (lt_of_blk hc) (own_ne_type h.rowW hc (by decide))]
 ·rw [range_snoc (fun i=>wCells (VC i) ⟨0,fun _=>0,0⟩) (fun i=>wCells (if i=j then vc else VC i) ⟨0,fun _=>0,0⟩) j (wCells vc ⟨0,fun _=>0,0⟩) (fun t ht=>by rw [if_neg (by omega)]) (by rw [if_pos rfl])]
  exact own_of_blockB ho fun b hb=>hset b (by have:=own_baseB ho hb;omega) _
 ·by_cases e:i=j
  ·subst e;simp only [if_true];exact hc
  ·simp only [e,if_false];exact h.code i (by omega)
theorem flat_row_get (f:Nat→List Value) (sz:Nat) (hf:∀ t,(f t).length=sz):∀ (n s j:Nat),s<n→j<sz→((List.range n).flatMap f)[s*sz+j]? = (f s)[j]?
 | 0,s,j,h,_=>by omega
 | n+1,s,j,h,hj=>by
  have hl:((List.range n).flatMap f).length=n*sz:=by
   clear h
   induction n with
   | zero=>simp
   | succ n ih=>rw [List.range_succ,List.flatMap_append,List.length_append,ih,Nat.add_mul];simp [hf]
  rw [List.range_succ,List.flatMap_append]
  by_cases e:s=n
  ·subst e
   rw [List.getElem?_append_right (by omega),hl]
   simp
  ·have hlt:s*sz+j<n*sz:=by
    have:(s+1)*sz≤n*sz:=Nat.mul_le_mul_right _ (by omega)
    rw [Nat.add_mul] at this;omega
   rw [List.getElem?_append_left (by omega)]
   exact flat_row_get f sz hf n s j (by omega) hj
structure RHas (wc:World) (A:Nat→Prop) (p:Nat) (N:Net) (R:Rc) (w:World):Prop where
 ex:∃ L,L.p=p∧RefAt L w N R∧(∀ b,RFoot L N b→¬ A b)∧∀ k,k<N.workers.length→CodeAt wc (L.VC k) (codeOf N k)
 lt:∀ b,A b→b<w.heap.size
theorem used_first (N:Net) (s:Nat):decide (0≤firstUser N.workers 1 s)=used N s:=by
 unfold firstUser used
 cases hf:N.workers.findIdx? fun c=>usesB c 1 (s:Int) with
 | none=>
  have:=List.findIdx?_eq_none_iff.1 hf
  have h0:usersN N.workers 1 s=0:=by
   unfold usersN
   rw [List.countP_eq_zero]
   intro c hc
   rw [this c hc];simp
  rw [h0];rfl
 | some k=>
  obtain ⟨hk,h1, -⟩:=List.findIdx?_eq_some_iff_getElem.1 hf
  have h0:0<usersN N.workers 1 s:=by
   unfold usersN
   exact List.countP_pos_iff.2 ⟨_,List.getElem_mem hk,h1⟩
  simp [ixOf,h0]
theorem src_words (N:Net) (s k:Nat) (h:sourceIx N.sources s=(k:Int)):k<N.sources.length∧srcd N s=true∧(N.sources.getD k ⟨0,[]⟩).words=srcWords N s:=by
 unfold sourceIx at h
 cases hf:N.sources.findIdx? fun x=>x.stream == (s:Int) with
 | none=>rw [hf] at h;simp [ixOf] at h
 | some i=>
  rw [hf] at h
  have hik:i=k:=by simp only [ixOf] at h;omega
  subst hik
  obtain ⟨hk,h1,h2⟩:=List.findIdx?_eq_some_iff_getElem.1 hf
  refine ⟨hk,?_,?_⟩
  ·rw [srcd, ← source_none,show sourceIx N.sources (s:Int)=(i:Int) by unfold sourceIx;rw [hf];rfl]
   simp
  ·have hfind:N.sources.find? (fun x=>x.stream == (s:Int))=some N.sources[i]:=by
    rw [List.find?_eq_some_iff_getElem]
    exact ⟨h1,i,hk,rfl,fun j hj=>by simpa using h2 j hj⟩
   unfold srcWords
   rw [hfind,getD_eq _ _ _ hk];rfl
theorem init0_s {N:Net} (s:Nat) (hs:s<N.streams.length):(initR N N.streams).s s=⟨if srcd N s then srcWords N s else [],0,(N.streams.getD s 0).toNat⟩:=by simp [Rc.s,initR,List.getD,hs]
theorem init0_w (N:Net) (k:Nat):(initR N N.streams).w k=⟨0,fun _=>0,0⟩:=by
 simp only [Rc.w,initR,List.getD]
 rw [List.getElem?_replicate]
 split<;>rfl
structure XAt (wr:World) (xb:Nat) (N:Net) (k:Nat) (wc:World):Prop where
 ex:∃ a c,wc.heap[xb]? = some (.cells #[.bool (srcd N k),.bool (used N k),.slice a ((initR N N.streams).s k).words.length c,.int .i64 0,.int .i64 (N.streams.getD k 0)] 88 (0,0)) ∧
  wc.ownsRow wr.heap.size 3 1 (.slice a ((initR N N.streams).s k).words.length c) ((initR N N.streams).s k).words.length (intRow ((initR N N.streams).s k).words)
 below:Below wr.heap.size wr wc
theorem valid_room0 {N:Net} (h:validB N=true) (s:Nat) (hs:s<N.streams.length):1≤N.streams.getD s 0∧N.streams.getD s 0≤6:=by
 simp only [validB,Bool.and_eq_true] at h
 have h1:=h.1.1.1
 simp only [validStreamsB,Bool.and_eq_true,List.all_eq_true] at h1
 have:=h1.2 _ (List.getElem_mem hs)
 rw [getD_eq _ _ _ hs]
 simpa using this
theorem RefN.done {wc w0:World} {bx:Obj} {B q:Nat} {N:Net} {VW VC:Nat→Value} {vS vW:Value} {wr:World} (h:RefN wc w0 bx B q N N.streams.length N.workers.length VW VC vS vW wr) (hwc:Below wc.heap.size wc w0) (hok:validB N=true):RHas wc (fun b=>b<w0.heap.size) q N (initR N N.streams) wr:=by
 obtain ⟨hc1,hc2,hc3,hc4⟩:=valid_counts hok
 obtain ⟨gS,cS,rfl,hS1,hS2⟩:=h.rowS.form (by omega)
 obtain ⟨gW,cW,rfl,hW1,hW2⟩:=h.rowW.form (by omega)
 have hlt:=h.lt
 have hwB:=h.w0B
 refine ⟨⟨⟨q,gS,gW,cS,cW,VW,VC⟩,rfl,⟨h.blk,?_,?_,fun s hs=>own_lower (h.words s hs) (Nat.zero_le _),fun s t hs ht hst g hg=>?_,fun k hk=>(h.code k hk).below (hwc.trans (h.below.mono hwc.size)),by simp [initR],by simp [initR],fun s hs=>by rw [init0_s s hs];exact Nat.zero_le _,fun k hk=>by rw [init0_w];exact Nat.zero_le _,hok⟩,fun b hb hlt'=>?_,fun k hk=>h.code k hk⟩,fun b hb=>Nat.lt_of_lt_of_le hb h.below.size⟩
 ·rcases h.rowS.2 with ⟨hv, -⟩ | ⟨g,cap,cur,hv, -,hh, -, -, -,ht⟩
  ·cases hv
  ·cases hv
   refine ⟨cur.toList,by simpa using hh,fun s hs j hj=>?_⟩
   have e:=flat_row_get (fun s=>sCells N ((initR N N.streams).s s) s (VW s)) 5 (fun _=>rfl) N.streams.length s j hs hj
   rw [← ht,List.getElem?_take_of_lt] at e
   ·exact e
   ·have:(s+1)*5≤N.streams.length*5:=Nat.mul_le_mul_right _ (by omega)
    omega
 ·rcases h.rowW.2 with ⟨hv, -⟩ | ⟨g,cap,cur,hv, -,hh, -, -, -,ht⟩
  ·cases hv
  ·cases hv
   refine ⟨cur.toList,by simpa using hh,fun k hk j hj=>?_⟩
   have e:=flat_row_get (fun i=>wCells (VC i) ⟨0,fun _=>0,0⟩) 7 (fun _=>rfl) N.workers.length k j hk hj
   rw [← ht,List.getElem?_take_of_lt] at e
   ·rw [init0_w];exact e
   ·have:(k+1)*7≤N.workers.length*7:=Nat.mul_le_mul_right _ (by omega)
    omega
 ·intro hg2
  rcases Nat.lt_or_ge s t with h1 | h1
  ·exact h.inj s t h1 ht g hg hg2
  ·exact h.inj t s (by omega) hs g hg2 hg
 ·rcases hb with rfl | rfl | rfl | ⟨s,hs,hb⟩
  ·omega
  ·omega
  ·omega
  ·have:=((h.words s hs).lt b hb).1
   omega
set_option maxRecDepth 100000 in
set_option maxHeartbeats 1000000 in
theorem refNew_out {n:Net} {v:Value} {w:World} (hn:NetAt w v n) (hok:validB n=false) :
  Calls Tryz.prog 14 #[v] w fun e w'=>e=.returned (.pointer none)∧Below w.heap.size w w':=by
 have HNet:Hid (∀ wx,Below w.heap.size w wx→Calls Tryz.prog 26 #[v] wx fun e w'=>e=.returned (.bool false)∧Below wx.heap.size wx w'):=fun wx hx=>by
  have:=refNet_calls (hn.below hx)
  rw [netB_eq,hok] at this
  exact this
 obtain ⟨vs,vr,vw,rfl,h1,h2,h3⟩:=hn
 obtain ⟨sa,sc,rfl⟩:=h1.form
 obtain ⟨ar,cr,rfl⟩:=h2.form
 obtain ⟨aw,cw,rfl⟩:=h3.form
 clear h1 h2 h3 hok
 go_enter Tryz.func14,Tryz.ntmps14
 go_wp2_with fail
 refine (unhide HNet _ ((Below.refl _ _).alloc (Nat.le_refl _) _)).mono ?_
 rintro e w1 ⟨rfl,hb1⟩
 have HB1:Hid (Below w.heap.size w w1):=((Below.refl _ _).alloc (Nat.le_refl _) _).trans (hb1.mono (by simp))
 clear hb1 HNet
 go_wp2
 go_ret
 exact ⟨rfl,HB1.out⟩
set_option maxRecDepth 100000 in
set_option maxHeartbeats 8000000 in
theorem refNew_calls {n:Net} {v:Value} {wz w:World} (hnc:NetAt wz v n) (hwc:Below wz.heap.size wz w) (hs:ShortNet n) (hok:validB n=true) :
  Calls Tryz.prog 14 #[v] w fun e w'=>∃ q,e=.returned (.pointer (some ⟨q,0,none⟩))∧RHas wz (fun b=>b<w.heap.size) q n (initR n n.streams) w'∧Below w.heap.size w w':=by
 have hn:NetAt w v n:=hnc.below hwc
 obtain ⟨iS,hiS,hS0,hS1,hS2⟩:=info_parts Tryz.infoRS
 obtain ⟨iW,hiW,hW0,hW1,hW2⟩:=info_parts Tryz.infoRW
 obtain ⟨iI,hiI,hI0,hI1,hI2⟩:=info_parts Tryz.info3
 obtain ⟨hc1,hc2,hc3,hc4⟩:=valid_counts hok
 have HNet:Hid (∀ wx,Below w.heap.size w wx→Calls Tryz.prog 26 #[v] wx fun e w'=>e=.returned (.bool true)∧Below wx.heap.size wx w'):=fun wx hx=>by
  have:=refNet_calls (hn.below hx)
  rw [netB_eq,hok] at this
  exact this
 have HUs:Hid (∀ (s:Nat) wx,Below w.heap.size w wx→Calls Tryz.prog 27 #[v,.int .i64 1,.int .i64 s] wx fun e w'=>e=.returned (.tuple #[.int .i64 (firstUser n.workers 1 s),.int .i64 (usersN n.workers 1 s)])∧Below wx.heap.size wx w'):=fun s wx hx=>user_calls 1 s (hn.below hx)
 have HSo:Hid (∀ (s:Nat) wx,Below w.heap.size w wx→Calls Tryz.prog 28 #[v,.int .i64 s] wx fun e w'=>e=.returned (.int .i64 (sourceIx n.sources s))∧Below wx.heap.size wx w'):=fun s wx hx=>source_calls s (hn.below hx)
 have hnt:∀ wx,Below w.heap.size w wx→NetAt wx v n:=fun wx hx=>hn.below hx
 obtain ⟨vs,vr,vw,rfl,h1,h2, -⟩:=hn
 obtain ⟨vs',vr',vw',e, -, -,h3⟩:=hnc
 cases e
 obtain ⟨sa,sc,rfl, -, -,hst⟩:=h1.openD
 obtain ⟨ar,cr,rfl, -, -,hsr⟩:=h2.openD
 obtain ⟨aw,cw,rfl, -, -,hwk⟩:=h3.openD
 have HSt:Hid (∀ k,k<n.streams.length→∃ b off,sa=some ⟨b,off,none⟩∧b<w.heap.size∧∀ wx,Below w.heap.size w wx→wx.cell? ⟨b,off+k,none⟩=some (.int .i64 (n.streams.getD k 0))):=hst
 have HSr:Hid (∀ k,k<n.sources.length→∃ b off a c,ar=some ⟨b,off,none⟩∧b<w.heap.size∧(∀ wx,Below w.heap.size w wx→wx.cell? ⟨b,off+k*2+1,none⟩=some (.slice a (n.sources.getD k ⟨0,[]⟩).words.length c))∧∀ wx,Below w.heap.size w wx→IntsAt wx (.slice a (n.sources.getD k ⟨0,[]⟩).words.length c) (n.sources.getD k ⟨0,[]⟩).words):=fun k hk=>by
  obtain ⟨b,off,u,ha,hb,hu,hc⟩:=hsr k hk
  obtain ⟨a,c,rfl⟩:=hu.form
  exact ⟨b,off,a,c,ha,hb,fun wx hx=>(hc wx hx).2,fun wx hx=>hu.below hx⟩
 have HWk:Hid (∀ k,k<n.workers.length→∃ b off a c,aw=some ⟨b,off,none⟩∧b<w.heap.size∧(∀ wx,Below w.heap.size w wx→wx.cell? ⟨b,off+k,none⟩=some (.slice a (codeOf n k).length c))∧CodeAt wz (.slice a (codeOf n k).length c) (codeOf n k)):=fun k hk=>by
  obtain ⟨b,off,u,ha,hb,hu,hc⟩:=hwk k hk
  obtain ⟨a,c,rfl⟩:=hu.form
  exact ⟨b,off,a,c,ha,Nat.lt_of_lt_of_le hb hwc.size,fun wx hx=>hc wx (hwc.trans (hx.mono hwc.size)),hu⟩
 have HWd:Hid (∀ k,k<n.sources.length→(n.sources.getD k ⟨0,[]⟩).words.length≤1048576):=fun k hk=>by rw [getD_eq _ _ _ hk];exact (hs.2.2.2.1 _ (List.getElem_mem hk)).1
 obtain ⟨bx,hbx⟩:∃ bx,bx=Obj.cells #[.slice sa n.streams.length sc,.slice ar n.sources.length cr,.slice aw n.workers.length cw] 26 (0,0):=⟨_,rfl⟩
 have HWc:=hide hwc
 clear h1 h2 h3 hst hsr hwk hnt hwc
 go_enter Tryz.func14,Tryz.ntmps14
 go_wp2_with fail
 refine (unhide HNet _ ((Below.refl _ _).alloc (Nat.le_refl _) _)).mono ?_
 rintro e w1 ⟨rfl,hb1⟩
 have hsz1:w.heap.size<w1.heap.size:=by have:=hb1.size;simp at this;omega
 have HB1:Hid (Below w.heap.size w w1):=((Below.refl _ _).alloc (Nat.le_refl _) _).trans (hb1.mono (by simp))
 have HR0:Hid (RefN wz w bx w.heap.size w1.heap.size n 0 0 (fun _=>.bool false) (fun _=>.bool false) (.slice none 0 0) (.slice none 0 0) (w1.alloc (.cells #[.slice none 0 0,.slice none 0 0] 84))):=by
  refine ⟨heapOld hsz1 ?_,heapNew rfl,⟨rfl,Or.inl ⟨rfl,rfl⟩⟩,fun s hs=>by omega,fun s t _ ht=>by omega,⟨rfl,Or.inl ⟨rfl,rfl⟩⟩,fun i hi=>by omega,HB1.out.alloc HB1.out.size _,hsz1,Nat.le_refl _⟩
  rw [hb1.block _ (by simp),hbx];exact heap_alloc_new _ _
 clear hb1 HNet HB1
 go_wp2
 generalize w1.alloc (.cells #[.slice none 0 0,.slice none 0 0] 84)=w2 at *
 generalize w1.heap.size=q at *
 go_loopw [5] (fun i wr=>∃ (k:Nat) (VW:Nat→Value) (vS:Value),k≤n.streams.length∧i=.int .i64 k∧RefN wz w bx w.heap.size q n k 0 VW (fun _=>.bool false) vS (.slice none 0 0) wr) (fun i _=>n.streams.length-(intOf i).toNat)
 case atStart=>exact ⟨0,_,_,Nat.zero_le _,rfl,HR0.out⟩
 case round=>
  clear HR0
  obtain ⟨k,VW,vS,hk,rfl,hr⟩:=hrel
  have t0:=hr.box
  rw [hbx] at t0
  obtain ⟨b0, -⟩:=blk_cell (l:=[_,_,_]) t0 0 _ rfl
  obtain ⟨b1, -⟩:=blk_cell (l:=[_,_,_]) t0 1 _ rfl
  obtain ⟨b2, -⟩:=blk_cell (l:=[_,_,_]) t0 2 _ rfl
  by_cases hlt:k<n.streams.length
  ·obtain ⟨b,off,hsa,hbl,hcell⟩:=HSt.out k hlt
   have HCe:=hide hcell
   have HUs1:=hide (HUs.out k wr hr.below)
   have HR:=hide hr
   have T0:=hide t0
   have hszr:=lt_of_blk t0
   have hk0:(0:Int)≤(k:Int):=by omega
   have hk1:(k:Int)<(n.streams.length:Int):=by omega
   have HUF:Hid (decide (0≤firstUser n.workers 1 k)=used n k):=used_first n k
   subst hsa
   clear hcell hr t0 HSt HUs
   generalize firstUser n.workers 1 k=fu at *
   generalize (usersN n.workers 1 k:Int)=un at *
   go_wp2_with fail
   refine (unhide HUs1).mono ?_
   rintro e w3 ⟨rfl,hb3⟩
   have hbw3:Below w.heap.size w w3:=HR.out.below.trans (hb3.mono HR.out.below.size)
   have d0:=HCe.out w3 hbw3
   have t3:=(hb3.block _ hszr).trans T0.out
   obtain ⟨b0, -⟩:=blk_cell (l:=[_,_,_]) t3 0 _ rfl
   obtain ⟨b1, -⟩:=blk_cell (l:=[_,_,_]) t3 1 _ rfl
   obtain ⟨b2, -⟩:=blk_cell (l:=[_,_,_]) t3 2 _ rfl
   have HB3:=hide hb3
   have hsz3:w.heap.size<w3.heap.size:=by have:=hb3.size;omega
   have HBW3:=hide hbw3
   have HSo1:Hid (∀ o,Calls Tryz.prog 28 #[.agg #[.slice (some ⟨b,off,none⟩) n.streams.length sc,.slice ar n.sources.length cr,.slice aw n.workers.length cw],.int .i64 k] (w3.alloc o) fun e w'=>e=.returned (.int .i64 (sourceIx n.sources k))∧Below (w3.alloc o).heap.size (w3.alloc o) w'):=fun o=>HSo.out k _ (hbw3.alloc (by omega) o)
   clear hb3 hbw3 t3 HUs1 HSo
   have huf:=HUF.out
   have hrm:n.streams.getD k 0=n.streams.getD k 0:=rfl
   clear hrm
   generalize hrm:n.streams.getD k 0=rm at *
   have HRM:=hide hrm
   clear hrm
   go_wp2_with fail
   refine (unhide HSo1 _).mono ?_
   rintro e w4 ⟨rfl,hb4⟩
   have hsz4:w3.heap.size<w4.heap.size:=by have:=hb4.size;simp at this;omega
   have tx:w4.heap[w3.heap.size]? = some (.cells #[.bool false,.bool (used n k),.slice none 0 0,.int .i64 0,.int .i64 rm] 88 (0,0)):=by
    rw [hb4.block _ (by simp)];exact heap_alloc_new _ _
   have t4:w4.heap[w.heap.size]? = some (.cells #[.slice (some ⟨b,off,none⟩) n.streams.length sc,.slice ar n.sources.length cr,.slice aw n.workers.length cw] 26 (0,0)):=by
    rw [hb4.block _ (by simp;omega),Below.heap_alloc _ _ _ hsz3,HB3.out.block _ hszr];exact T0.out
   have hbr4:Below wr.heap.size wr w4:=(HB3.out.alloc HB3.out.size _).trans (hb4.mono (by have:=HB3.out.size;simp;omega))
   have hbw4:Below w.heap.size w w4:=HR.out.below.trans (hbr4.mono HR.out.below.size)
   have hszr3:=HB3.out.size
   have TX:=hide tx
   have T4:=hide t4
   have HBR4:=hide hbr4
   have HBW4:=hide hbw4
   clear hb4 tx t4 hbr4 hbw4 HSo1 d0 b0 b1 b2 HCe T0 HBW3 huf
   generalize hxb:w3.heap.size=xb at *
   have HIS:=hide (init0_s k hlt)
   go_upto_if 42 with fail
   go_cut [9] from 17 to 63 (fun v9 wc=>(∃ x:Int,v9=.int .i64 x)∧XAt wr xb n k wc)
   case first=>
    by_cases hsx:0≤sourceIx n.sources k
    ·obtain ⟨ks,hks⟩:=Int.eq_ofNat_of_zero_le hsx
     obtain ⟨hkl,hsd,hwd⟩:=src_words n k ks hks
     obtain ⟨b',off',a',c',har,hbl',hcell',hints⟩:=HSr.out ks hkl
     have hml:=HWd.out ks hkl
     have HXF:Hid (∀ (av:Option Addr) (cv:Nat) (w6:World),w6.ownsRow xb 3 1 (.slice av (n.sources.getD ks ⟨0,[]⟩).words.length cv) (n.sources.getD ks ⟨0,[]⟩).words.length (intRow (n.sources.getD ks ⟨0,[]⟩).words)→w6.heap[xb]? = some (.cells #[.bool true,.bool (used n k),.slice none 0 0,.int .i64 0,.int .i64 rm] 88 (0,0))→Below wr.heap.size wr w6→XAt wr xb n k (w6.setCell ⟨xb,2,none⟩ (.slice av (n.sources.getD ks ⟨0,[]⟩).words.length cv))):=fun av cv w6 ho hx6 hb6=>by
      have hx:=blk_set (l:=[_,_,_,_,_]) hx6 2 (.slice av (n.sources.getD ks ⟨0,[]⟩).words.length cv)
      have ewd:((initR n n.streams).s k).words=(n.sources.getD ks ⟨0,[]⟩).words:=by rw [HIS.out,hsd,hwd];rfl
      refine ⟨⟨av,cv,?_,?_⟩,hb6.setCell (p:=⟨xb,2,none⟩) (by show wr.heap.size≤xb;omega) _⟩
      ·rw [ewd,hsd,HRM.out];exact hx
      ·rw [ewd]
       refine own_lower (own_of_blockB ho fun g hg=>heap_setCell_other _ _ _ _ ?_) (by omega)
       obtain ⟨cur,hcu⟩:=own_blockB ho hg
       exact ne_of_types hcu hx6 (by decide)
     rw [hks]
     obtain ⟨x0,xf0⟩:=blk_cell (l:=[_,_,_,_,_]) TX.out 0 _ rfl
     have hx0:(0:Int)≤(ks:Int):=by omega
     have TY:Hid ((w4.setCell ⟨xb,0,none⟩ (.bool true)).heap[xb]? = some (.cells #[.bool true,.bool (used n k),.slice none 0 0,.int .i64 0,.int .i64 rm] 88 (0,0))):=blk_set (l:=[_,_,_,_,_]) TX.out 0 _
     have T5:Hid ((w4.setCell ⟨xb,0,none⟩ (.bool true)).heap[w.heap.size]? = some (.cells #[.slice (some ⟨b,off,none⟩) n.streams.length sc,.slice ar n.sources.length cr,.slice aw n.workers.length cw] 26 (0,0))):=(heap_setCell_other _ _ _ _ (by show w.heap.size≠xb;omega)).trans T4.out
     have HBR5:Hid (Below wr.heap.size wr (w4.setCell ⟨xb,0,none⟩ (.bool true))):=HBR4.out.setCell (p:=⟨xb,0,none⟩) (by show wr.heap.size≤xb;omega) _
     have HBW5:Hid (Below w.heap.size w (w4.setCell ⟨xb,0,none⟩ (.bool true))):=HBW4.out.setCell (p:=⟨xb,0,none⟩) (by show w.heap.size≤xb;omega) _
     have hsz5:xb<(w4.setCell ⟨xb,0,none⟩ (.bool true)).heap.size:=by simpa using hsz4
     clear TX T4 HBR4 HBW4
     go_upto_region 13 with fail
     generalize w4.setCell ⟨xb,0,none⟩ (.bool true)=w5 at *
     clear x0 xf0
     obtain ⟨x2,xf2⟩:=blk_cell (l:=[_,_,_,_,_]) TY.out 2 _ rfl
     obtain ⟨b1, -⟩:=blk_cell (l:=[_,_,_]) T5.out 1 _ rfl
     have d1:=hcell' w5 HBW5.out
     have hkx:(ks:Int)<(n.sources.length:Int):=by omega
     have hin:=hints w5.drew (HBW5.out.drew)
     have HNw:Hid (0<(n.sources.getD ks ⟨0,[]⟩).words.length→∃ ad:Addr,a'=some ad∧∀ j u,(intRow (n.sources.getD ks ⟨0,[]⟩).words)[j]? = some u→w5.drew.cell? (ad.add j)=some u):=fun h0=>by
      obtain ⟨ad,e1, -,e2⟩:=ints_cells hin h0
      exact ⟨ad,e1,e2 _ (Below.refl _ _)⟩
     have HLn:Hid ((intRow (n.sources.getD ks ⟨0,[]⟩).words).length=(n.sources.getD ks ⟨0,[]⟩).words.length*1):=by unfold Hid;rw [intRow_length,Nat.mul_one]
     have h1c:=intRow_one (n.sources.getD ks ⟨0,[]⟩).words
     have h63:(n.sources.getD ks ⟨0,[]⟩).words.length≤maxLen:=by unfold maxLen;omega
     have hby:(n.sources.getD ks ⟨0,[]⟩).words.length*8≤140737488355328:=by omega
     subst har
     clear hcell' hints hin hwd hsd hml hks hsx T5 HSr HWd
     generalize hws:intRow (n.sources.getD ks ⟨0,[]⟩).words=ws at *
     clear hws
     generalize (n.sources.getD ks ⟨0,[]⟩).words.length=len at *
     go_wp2
     refine wp_region_still_tail 8 Tryz.mixed (by kernel_rfl) ?_
     simp only [List.take_succ_cons,List.take_zero,List.drop_succ_cons,List.drop_zero]
     iterate 8 still_step
     refine wpStill_nil ?_
     show wpList _ _ _ _ _ w5.drew
     go_wp2_with (at_builtin;refine wpList_append_fresh rfl _ (.tmp 51) 22 rfl 3 iI (.int .i64 0) 1 8 Tryz.underlying22 hiI hI0 hI1 hI2 rfl (by decide) a' len c' ws rfl rfl HLn.out HNw.out h1c h63 hby ?_)
     intro av cv w6 hown hb6
     have ty6:w6.heap[xb]? = some (.cells #[.bool true,.bool (used n k),.slice none 0 0,.int .i64 0,.int .i64 rm] 88 (0,0)):=(hb6.block _ (by show xb<w5.heap.size;exact hsz5)).trans TY.out
     have HX6:=hide (HXF.out av cv w6 (own_lower hown (by show xb≤w5.heap.size;omega)) ty6 (HBR5.out.trans ⟨hb6.os,hb6.tape,hb6.output,hb6.size,fun g hg=>hb6.block g (Nat.lt_of_lt_of_le hg HBR5.out.size)⟩))
     obtain ⟨y2,yf2⟩:=blk_cell (l:=[_,_,_,_,_]) ty6 2 _ rfl
     clear hown hb6 ty6 HXF x2 xf2 b1 d1 HNw HLn h1c
     go_wp2
     go_meet
     exact ⟨⟨_,rfl⟩,HX6.out⟩
    ·have hsd:srcd n k=false:=by
      rw [srcd, ← source_none];simpa using hsx
     have hsx':sourceIx n.sources k<0:=by omega
     have HX6:Hid (XAt wr xb n k w4):=by
      have ewd:((initR n n.streams).s k).words=[]:=by rw [HIS.out,hsd];rfl
      refine ⟨⟨none,0,?_,?_⟩,HBR4.out⟩
      ·rw [ewd,hsd,HRM.out];exact TX.out
      ·rw [ewd];exact ⟨rfl,Or.inl ⟨rfl,rfl⟩⟩
     clear hsx hsd
     generalize sourceIx n.sources k=sx at *
     go_wp2
     go_meet
     exact ⟨⟨_,rfl⟩,HX6.out⟩
   case rest=>
    obtain ⟨⟨sx,rfl⟩,hX⟩:=hcut
    obtain ⟨a',c',hx1,hx2⟩:=hX.ex
    have hxb2:=hX.below
    rw [HRM.out] at hx1
    have hl5:(sCells n ((initR n n.streams).s k) k (.slice a' ((initR n n.streams).s k).words.length c'))=[.bool (srcd n k),.bool (used n k),.slice a' ((initR n n.streams).s k).words.length c',.int .i64 0,.int .i64 rm]:=by
     have hr0:((initR n n.streams).s k).read=0:=by rw [HIS.out]
     have hr1:(((initR n n.streams).s k).room:Int)=rm:=by
      have:=valid_room0 hok k hlt
      rw [HIS.out];show ((n.streams.getD k 0).toNat:Int)=rm
      rw [HRM.out] at this ⊢;omega
     unfold sCells;rw [hr0,hr1];rfl
    obtain ⟨av,cv,hv⟩:=own_slice HR.out.rowS
    subst hv
    have hrow:wc.ownsRow (q+1) 88 5 (.slice av k cv) k ((List.range k).flatMap fun s=>sCells n ((initR n n.streams).s s) s (VW s)):=own_of_blockB HR.out.rowS fun g hg=>hxb2.block g (HR.out.rowS.lt g hg).2
    have hqb:=(hxb2.block _ (lt_of_blk HR.out.blk)).trans HR.out.blk
    have hqlt:=lt_of_blk hqb
    obtain ⟨c0,f0⟩:=blk_cell (l:=[_,_]) hqb 0 _ rfl
    obtain ⟨x0, -⟩:=blk_cell (l:=[_,_,_,_,_]) hx1 0 _ rfl
    obtain ⟨x1, -⟩:=blk_cell (l:=[_,_,_,_,_]) hx1 1 _ rfl
    obtain ⟨x2, -⟩:=blk_cell (l:=[_,_,_,_,_]) hx1 2 _ rfl
    obtain ⟨x3, -⟩:=blk_cell (l:=[_,_,_,_,_]) hx1 3 _ rfl
    obtain ⟨x4, -⟩:=blk_cell (l:=[_,_,_,_,_]) hx1 4 _ rfl
    have hxl:=lt_of_blk hx1
    have h63:k+1≤maxLen:=by unfold maxLen;omega
    have hbytes:(k+1)*48≤140737488355328:=by omega
    have hq1:q+1≤wc.heap.size:=hqlt
    have HFn:Hid (∀ w6 g cap,w6.ownsRow (q+1) 88 5 (.slice (some ⟨g,0,none⟩) (k+1) cap) (k+1) ((List.range k).flatMap (fun s=>sCells n ((initR n n.streams).s s) s (VW s))++[.bool (srcd n k),.bool (used n k),.slice a' ((initR n n.streams).s k).words.length c',.int .i64 0,.int .i64 rm])→((wc.alloc (.cells #[.bool (srcd n k),.bool (used n k),.slice a' ((initR n n.streams).s k).words.length c',.int .i64 0,.int .i64 rm] 88)).drew).grownBy w6 (Value.slice av k cv).ownBlock →
      (w6.cell? ⟨q,0,none⟩=some (.slice av k cv)∧w6.frozen? ⟨q,0,none⟩=false)∧∃ VW',RefN wz w bx w.heap.size q n (k+1) 0 VW' (fun _=>.bool false) (.slice (some ⟨g,0,none⟩) (k+1) cap) (.slice none 0 0) (w6.setCell ⟨q,0,none⟩ (.slice (some ⟨g,0,none⟩) (k+1) cap))):=fun w6 g cap ho hg=>by
     rw [← hl5] at ho
     obtain ⟨r1, -,r3⟩:=HR.out.nextS (wA:=wc.drew) hxb2.drew hx2 ho hg
     have r1':=r1.trans HR.out.blk
     exact ⟨blk_cell (l:=[_,_]) r1' 0 _ rfl,_,r3⟩
    have HRo:=hide hrow
    clear hX hx1 hx2 hxb2 hl5 hrow hqb
    generalize hrS:(List.range k).flatMap (fun s=>sCells n ((initR n n.streams).s s) s (VW s))=rS at *
    clear hrS
    generalize ((initR n n.streams).s k).words.length=len at *
    have HOw:Hid (((wc.alloc (.cells #[.bool (srcd n k),.bool (used n k),.slice a' len c',.int .i64 0,.int .i64 rm] 88)).drew).ownsRow (q+1) 88 5 (.slice av k cv) k rS):=(HRo.out.alloc _)
    have HNw:Hid (∀ (j:Nat) (u:Value),([.bool (srcd n k),.bool (used n k),.slice a' len c',.int .i64 0,.int .i64 rm]:List Value)[j]? = some u→((wc.alloc (.cells #[.bool (srcd n k),.bool (used n k),.slice a' len c',.int .i64 0,.int .i64 rm] 88)).drew).cell? ((⟨wc.heap.size,0,none⟩:Addr).add j)=some u):=fun j u hu=>World.news_of_block (w:=((wc.alloc (.cells #[.bool (srcd n k),.bool (used n k),.slice a' len c',.int .i64 0,.int .i64 rm] 88)).drew)) (B:=wc.heap.size) (heap_alloc_new wc _) j u (by simpa using hu)
    have HOn:Hid (∀ u∈([.bool (srcd n k),.bool (used n k),.slice a' len c',.int .i64 0,.int .i64 rm]:List Value),u.oneCell'=true):=fun u hu=>by
     simp only [List.mem_cons,List.not_mem_nil,or_false] at hu
     rcases hu with rfl | rfl | rfl | rfl | rfl<;>rfl
    have HSz:Hid (q+1≤((wc.alloc (.cells #[.bool (srcd n k),.bool (used n k),.slice a' len c',.int .i64 0,.int .i64 rm] 88)).drew).heap.size∧((wc.alloc (.cells #[.bool (srcd n k),.bool (used n k),.slice a' len c',.int .i64 0,.int .i64 rm] 88)).drew).heap.size=wc.heap.size+1):=⟨by simp;omega,by simp⟩
    clear HRo HR HBR4 HBW4 TX T4 HIS
    go_wp2
    go_region_law (refine step_append_lies _ rfl (.tmp 58) (.tmp 60) 81 rfl (q+1) 88 iS (.agg #[.bool false,.bool false,.slice none 0 0,.int .i64 0,.int .i64 0]) 5 48 Tryz.underlying81 hiS hS0 hS1 hS2 rfl (by decide) (.slice av k cv) k rS (by simp [Act.eval]) HOw.out ⟨wc.heap.size,0,none⟩ 1 1 [.bool (srcd n k),.bool (used n k),.slice a' len c',.int .i64 0,.int .i64 rm] (by simp [Act.eval]) rfl HNw.out HOn.out (by decide) h63 hbytes HSz.out.1 (wc.heap.size+1) HSz.out.2 ?_;intro gq gc w6 ho hgr hor hglt;obtain ⟨⟨yc,yf⟩,yr⟩:=HFn.out w6 gq gc ho hgr;have YR:=hide yr;clear ho hgr hor hglt yr)
    all_goals
     go_wp2
     go_roundw
     case rel=>
      obtain ⟨VW',yr⟩:=YR.out
      exact ⟨k+1,VW',_,by omega,by go_num,yr⟩
     case measure=>simp [intOf];omega
  ·have hke:k=n.streams.length:=by omega
   subst hke
   have HR:=hide hr
   clear t0 hr HSt HSr HUs HSo HWd
   go_wp2
   clear b0 b1 b2
   go_loopw [10] (fun i wr=>∃ (j:Nat) (VC:Nat→Value) (vW:Value),j≤n.workers.length∧i=.int .i64 j∧RefN wz w bx w.heap.size q n n.streams.length j VW VC vS vW wr) (fun i _=>n.workers.length-(intOf i).toNat)
   case atStart=>exact ⟨0,_,_,Nat.zero_le _,rfl,HR.out⟩
   case round=>
    clear HR
    obtain ⟨j,VC,vW,hj,rfl,hr⟩:=hrel
    have t0:=hr.box
    rw [hbx] at t0
    obtain ⟨b2, -⟩:=blk_cell (l:=[_,_,_]) t0 2 _ rfl
    by_cases hlt2:j<n.workers.length
    ·obtain ⟨b,off,a',c',haw,hbl,hcell,hcode⟩:=HWk.out j hlt2
     have d0:=hcell wr hr.below
     obtain ⟨av,cv,hv⟩:=own_slice hr.rowW
     subst hv
     have hqlt:=lt_of_blk hr.blk
     obtain ⟨c1,f1⟩:=blk_cell (l:=[_,_]) hr.blk 1 _ rfl
     have hj0:(0:Int)≤(j:Int):=by omega
     have hj1:(j:Int)<(n.workers.length:Int):=by omega
     have h63:j+1≤maxLen:=by unfold maxLen;omega
     have hbytes:(j+1)*72≤140737488355328:=by omega
     have HFn:Hid (∀ w6 g cap,w6.ownsRow (q+1) 92 7 (.slice (some ⟨g,0,none⟩) (j+1) cap) (j+1) ((List.range j).flatMap (fun i=>wCells (VC i) ⟨0,fun _=>0,0⟩)++[.slice a' (codeOf n j).length c',.int .i64 0,.int .i64 0,.int .i64 0,.int .i64 0,.int .i64 0,.int .i64 0])→((wr.alloc (.cells #[.slice a' (codeOf n j).length c',.int .i64 0,.int .i64 0,.int .i64 0,.int .i64 0,.int .i64 0,.int .i64 0] 92)).drew).grownBy w6 (Value.slice av j cv).ownBlock →
       (w6.cell? ⟨q,1,none⟩=some (.slice av j cv)∧w6.frozen? ⟨q,1,none⟩=false)∧∃ VC',RefN wz w bx w.heap.size q n n.streams.length (j+1) VW VC' vS (.slice (some ⟨g,0,none⟩) (j+1) cap) (w6.setCell ⟨q,1,none⟩ (.slice (some ⟨g,0,none⟩) (j+1) cap))):=fun w6 g cap ho hg=>by
      obtain ⟨r1,r3⟩:=hr.nextW hcode ho hg
      have r1':=r1.trans hr.blk
      exact ⟨blk_cell (l:=[_,_]) r1' 1 _ rfl,_,r3⟩
     have HRo:=hide hr.rowW
     have hwl:=lt_of_cell d0
     have hszr:=lt_of_blk t0
     subst haw
     clear hr hcode hcell t0 HWk
     generalize hrW:(List.range j).flatMap (fun i=>wCells (VC i) ⟨0,fun _=>0,0⟩)=rW at *
     clear hrW
     generalize (codeOf n j).length=len at *
     have HOw:Hid (((wr.alloc (.cells #[.slice a' len c',.int .i64 0,.int .i64 0,.int .i64 0,.int .i64 0,.int .i64 0,.int .i64 0] 92)).drew).ownsRow (q+1) 92 7 (.slice av j cv) j rW):=(HRo.out.alloc _)
     have HNw:Hid (∀ (j:Nat) (u:Value),([.slice a' len c',.int .i64 0,.int .i64 0,.int .i64 0,.int .i64 0,.int .i64 0,.int .i64 0]:List Value)[j]? = some u→((wr.alloc (.cells #[.slice a' len c',.int .i64 0,.int .i64 0,.int .i64 0,.int .i64 0,.int .i64 0,.int .i64 0] 92)).drew).cell? ((⟨wr.heap.size,0,none⟩:Addr).add j)=some u):=fun j u hu=>World.news_of_block (w:=((wr.alloc (.cells #[.slice a' len c',.int .i64 0,.int .i64 0,.int .i64 0,.int .i64 0,.int .i64 0,.int .i64 0] 92)).drew)) (B:=wr.heap.size) (heap_alloc_new wr _) j u (by simpa using hu)
     have HOn:Hid (∀ u∈([.slice a' len c',.int .i64 0,.int .i64 0,.int .i64 0,.int .i64 0,.int .i64 0,.int .i64 0]:List Value),u.oneCell'=true):=fun u hu=>by
      simp only [List.mem_cons,List.not_mem_nil,or_false] at hu
      rcases hu with rfl | rfl | rfl | rfl | rfl | rfl | rfl<;>rfl
     have HSz:Hid (q+1≤((wr.alloc (.cells #[.slice a' len c',.int .i64 0,.int .i64 0,.int .i64 0,.int .i64 0,.int .i64 0,.int .i64 0] 92)).drew).heap.size∧((wr.alloc (.cells #[.slice a' len c',.int .i64 0,.int .i64 0,.int .i64 0,.int .i64 0,.int .i64 0,.int .i64 0] 92)).drew).heap.size=wr.heap.size+1):=⟨by simp;omega,by simp⟩
     clear HRo
     go_wp2
     go_region_law (refine step_append_lies _ rfl (.tmp 75) (.tmp 82) 82 rfl (q+1) 92 iW (.agg #[.slice none 0 0,.int .i64 0,.int .i64 0,.int .i64 0,.int .i64 0,.int .i64 0,.int .i64 0]) 7 72 Tryz.underlying82 hiW hW0 hW1 hW2 rfl (by decide) (.slice av j cv) j rW (by simp [Act.eval]) HOw.out ⟨wr.heap.size,0,none⟩ 1 1 [.slice a' len c',.int .i64 0,.int .i64 0,.int .i64 0,.int .i64 0,.int .i64 0,.int .i64 0] (by simp [Act.eval]) rfl HNw.out HOn.out (by decide) h63 hbytes HSz.out.1 (wr.heap.size+1) HSz.out.2 ?_;intro gq gc w6 ho hgr hor hglt;obtain ⟨⟨yc,yf⟩,yr⟩:=HFn.out w6 gq gc ho hgr;have YR:=hide yr;clear ho hgr hor hglt yr)
     all_goals
      go_wp2
      go_roundw
      case rel=>
       obtain ⟨VC',yr⟩:=YR.out
       exact ⟨j+1,VC',_,by omega,by go_num,yr⟩
      case measure=>simp [intOf];omega
    ·have hje:j=n.workers.length:=by omega
     subst hje
     have HFin:=hide (hr.done HWc.out hok)
     have HFb:=hide hr.below
     clear hr t0 HWk
     go_wp2
     go_ret
     exact ⟨q,rfl,HFin.out,HFb.out⟩
theorem RefAt.wc {L:RLay} {w:World} {N:Net} {R:Rc} (h:RefAt L w N R) {k:Nat} (hk:k<N.workers.length) (j:Nat) (v:Value) (hj:j<7) (hv:(wCells (L.VC k) (R.w k))[j]? = some v):w.cell? ⟨L.gW,k*7+j,none⟩=some v:=by
 obtain ⟨cs,hb,hc⟩:=h.rowW
 exact row_cell hb ((hc k hk j hj).trans hv)
theorem RefAt.sc {L:RLay} {w:World} {N:Net} {R:Rc} (h:RefAt L w N R) {s:Nat} (hs:s<N.streams.length) (j:Nat) (v:Value) (hj:j<5) (hv:(sCells N (R.s s) s (L.VW s))[j]? = some v):w.cell? ⟨L.gS,s*5+j,none⟩=some v:=by
 obtain ⟨cs,hb,hc⟩:=h.rowS
 exact row_cell hb ((hc s hs j hj).trans hv)
set_option maxRecDepth 100000 in
set_option maxHeartbeats 4000000 in
theorem refState_calls {L:RLay} {w:World} {N:Net} {R:Rc} (h:RefAt L w N R) (k:Nat) (hk:k<N.workers.length) :
  Calls Tryz.prog 63 #[.pointer (some ⟨L.p,0,none⟩),.int .i64 k] w fun e w'=>e=.returned (.int .i64 (stateOf N R k))∧Below w.heap.size w w':=by
 obtain ⟨hc1,hc2,hc3,hc4⟩:=valid_counts h.ok
 obtain ⟨p0, -⟩:=blk_cell (l:=[_,_]) h.blk 0 _ rfl
 obtain ⟨p1, -⟩:=blk_cell (l:=[_,_]) h.blk 1 _ rfl
 have w0:w.cell? ⟨L.gW,k*7,none⟩=some (L.VC k):=h.wc hk 0 _ (by decide) rfl
 have w1:=h.wc hk 1 _ (by decide) rfl
 have w2:=h.wc hk 2 _ (by decide) rfl
 have w3:=h.wc hk 3 _ (by decide) rfl
 have w4:=h.wc hk 4 _ (by decide) rfl
 have w5:=h.wc hk 5 _ (by decide) rfl
 have w6:=h.wc hk 6 _ (by decide) rfl
 have HH:=hide h
 obtain ⟨ca,cc,hvc,hc63,hccap,hcells⟩:=(h.code k hk).openD
 rw [hvc] at w0
 have hk0:(0:Int)≤(k:Int):=by omega
 have hk1:(k:Int)<(N.workers.length:Int):=by omega
 have HC:=hide hcells
 have z0:=lt_of_cell p0
 clear hcells h hvc
 go_enter Tryz.func63,Tryz.ntmps63
 have HSt:Hid (stateOf N R k=match insAt N k (R.w k) with
  | none=>4
  | some i=>
   if i.op=1∧srcd N i.b.toNat=false∧(R.s i.b.toNat).read=(R.s i.b.toNat).words.length then 2
   else if i.op=2∧used N i.b.toNat=true∧(R.s i.b.toNat).room≤(R.s i.b.toNat).words.length-(R.s i.b.toNat).read then 3
   else 1):=rfl
 generalize stateOf N R k=st at *
 by_cases hpl:(R.w k).place<(codeOf N k).length
 ·obtain ⟨cb,co,rfl,hcb,hcell⟩:=HC.out _ hpl
  obtain ⟨d0,d1,d2,d3⟩:=hcell w (Below.refl _ _)
  have hins:insAt N k (R.w k)=some ((codeOf N k).getD (R.w k).place ⟨0,0,0,0⟩):=by
   unfold insAt
   rw [getD_eq _ _ _ hpl,List.getElem?_eq_getElem hpl]
  have hval:=valid_ins HH.out.ok hk (i:=(codeOf N k).getD (R.w k).place ⟨0,0,0,0⟩) (by rw [getD_eq _ _ _ hpl];exact List.getElem_mem hpl)
  have hst:=HSt.out
  rw [hins] at hst
  dsimp only at hst
  generalize (codeOf N k).getD (R.w k).place ⟨0,0,0,0⟩=i at *
  have hp0:(0:Int)≤((R.w k).place:Int):=by omega
  have hp1:((R.w k).place:Int)<((codeOf N k).length:Int):=by omega
  clear hins hcell HSt HC
  obtain ⟨iop,ia,ib,ic⟩:=i
  dsimp only at d0 d1 d2 d3 hst
  have hgeq:decide (((codeOf N k).length:Int)≤((R.w k).place:Int))=false:=by simp;omega
  by_cases h1:iop=1
  ·have hb:=valid_stream hval (Or.inl h1)
   dsimp only at hb
   obtain ⟨s,rfl⟩:∃ s:Nat,ib=s:=⟨ib.toNat,by omega⟩
   have hs:s<N.streams.length:=by omega
   subst h1
   rw [Int.toNat_natCast] at hst
   obtain ⟨av,cv,hv⟩:=own_slice (HH.out.words s hs)
   have c0:w.cell? ⟨L.gS,s*5,none⟩=some (.bool (srcd N s)):=HH.out.sc hs 0 _ (by decide) rfl
   have c2:=HH.out.sc hs 2 _ (by decide) rfl
   have c3:=HH.out.sc hs 3 _ (by decide) rfl
   rw [hv] at c2
   have z1:=lt_of_cell c0
   have hs0:(0:Int)≤(s:Int):=by omega
   have hs1:(s:Int)<(N.streams.length:Int):=by omega
   clear hval hb hv
   cases hsr:srcd N s
   ·rw [hsr] at c0
    by_cases hre:(R.s s).read=(R.s s).words.length
    ·have e2:st=2:=by rw [hst,if_pos ⟨rfl,hsr,hre⟩]
     have q:(((R.s s).read:Int) == ((R.s s).words.length:Int))=true:=by simp [hre]
     subst e2
     clear hst hre hsr
     go_wp2
     go_quiet (fail)
     go_wp2
     go_ret
     exact ⟨rfl,below_drewN (((Below.refl _ _).alloc (Nat.le_refl _) _).alloc (by simp) _) _⟩
    ·have e1:st=1:=by rw [hst,if_neg (fun e=>hre e.2.2),if_neg (fun e=>absurd e.1 (by decide))]
     have q:(((R.s s).read:Int) == ((R.s s).words.length:Int))=false:=by simp;omega
     subst e1
     clear hst hre hsr
     go_wp2
     go_quiet (fail)
     go_wp2
     go_quiet (fail)
     go_wp2
     go_ret
     exact ⟨rfl,below_drewN (below_drewN (((Below.refl _ _).alloc (Nat.le_refl _) _).alloc (by simp) _) _) _⟩
   ·rw [hsr] at c0
    have e1:st=1:=by rw [hst,if_neg (fun e=>by rw [hsr] at e;exact absurd e.2.1 (by decide)),if_neg (fun e=>absurd e.1 (by decide))]
    subst e1
    clear hst hsr
    go_wp2
    go_quiet (fail)
    go_wp2
    go_quiet (fail)
    go_wp2
    go_ret
    exact ⟨rfl,below_drewN (below_drewN (((Below.refl _ _).alloc (Nat.le_refl _) _).alloc (by simp) _) _) _⟩
  ·by_cases h2:iop=2
   ·have hb:=valid_stream hval (Or.inr h2)
    dsimp only at hb
    obtain ⟨s,rfl⟩:∃ s:Nat,ib=s:=⟨ib.toNat,by omega⟩
    have hs:s<N.streams.length:=by omega
    subst h2
    rw [Int.toNat_natCast] at hst
    have hrl:=HH.out.le s hs
    obtain ⟨av,cv,hv,hln⟩:∃ av cv,L.VW s=.slice av (R.s s).words.length cv∧(R.s s).words.length≤maxLen:=by
     rcases (HH.out.words s hs).2 with ⟨h1,h2⟩ | ⟨g,cap,cur,h1, -, -,h2,h3, -⟩
     ·exact ⟨none,0,by rw [h1,h2],by rw [h2];exact Nat.zero_le _⟩
     ·exact ⟨_,cap,h1,Nat.le_trans h2 h3⟩
    have c1:=HH.out.sc hs 1 _ (by decide) rfl
    have c2:=HH.out.sc hs 2 _ (by decide) rfl
    have c3:=HH.out.sc hs 3 _ (by decide) rfl
    have c4:=HH.out.sc hs 4 _ (by decide) rfl
    rw [hv] at c2
    have z1:=lt_of_cell c1
    have hs0:(0:Int)≤(s:Int):=by omega
    have hs1:(s:Int)<(N.streams.length:Int):=by omega
    unfold maxLen at hln
    have wr1:IntKind.i64.wrap (((R.s s).words.length:Int)-((R.s s).read:Int))=((R.s s).words.length:Int)-((R.s s).read:Int):=by rw [IntKind.wrap_i64];omega
    clear hval hb hv
    cases hus:used N s
    ·rw [hus] at c1
     have e1:st=1:=by rw [hst,if_neg (fun e=>absurd e.1 (by decide)),if_neg (fun e=>by rw [hus] at e;exact absurd e.2.1 (by decide))]
     subst e1
     clear hst hus h1
     go_wp2
     go_quiet (fail)
     go_wp2
     go_quiet (fail)
     go_wp2
     go_ret
     exact ⟨rfl,below_drewN (below_drewN (((Below.refl _ _).alloc (Nat.le_refl _) _).alloc (by simp) _) _) _⟩
    ·rw [hus] at c1
     by_cases hro:(R.s s).room≤(R.s s).words.length-(R.s s).read
     ·have e3:st=3:=by rw [hst,if_neg (fun e=>absurd e.1 (by decide)),if_pos ⟨rfl,hus,hro⟩]
      have q:((R.s s).room:Int)≤((R.s s).words.length:Int)-((R.s s).read:Int):=by omega
      subst e3
      clear hst hus h1 hro
      go_wp2
      go_quiet (fail)
      go_wp2
      go_quiet (fail)
      go_wp2
      go_ret
      exact ⟨rfl,below_drewN (below_drewN (((Below.refl _ _).alloc (Nat.le_refl _) _).alloc (by simp) _) _) _⟩
     ·have e1:st=1:=by rw [hst,if_neg (fun e=>absurd e.1 (by decide)),if_neg (fun e=>hro e.2.2)]
      have q:¬ ((R.s s).room:Int)≤((R.s s).words.length:Int)-((R.s s).read:Int):=by omega
      subst e1
      clear hst hus h1 hro
      go_wp2
      go_quiet (fail)
      go_wp2
      go_quiet (fail)
      go_wp2
      go_ret
      exact ⟨rfl,below_drewN (below_drewN (((Below.refl _ _).alloc (Nat.le_refl _) _).alloc (by simp) _) _) _⟩
   ·have e1:st=1:=by rw [hst,if_neg (fun e=>h1 e.1),if_neg (fun e=>h2 e.1)]
    subst e1
    have q1:(iop == 1)=false:=by simp [h1]
    have q2:(iop == 2)=false:=by simp [h2]
    clear hval hst h1 h2
    go_wp2
    go_quiet (fail)
    go_wp2
    go_quiet (fail)
    go_wp2
    go_ret
    exact ⟨rfl,below_drewN (below_drewN (((Below.refl _ _).alloc (Nat.le_refl _) _).alloc (by simp) _) _) _⟩
 ·have e4:st=4:=by
   rw [HSt.out]
   unfold insAt
   rw [List.getElem?_eq_none (by omega)]
  subst e4
  have hpl':((codeOf N k).length:Int)≤((R.w k).place:Int):=by omega
  go_wp2
  go_ret
  exact ⟨rfl,(Below.refl _ _).alloc (Nat.le_refl _) _⟩
set_option maxRecDepth 100000 in
theorem refLess_calls (a b:Int) (w:World):Calls Tryz.prog 84 #[.int .i64 a,.int .i64 b] w fun e w'=>e=.returned (.int .i64 (if a<b then 1 else 0))∧w'=w:=by
 by_cases h:a<b
 ·rw [if_pos h]
  go_enter Tryz.func84,Tryz.ntmps84
  go_wp2
  go_ret
  exact ⟨rfl,rfl⟩
 ·rw [if_neg h]
  go_enter Tryz.func84,Tryz.ntmps84
  go_wp2
  go_ret
  exact ⟨rfl,rfl⟩
def set7 (cs:List Value) (k:Nat) (v0 v1 v2 v3 v4 v5 v6:Value):List Value:=((((((cs.set (k*7) v0).set (k*7+1) v1).set (k*7+2) v2).set (k*7+3) v3).set (k*7+4) v4).set (k*7+5) v5).set (k*7+6) v6
theorem blk_set7 {w:World} {g:Nat} {cs:List Value} {t:TypeId} (hb:w.heap[g]? = some (.cells cs.toArray t (0,0))) (k:Nat) (v0 v1 v2 v3 v4 v5 v6:Value) :
  (((((((w.setCell ⟨g,k*7,none⟩ v0).setCell ⟨g,k*7+1,none⟩ v1).setCell ⟨g,k*7+2,none⟩ v2).setCell ⟨g,k*7+3,none⟩ v3).setCell ⟨g,k*7+4,none⟩ v4).setCell ⟨g,k*7+5,none⟩ v5).setCell ⟨g,k*7+6,none⟩ v6).heap[g]? = some (.cells (set7 cs k v0 v1 v2 v3 v4 v5 v6).toArray t (0,0)):=
 blk_set (blk_set (blk_set (blk_set (blk_set (blk_set (blk_set hb _ _) _ _) _ _) _ _) _ _) _ _) _ _
theorem get7_same {cs:List Value} {k:Nat} (v0 v1 v2 v3 v4 v5 v6:Value) (hl:k*7+6<cs.length) (j:Nat) (hj:j<7):(set7 cs k v0 v1 v2 v3 v4 v5 v6)[k*7+j]? = ([v0,v1,v2,v3,v4,v5,v6]:List Value)[j]? := by
 unfold set7
 rcases (show j=0∨j=1∨j=2∨j=3∨j=4∨j=5∨j=6 by omega) with rfl | rfl | rfl | rfl | rfl | rfl | rfl<;>simp [List.getElem?_set]<;>omega
theorem get7_other {cs:List Value} {k:Nat} (v0 v1 v2 v3 v4 v5 v6:Value) (i j:Nat) (hj:j<7) (hi:i≠k):(set7 cs k v0 v1 v2 v3 v4 v5 v6)[i*7+j]? = cs[i*7+j]? := by
 unfold set7
 repeat rw [List.getElem?_set_ne (by omega)]
set_option maxRecDepth 100000 in
set_option maxHeartbeats 4000000 in
theorem refStep_no {L:RLay} {w:World} {N:Net} {R:Rc} (h:RefAt L w N R) (k:Nat) (hk:k<N.workers.length) (hst:stateOf N R k≠1) :
  Calls Tryz.prog 61 #[.pointer (some ⟨L.p,0,none⟩),.int .i64 k] w fun e w'=>e=.returned (.int .i64 (stateOf N R k))∧Below w.heap.size w w':=by
 have HS:=hide (refState_calls h k hk)
 have q:(((stateOf N R k:Nat):Int) != 1)=true:=by simp;omega
 generalize stateOf N R k=st at *
 clear h
 go_enter Tryz.func61,Tryz.ntmps61
 go_wp2_with fail
 refine (unhide HS).mono ?_
 rintro e w1 ⟨rfl,hb⟩
 have HB:=hide hb
 clear hb HS
 go_wp2
 go_ret
 exact ⟨rfl,HB.out⟩
end Go.Proofs.YthfdgdfnflilfaaGreatDoor

/- Part 35: RefL6, RefL7, RefLA. -/
import Derived.Test.YthfdgdfnflilfaaGreatDoorPart30
namespace Go.Proofs.YthfdgdfnflilfaaGreatDoor
open Go.RowKit Go.Conc
structure RAtS (p gS gW cS cW B:Nat) (wz w0:World) (N:Net) (l:List Int) (X:Option (Rc×List Int)) (k pos:Nat) (wr:World):Prop where
 ex:∃ L R,(L.p=p∧L.gS=gS∧L.gW=gW∧L.cS=cS∧L.cW=cW)∧RefAt L wr N R∧(∀ b,RFoot L N b→B≤b)∧(∀ a,a<N.workers.length→CodeAt wz (L.VC a) (codeOf N a))∧Half N R∧(∀ s,k≤s→s<N.streams.length→R.s s=(initR N N.streams).s s)∧parseS N (N.streams.length-k) R (l.drop pos)=X
 pos:pos≤l.length
 below:Below B w0 wr
theorem RAtW.last {p gS gW cS cW B:Nat} {wz w0:World} {N:Net} {l:List Int} {X:Option (Rc×List Int)} {pos:Nat} {wr:World} (h:RAtW p gS gW cS cW B wz w0 N l X N.workers.length pos wr):RAtS p gS gW cS cW B wz w0 N l X 0 pos wr:=by
 obtain ⟨L,R,h1,h2,h3,h4,h5,h6,h7⟩:=h.ex
 rw [Nat.sub_self] at h7
 exact ⟨⟨L,R,h1,h2,h3,h4,h5,fun s _ _=>by unfold Rc.s;rw [h6],h7⟩,h.pos,h.below⟩
theorem RAtS.parts {p gS gW cS cW B:Nat} {wz w0:World} {N:Net} {l:List Int} {X:Option (Rc×List Int)} {k pos:Nat} {wr:World} (h:RAtS p gS gW cS cW B wz w0 N l X k pos wr):wr.cell? ⟨p,0,none⟩=some (.slice (some ⟨gS,0,none⟩) N.streams.length cS):=by
 obtain ⟨L,R,⟨rfl,rfl,rfl,rfl,rfl⟩,h1, -⟩:=h.ex
 exact (blk_cell (l:=[_,_]) h1.blk 0 _ rfl).1
structure XLd (L:RLay) (W0:World) (N:Net) (k xb:Nat) (vw:Value) (ws:List Int) (rd ro:Int) (wr:World):Prop where
 blk:wr.heap[xb]? = some (.cells #[.bool (srcd N k),.bool (used N k),vw,.int .i64 rd,.int .i64 ro] 88 (0,0))
 own:wr.ownsRow 0 3 1 vw ws.length (intRow ws)
 fr:Fr (fun b=>(L.VW k).ownBlock=some b) W0 wr
 xn:W0.heap.size≤xb
 vwn:∀ g,vw.ownBlock=some g→(L.VW k).ownBlock=some g∨W0.heap.size≤g
section
variable {L:RLay} {W0 wr:World} {N:Net} {R:Rc} {k xb:Nat} {vw:Value} {ws:List Int} {rd ro:Int}
theorem XLd.start (h:RefAt L W0 N R) (hk:k<N.streams.length):XLd L W0 N k W0.heap.size (L.VW k) (R.s k).words (R.s k).read (R.s k).room (W0.alloc (.cells #[.bool (srcd N k),.bool (used N k),L.VW k,.int .i64 (R.s k).read,.int .i64 (R.s k).room] 88)):=
 ⟨heap_alloc_new _ _,own_of_blockB (h.words k hk) fun g hg=>Below.heap_alloc _ _ _ ((h.words k hk).lt g hg).2,(Fr.refl _ _).alloc _,Nat.le_refl _,fun _ hg=>Or.inl hg⟩
theorem XLd.below (h:XLd L W0 N k xb vw ws rd ro wr) {w':World} (hb:Below wr.heap.size wr w'):XLd L W0 N k xb vw ws rd ro w':=
 ⟨(hb.block _ (lt_of_blk h.blk)).trans h.blk,own_of_blockB h.own fun g hg=>hb.block g (h.own.lt g hg).2,h.fr.trans (Fr.of_below hb) fun _ _ e=>e,h.xn,h.vwn⟩
theorem XLd.ownx (h:XLd L W0 N k xb vw ws rd ro wr):vw.ownBlock≠some xb:=own_ne_type h.own h.blk (by decide)
theorem XLd.read (h:XLd L W0 N k xb vw ws rd ro wr) (v:Int):XLd L W0 N k xb vw ws v ro (wr.setCell ⟨xb,3,none⟩ (.int .i64 v)):=
 ⟨blk_set (l:=[_,_,_,_,_]) h.blk 3 _,own_of_blockB h.own fun g hg=>heap_setCell_other _ _ _ _ (fun e=>h.ownx (by rw [hg];exact congrArg some e)),h.fr.setCell (p:=⟨xb,3,none⟩) (Or.inl h.xn) _,h.xn,h.vwn⟩
theorem XLd.room (h:XLd L W0 N k xb vw ws rd ro wr) (v:Int):XLd L W0 N k xb vw ws rd v (wr.setCell ⟨xb,4,none⟩ (.int .i64 v)):=
 ⟨blk_set (l:=[_,_,_,_,_]) h.blk 4 _,own_of_blockB h.own fun g hg=>heap_setCell_other _ _ _ _ (fun e=>h.ownx (by rw [hg];exact congrArg some e)),h.fr.setCell (p:=⟨xb,4,none⟩) (Or.inl h.xn) _,h.xn,h.vwn⟩
theorem XLd.cells (h:XLd L W0 N k xb vw ws rd ro wr):(wr.cell? ⟨xb,0,none⟩=some (.bool (srcd N k))∧wr.cell? ⟨xb,1,none⟩=some (.bool (used N k))∧wr.cell? ⟨xb,2,none⟩=some vw∧wr.cell? ⟨xb,3,none⟩=some (.int .i64 rd)∧wr.cell? ⟨xb,4,none⟩=some (.int .i64 ro))∧wr.frozen? ⟨xb,2,none⟩=false∧wr.frozen? ⟨xb,3,none⟩=false∧wr.frozen? ⟨xb,4,none⟩=false:=
 ⟨⟨(blk_cell (l:=[_,_,_,_,_]) h.blk 0 _ rfl).1,(blk_cell (l:=[_,_,_,_,_]) h.blk 1 _ rfl).1,(blk_cell (l:=[_,_,_,_,_]) h.blk 2 _ rfl).1,(blk_cell (l:=[_,_,_,_,_]) h.blk 3 _ rfl).1,(blk_cell (l:=[_,_,_,_,_]) h.blk 4 _ rfl).1⟩,(blk_cell (l:=[_,_,_,_,_]) h.blk 2 _ rfl).2,(blk_cell (l:=[_,_,_,_,_]) h.blk 3 _ rfl).2,(blk_cell (l:=[_,_,_,_,_]) h.blk 4 _ rfl).2⟩
theorem XLd.word (h:XLd L W0 N k xb vw ws rd ro wr) {x:Int} {o:Obj} {g cap:Nat} {w2:World} (ho:w2.ownsRow 0 3 1 (.slice (some ⟨g,0,none⟩) (ws.length+1) cap) (ws.length+1) (intRow ws++[.int .i64 x])) (hg:(wr.alloc o).grownBy w2 vw.ownBlock) (hor:vw.ownBlock=some g∨g=wr.heap.size+1) :
  (w2.cell? ⟨xb,2,none⟩=some vw∧w2.frozen? ⟨xb,2,none⟩=false)∧XLd L W0 N k xb (.slice (some ⟨g,0,none⟩) (ws.length+1) cap) (ws++[x]) rd ro (w2.setCell ⟨xb,2,none⟩ (.slice (some ⟨g,0,none⟩) (ws.length+1) cap)):=by
 have hx:=lt_of_blk h.blk
 have hb:w2.heap[xb]? = some (.cells #[.bool (srcd N k),.bool (used N k),vw,.int .i64 rd,.int .i64 ro] 88 (0,0)):=by
  rw [hg.block xb (by simp;omega) (fun e=>h.ownx e.symm),Below.heap_alloc _ _ _ hx];exact h.blk
 have hgx:g≠xb:=fun e=>by
  rcases hor with h1 | h1
  ·exact h.ownx (e ▸ h1)
  ·omega
 refine ⟨⟨(blk_cell (l:=[_,_,_,_,_]) hb 2 _ rfl).1,(blk_cell (l:=[_,_,_,_,_]) hb 2 _ rfl).2⟩,⟨blk_set (l:=[_,_,_,_,_]) hb 2 _,?_,?_,h.xn,fun y hy=>?_⟩⟩
 ·rw [List.length_append,intRow_snoc]
  refine own_of_blockB ho fun y hy=>heap_setCell_other _ _ _ _ ?_
  have:g=y:=by simpa [Value.ownBlock] using hy
  rw [← this];exact hgx
 ·refine ((h.fr.alloc o).grown hg fun y hy=>?_).setCell (p:=⟨xb,2,none⟩) (Or.inl h.xn) _
  rcases h.vwn y hy with h1 | h1
  ·exact Or.inr h1
  ·exact Or.inl h1
 ·have:g=y:=by simpa [Value.ownBlock] using hy
  subst this
  rcases hor with h1 | h1
  ·exact h.vwn g h1
  ·exact Or.inr (by have:=h.fr.size;omega)
def set5 (cs:List Value) (k:Nat) (v0 v1 v2 v3 v4:Value):List Value:=((((cs.set (k*5) v0).set (k*5+1) v1).set (k*5+2) v2).set (k*5+3) v3).set (k*5+4) v4
theorem get5_same {cs:List Value} {k:Nat} (v0 v1 v2 v3 v4:Value) (hl:k*5+4<cs.length) (j:Nat) (hj:j<5):(set5 cs k v0 v1 v2 v3 v4)[k*5+j]? = ([v0,v1,v2,v3,v4]:List Value)[j]? := by
 unfold set5
 rcases (show j=0∨j=1∨j=2∨j=3∨j=4 by omega) with rfl | rfl | rfl | rfl | rfl<;>simp [List.getElem?_set]<;>omega
theorem get5_other {cs:List Value} {k:Nat} (v0 v1 v2 v3 v4:Value) (i j:Nat) (hj:j<5) (hi:i≠k):(set5 cs k v0 v1 v2 v3 v4)[i*5+j]? = cs[i*5+j]? := by
 unfold set5
 repeat rw [List.getElem?_set_ne (by omega)]
def putS (w:World) (g k:Nat) (v0 v1 v2 v3 v4:Value):World:=
 ((((w.setCell ⟨g,k*5,none⟩ v0).setCell ⟨g,k*5+1,none⟩ v1).setCell ⟨g,k*5+2,none⟩ v2).setCell ⟨g,k*5+3,none⟩ v3).setCell ⟨g,k*5+4,none⟩ v4
theorem putS_other (w:World) (g k:Nat) (v0 v1 v2 v3 v4:Value) (b:Nat) (h:b≠g):(putS w g k v0 v1 v2 v3 v4).heap[b]? = w.heap[b]? := by
 unfold putS
 rw [heap_setCell_other _ _ _ _ h,heap_setCell_other _ _ _ _ h,heap_setCell_other _ _ _ _ h,heap_setCell_other _ _ _ _ h,heap_setCell_other _ _ _ _ h]
theorem putS_fr (w:World) (g k:Nat) (v0 v1 v2 v3 v4:Value):Fr (fun b=>b=g) w (putS w g k v0 v1 v2 v3 v4):=by
 unfold putS
 have f0:Fr (fun b=>b=g) w w:=Fr.refl _ w
 exact ((((f0.setCell (p:=⟨g,k*5,none⟩) (Or.inr rfl) _).setCell (p:=⟨g,k*5+1,none⟩) (Or.inr rfl) _).setCell (p:=⟨g,k*5+2,none⟩) (Or.inr rfl) _).setCell (p:=⟨g,k*5+3,none⟩) (Or.inr rfl) _).setCell (p:=⟨g,k*5+4,none⟩) (Or.inr rfl) _
theorem XLd.done {rdn ron:Nat} (h:XLd L W0 N k xb vw ws rdn ron wr) (hr:RefAt L W0 N R) (hk:k<N.streams.length) (hle:rdn≤ws.length) (hcode:∀ a,a<N.workers.length→CodeAt (putS wr L.gS k (.bool (srcd N k)) (.bool (used N k)) vw (.int .i64 rdn) (.int .i64 ron)) (L.VC a) (codeOf N a)) :
  RefAt { L with VW:=fun t=>if t=k then vw else L.VW t} (putS wr L.gS k (.bool (srcd N k)) (.bool (used N k)) vw (.int .i64 rdn) (.int .i64 ron)) N ⟨R.W,R.S.set k ⟨ws,rdn,ron⟩⟩:=by
 obtain ⟨cs,hb,hc⟩:=hr.rowS
 have hgl:=lt_of_blk hb
 have hb':wr.heap[L.gS]? = some (.cells cs.toArray 88 (0,0)):=(h.fr.block _ hgl (own_ne_type (hr.words k hk) hb (by decide))).trans hb
 have hl:k*5+4<cs.length:=(List.getElem?_eq_some_iff.1 ((hc k hk 4 (by decide)).trans rfl)).1
 refine hr.stream hk vw ⟨ws,rdn,ron⟩ (set5 cs k (.bool (srcd N k)) (.bool (used N k)) vw (.int .i64 rdn) (.int .i64 ron)) (fun b hf h1 h2=>?_) ?_ (fun t ht j hj=>?_) ?_ (fun t ht hne g hg=>?_) hle hcode
 ·rw [putS_other _ _ _ _ _ _ _ _ _ h1];exact h.fr.block b (hr.foot_lt hf) h2
 ·exact blk_set (blk_set (blk_set (blk_set (blk_set hb' _ _) _ _) _ _) _ _) _ _
 ·by_cases e:t=k
  ·subst e;rw [get5_same _ _ _ _ _ hl j hj,if_pos rfl];rfl
  ·rw [get5_other _ _ _ _ _ t j hj e,if_neg e];exact hc t ht j hj
 ·exact own_of_blockB h.own fun g hg=>putS_other _ _ _ _ _ _ _ _ _ fun e=>own_ne_type h.own hb' (by decide) (e ▸ hg)
 ·rcases h.vwn g hg with h1 | h1
  ·exact hr.inj k t hk ht (fun e=>hne e.symm) g h1
  ·intro h2
   have:=((hr.words t ht).lt g h2).2
   omega
theorem XLd.far (h:XLd L W0 N k xb vw ws rd ro wr) {b i:Nat} (hb:W0.heap.size≤b) (hx:b≠xb) (hv:vw.ownBlock≠some b) (v:Value):XLd L W0 N k xb vw ws rd ro (wr.setCell ⟨b,i,none⟩ v):=
 ⟨(heap_setCell_other _ _ _ _ (fun e=>hx e.symm)).trans h.blk,own_of_blockB h.own fun g hg=>heap_setCell_other _ _ _ _ (fun e=>hv (by rw [hg];exact congrArg some e)),h.fr.setCell (p:=⟨b,i,none⟩) (Or.inl hb) v,h.xn,h.vwn⟩
structure Ld3 (L:RLay) (W0:World) (N:Net) (k xb tb:Nat) (vw:Value) (ws:List Int) (rd ro:Int) (f:Nat→Int) (i:Nat) (wr:World):Prop where
 x:XLd L W0 N k xb vw ws rd ro wr
 three:wr.heap[tb]? = some (.cells (firstL f 3 i).toArray 150 (0,0))
 tn:W0.heap.size≤tb
 ne:tb≠xb
theorem Ld3.own {tb i:Nat} {f:Nat→Int} (h:Ld3 L W0 N k xb tb vw ws rd ro f i wr):vw.ownBlock≠some tb:=own_ne_type h.x.own h.three (by decide)
theorem XLd.three (h:XLd L W0 N k xb vw ws rd ro wr) (f:Nat→Int):Ld3 L W0 N k xb wr.heap.size vw ws rd ro f 0 (wr.alloc (.cells #[.int .i64 0,.int .i64 0,.int .i64 0] 150)):=
 ⟨h.below ((Below.refl _ _).alloc (Nat.le_refl _) _),heap_alloc_new _ _,h.fr.size,fun e=>by have:=lt_of_blk h.blk;omega⟩
theorem Ld3.set {tb i:Nat} {f:Nat→Int} (h:Ld3 L W0 N k xb tb vw ws rd ro f i wr):Ld3 L W0 N k xb tb vw ws rd ro f (i+1) (wr.setCell ⟨tb,i,none⟩ (.int .i64 (f i))):=
 ⟨h.x.far h.tn h.ne h.own _,by rw [blk_set h.three,firstL_set],h.tn,h.ne⟩
theorem Ld3.cell {tb i:Nat} {f:Nat→Int} (h:Ld3 L W0 N k xb tb vw ws rd ro f i wr) (a:Nat) (ha:a<3):wr.cell? ⟨tb,a,none⟩=some (.int .i64 (if a<i then f a else 0))∧wr.frozen? ⟨tb,a,none⟩=false:=⟨row_cell h.three (firstL_get _ _ _ _ ha),row_frozen h.three a⟩
theorem XLd.gcells (h:XLd L W0 N k xb vw ws rd ro wr) (hr:RefAt L W0 N R) (hk:k<N.streams.length):wr.cell? ⟨L.p,0,none⟩=some (.slice (some ⟨L.gS,0,none⟩) N.streams.length L.cS)∧(∀ j,j<5→∃ u,wr.cell? ⟨L.gS,k*5+j,none⟩=some u∧wr.frozen? ⟨L.gS,k*5+j,none⟩=false)∧L.gS≠xb∧L.gS≠L.p∧xb≠L.p:=by
 obtain ⟨cs,hb,hc⟩:=hr.rowS
 have hgl:=lt_of_blk hb
 have hpl:=lt_of_blk hr.blk
 have hxn:=h.xn
 have hb':wr.heap[L.gS]? = some (.cells cs.toArray 88 (0,0)):=(h.fr.block _ hgl (own_ne_type (hr.words k hk) hb (by decide))).trans hb
 have hp':=(h.fr.block _ hpl (own_ne_type (hr.words k hk) hr.blk (by decide))).trans hr.blk
 have n1:L.gS≠xb:=by omega
 have n2:xb≠L.p:=by omega
 refine ⟨(blk_cell (l:=[_,_]) hp' 0 _ rfl).1,fun j hj=>?_,n1,ne_of_types hb hr.blk (by decide),n2⟩
 have e:=hc k hk j hj
 have:∃ u,cs[k*5+j]? = some u:=by
  rw [e]
  rcases (show j=0∨j=1∨j=2∨j=3∨j=4 by omega) with rfl | rfl | rfl | rfl | rfl<;>exact ⟨_,rfl⟩
 obtain ⟨u,hu⟩:=this
 exact ⟨u,row_cell hb' hu,row_frozen hb' _⟩
theorem XLd.next {p gS gW cS cW B:Nat} {wz w0:World} {l:List Int} {X:Option (Rc×List Int)} {pos pos' rdn ron:Nat} (h:XLd L W0 N k xb vw ws rdn ron wr) (hr:RefAt L W0 N R) (hk:k<N.streams.length) (hL:L.p=p∧L.gS=gS∧L.gW=gW∧L.cS=cS∧L.cW=cW) (hfo:∀ b,RFoot L N b→B≤b) (hco:∀ a,a<N.workers.length→CodeAt wz (L.VC a) (codeOf N a)) (hhf:Half N R) (hin:∀ s,k≤s→s<N.streams.length→R.s s=(initR N N.streams).s s) (hpx:parseS N (N.streams.length-k) R (l.drop pos)=X) (hbe:Below B w0 W0) (hz:Below wz.heap.size wz w0) (hzB:wz.heap.size≤B) (hB:B≤W0.heap.size) (hx:∀ x∈l,Fits64 x)
  (hg:getS (srcd N k) (used N k) (R.s k) (l.drop pos)=some (⟨ws,rdn,ron⟩,l.drop pos')) (hp:pos'≤l.length) (q:Nat):RAtS p gS gW cS cW B wz w0 N l X (k+1) pos' ((putS wr L.gS k (.bool (srcd N k)) (.bool (used N k)) vw (.int .i64 rdn) (.int .i64 ron)).drewN q):=by
 obtain ⟨-,hle, -⟩:=getS_some hg
 have f1:=putS_fr wr L.gS k (.bool (srcd N k)) (.bool (used N k)) vw (.int .i64 rdn) (.int .i64 ron)
 have hd:=fun hc=>h.done hr hk hle hc
 generalize putS wr L.gS k (.bool (srcd N k)) (.bool (used N k)) vw (.int .i64 rdn) (.int .i64 ron)=W5 at *
 have hs:=h.fr.size
 have hbb:Below B W0 W5:=by
  refine ⟨f1.os.trans h.fr.os,f1.tape.trans h.fr.tape,f1.output.trans h.fr.output,Nat.le_trans h.fr.size f1.size,fun b hb=>?_⟩
  have e1:=hfo L.gS (Or.inr (Or.inl rfl))
  have n1:b≠L.gS:=by omega
  have n2:b<wr.heap.size:=by omega
  have n3:b<W0.heap.size:=by omega
  rw [f1.block b n2 n1,h.fr.block b n3 (fun e=>by have:=hfo b (Or.inr (Or.inr (Or.inr ⟨k,hk,e⟩)));omega)]
 have hbq:Below B W0 (W5.drewN q):=below_drewN hbb q
 have hz5:Below wz.heap.size wz W5:=hz.trans ((hbe.trans hbb).mono hzB)
 have hzz:Below wz.heap.size wz (W5.drewN q):=below_drewN hz5 q
 have hd5:=hd fun a ha=>(hco a ha).below hz5
 rw [parseS_at hk,hg] at hpx
 refine ⟨⟨{ L with VW:=fun t=>if t=k then vw else L.VW t},⟨R.W,R.S.set k ⟨ws,rdn,ron⟩⟩,hL,hd5.frame (w':=W5.drewN q) (fun _ _=>rfl) (fun a ha=>(hco a ha).below hzz),fun b hb=>?_,hco,hhf.setS hk (fun x hx'=>hx x (List.mem_of_mem_drop hx')) hg,fun s h1 h2=>?_,hpx⟩,hp,hbe.trans hbq⟩
 ·rcases hb with hb | hb | hb | ⟨t,ht,hb⟩
  ·exact hfo b (Or.inl hb)
  ·exact hfo b (Or.inr (Or.inl hb))
  ·exact hfo b (Or.inr (Or.inr (Or.inl hb)))
  ·dsimp only at hb
   by_cases e:t=k
   ·rw [if_pos e] at hb
    rcases h.vwn b hb with h1 | h1
    ·exact hfo b (Or.inr (Or.inr (Or.inr ⟨k,hk,h1⟩)))
    ·omega
   ·rw [if_neg e] at hb
    exact hfo b (Or.inr (Or.inr (Or.inr ⟨t,ht,hb⟩)))
 ·rw [set_s (by rw [hhf.lenS];exact hk),if_neg (by omega)];exact hin s (by omega) h2
end
theorem getS_src {l:List Int} {pos:Nat} {u:Bool} {m0:Sm} (h:pos+1≤l.length) (h0:0≤l.getD pos 0) (h1:l.getD pos 0≤m0.words.length):getS true u m0 (l.drop pos)=some (⟨m0.words,(l.getD pos 0).toNat,m0.room⟩,l.drop (pos+1)):=by
 rw [List.drop_eq_getElem_cons (by omega)]
 rw [getD_eq _ _ _ (by omega)] at h0 h1 ⊢
 simp only [getS,if_true]
 rw [if_pos ⟨h0,h1⟩]
theorem drop3 {l:List Int} {pos:Nat} (h:pos+3≤l.length):l.drop pos=l.getD pos 0::l.getD (pos+1) 0::l.getD (pos+2) 0::l.drop (pos+3):=by
 rw [List.drop_eq_getElem_cons (by omega),List.drop_eq_getElem_cons (by omega),List.drop_eq_getElem_cons (by omega)]
 rw [getD_eq _ _ _ (by omega),getD_eq _ _ _ (by omega),getD_eq _ _ _ (by omega)]
theorem getS_un {l:List Int} {pos a b c:Nat} {u:Bool} {m0:Sm} {f:Nat→Int} (hf:∀ i,f i=l.getD (pos+i) 0) (h:pos+3≤l.length) (e0:f 0=a) (e1:f 1=b) (e2:f 2=c) (h0:c+(pos+3)≤l.length) (h1:b≤c) (h2:m0.room≤a) (h3:a≤40) (h4:u=false→a=m0.room∧b=0) (h5:u=true→c≤b+a) :
  getS false u m0 (l.drop pos)=some (⟨(l.drop (pos+3)).take c,b,a⟩,l.drop (pos+3+c)):=by
 rw [drop3 h]
 have g0:=(hf 0).symm.trans e0
 have g1:=(hf 1).symm.trans e1
 have g2:=(hf 2).symm.trans e2
 rw [Nat.add_zero] at g0
 rw [g0,g1,g2]
 simp only [getS,Bool.false_eq_true,if_false]
 rw [if_pos]
 ·simp [List.drop_drop]
 ·rw [List.length_drop]
  exact ⟨⟨by omega,by omega,by omega,by omega⟩,⟨by omega,by omega⟩,fun e=>⟨by have:=(h4 e).1;omega,by have:=(h4 e).2;omega⟩,fun e=>by have:=h5 e;omega⟩
theorem getS_un_none {l:List Int} {pos:Nat} {u:Bool} {m0:Sm} {f:Nat→Int} (hf:∀ i,f i=l.getD (pos+i) 0) (h:pos+3≤l.length→0≤f 2→f 2+(pos+3)≤l.length→0≤f 1→f 1≤f 2→m0.room≤f 0→f 0≤40→(u=false→f 0=m0.room∧f 1=0)→¬ (u=true→f 2-f 1≤f 0)):getS false u m0 (l.drop pos)=none:=by
 rcases Nat.lt_or_ge l.length (pos+3) with hp | hp
 ·cases hg:getS false u m0 (l.drop pos) with
  | none=>rfl
  | some ml=>
   obtain ⟨m,l'⟩:=ml
   have hl:=congrArg List.length (getS_some hg).1
   rw [List.length_drop,List.length_append] at hl
   simp [stNums] at hl
   omega
 ·rw [drop3 hp]
  have g0:=hf 0
  rw [Nat.add_zero] at g0
  rw [← g0, ← hf 1, ← hf 2]
  simp only [getS,Bool.false_eq_true,if_false]
  rw [if_neg]
  rw [List.length_drop]
  rintro ⟨⟨h1,h2,h3,h4⟩,⟨h5,h6⟩,h7,h8⟩
  exact h hp h1 (by omega) h3 h4 h5 h6 h7 h8
theorem getS_src_none {l:List Int} {pos:Nat} {u:Bool} {m0:Sm} (h:pos+1≤l.length→0≤l.getD pos 0→¬ l.getD pos 0≤m0.words.length):getS true u m0 (l.drop pos)=none:=by
 rcases Nat.lt_or_ge pos l.length with hp | hp
 ·rw [List.drop_eq_getElem_cons hp]
  rw [getD_eq _ _ _ hp] at h
  simp only [getS,if_true]
  rw [if_neg (fun e=>h hp e.1 e.2)]
 ·rw [List.drop_eq_nil_of_le hp]
  simp [getS]
def topLoops:Code→List Code
 | .loop c=>[c]
 | .seq a b=>topLoops a++topLoops b
 | .block _ c=>topLoops c
 | .scope c=>topLoops c
 | .cond _ a b=>topLoops a++topLoops b
 | _=>[]
noncomputable def bodyW:Code:=((Tryz.f76.body.map topLoops).getD []).getD 0 .skip
noncomputable def bodyS:Code:=((Tryz.f76.body.map topLoops).getD []).getD 1 .skip
theorem list_letters (n:Nat) (t:List Value) (h:t.length=n):t=(List.range n).map fun i=>t.getD i undef:=by
 refine List.ext_getElem? fun i=>?_
 rcases Nat.lt_or_ge i n with hi | hi
 ·rw [List.getElem?_map,List.getElem?_range hi,List.getElem?_eq_getElem (by omega)]
  simp [List.getD,List.getElem?_eq_getElem (show i<t.length by omega)]
 ·rw [List.getElem?_eq_none (by omega),List.getElem?_eq_none (by simp;omega)]
set_option maxRecDepth 1000000 in
set_option maxHeartbeats 4000000 in
theorem frame289 {C:Act→Prop} (h:∀ qa qb qc qd qe qf qg qh qi qj qk ql qm qn qo qp qq qr qs qt qu qv qw qx qy qz qA qB qC qD qE qF qG qH qI qJ qK qL qM qN qO qP qQ qR qS qT qU qV qW qX qY qZ q0 q1 q2 q3 q4 q5 q6 q7 q8 q9 za zb zc zd ze zf zg zh zi zj zk zl zm zn zo zp zq zr zs zt zu zv zw zx zy zz zA zB zC zD zE zF zG zH zI zJ zK zL zM zN zO zP zQ zR zS zT zU zV zW zX zY zZ z0 z1 z2 z3 z4 z5 z6 z7 z8 z9 ya yb yc yd ye yf yg yh yi yj yk yl ym yn yo yp yq yr ys yt yu yv yw yx yy yz yA yB yC yD yE yF yG yH yI yJ yK yL yM yN yO yP yQ yR yS yT yU yV yW yX yY yZ y0 y1 y2 y3 y4 y5 y6 y7 y8 y9 va vb vc vd ve vf vg vh vi vj vk vl vm vn vo vp vq vr vs vt vu vv vw vx vy vz vA vB vC vD vE vF vG vH vI vJ vK vL vM vN vO vP vQ vR vS vT vU vV vW vX vY vZ v0 v1 v2 v3 v4 v5 v6 v7 v8 v9 ja jb jc jd je jf jg jh ji jj jk jl jm jn jo jp jq jr js jt ju jv jw jx jy jz jA jB jC jD jE jF jG jH jI jJ jK jL jM jN jO:Value,C ⟨#[qa,qb,qc,qd,qe,qf,qg,qh,qi,qj,qk,ql,qm,qn,qo,qp,qq,qr,qs,qt,qu,qv,qw,qx,qy,qz,qA,qB,qC,qD,qE,qF,qG,qH,qI,qJ,qK,qL,qM,qN,qO,qP,qQ,qR,qS,qT,qU,qV,qW,qX,qY,qZ,q0,q1,q2,q3,q4,q5,q6,q7,q8,q9,za,zb,zc,zd,ze,zf,zg,zh,zi,zj,zk,zl,zm,zn,zo,zp,zq,zr,zs,zt,zu,zv,zw,zx,zy,zz,zA,zB,zC,zD,zE,zF,zG,zH,zI,zJ,zK,zL,zM,zN,zO,zP,zQ,zR,zS,zT,zU,zV,zW,zX,zY,zZ,z0,z1,z2,z3,z4,z5,z6,z7,z8,z9,ya,yb,yc,yd,ye,yf,yg,yh,yi,yj,yk,yl,ym,yn,yo,yp,yq,yr,ys,yt,yu,yv,yw,yx,yy,yz,yA,yB,yC,yD,yE,yF,yG,yH,yI,yJ,yK,yL,yM,yN,yO,yP,yQ,yR,yS,yT,yU,yV,yW,yX,yY,yZ,y0,y1,y2,y3,y4,y5,y6,y7,y8,y9,va,vb,vc,vd,ve,vf,vg,vh,vi,vj,vk,vl,vm,vn,vo,vp,vq,vr,vs,vt,vu,vv,vw,vx,vy,vz,vA,vB,vC,vD,vE,vF,vG,vH,vI,vJ,vK,vL,vM,vN,vO,vP,vQ,vR,vS,vT,vU,vV,vW,vX,vY,vZ,v0,v1,v2,v3,v4,v5,v6,v7,v8,v9,ja,jb,jc,jd,je,jf,jg,jh,ji,jj,jk,jl,jm,jn,jo,jp,jq,jr,js,jt,ju,jv,jw,jx,jy,jz,jA,jB,jC,jD,jE,jF,jG,jH,jI,jJ,jK,jL,jM,jN,jO],[]⟩) (a:Act) (hd:a.defers=[]) (hs:a.tmps.size=289):C a:=by
 obtain ⟨⟨t⟩,d⟩:=a
 dsimp only at hd hs
 subst hd
 have e:=list_letters 289 t (by simpa using hs)
 have k:=h (t.getD 0 undef) (t.getD 1 undef) (t.getD 2 undef) (t.getD 3 undef) (t.getD 4 undef) (t.getD 5 undef) (t.getD 6 undef) (t.getD 7 undef) (t.getD 8 undef) (t.getD 9 undef) (t.getD 10 undef) (t.getD 11 undef) (t.getD 12 undef) (t.getD 13 undef) (t.getD 14 undef) (t.getD 15 undef) (t.getD 16 undef) (t.getD 17 undef) (t.getD 18 undef) (t.getD 19 undef) (t.getD 20 undef) (t.getD 21 undef) (t.getD 22 undef) (t.getD 23 undef) (t.getD 24 undef) (t.getD 25 undef) (t.getD 26 undef) (t.getD 27 undef) (t.getD 28 undef) (t.getD 29 undef) (t.getD 30 undef) (t.getD 31 undef) (t.getD 32 undef) (t.getD 33 undef) (t.getD 34 undef) (t.getD 35 undef) (t.getD 36 undef) (t.getD 37 undef) (t.getD 38 undef) (t.getD 39 undef) (t.getD 40 undef) (t.getD 41 undef) (t.getD 42 undef) (t.getD 43 undef) (t.getD 44 undef) (t.getD 45 undef) (t.getD 46 undef) (t.getD 47 undef) (t.getD 48 undef) (t.getD 49 undef) (t.getD 50 undef) (t.getD 51 undef) (t.getD 52 undef) (t.getD 53 undef) (t.getD 54 undef) (t.getD 55 undef) (t.getD 56 undef) (t.getD 57 undef) (t.getD 58 undef) (t.getD 59 undef) (t.getD 60 undef) (t.getD 61 undef) (t.getD 62 undef) (t.getD 63 undef) (t.getD 64 undef) (t.getD 65 undef) (t.getD 66 undef) (t.getD 67 undef) (t.getD 68 undef) (t.getD 69 undef) (t.getD 70 undef) (t.getD 71 undef) (t.getD 72 undef) (t.getD 73 undef) (t.getD 74 undef) (t.getD 75 undef) (t.getD 76 undef) (t.getD 77 undef) (t.getD 78 undef) (t.getD 79 undef) (t.getD 80 undef) (t.getD 81 undef) (t.getD 82 undef) (t.getD 83 undef) (t.getD 84 undef) (t.getD 85 undef) (t.getD 86 undef) (t.getD 87 undef) (t.getD 88 undef) (t.getD 89 undef) (t.getD 90 undef) (t.getD 91 undef) (t.getD 92 undef) (t.getD 93 undef) (t.getD 94 undef) (t.getD 95 undef) (t.getD 96 undef) (t.getD 97 undef) (t.getD 98 undef) (t.getD 99 undef) (t.getD 100 undef) (t.getD 101 undef) (t.getD 102 undef) (t.getD 103 undef) (t.getD 104 undef) (t.getD 105 undef) (t.getD 106 undef) (t.getD 107 undef) (t.getD 108 undef) (t.getD 109 undef) (t.getD 110 undef) (t.getD 111 undef) (t.getD 112 undef) (t.getD 113 undef) (t.getD 114 undef) (t.getD 115 undef) (t.getD 116 undef) (t.getD 117 undef) (t.getD 118 undef) (t.getD 119 undef) (t.getD 120 undef) (t.getD 121 undef) (t.getD 122 undef) (t.getD 123 undef) (t.getD 124 undef) (t.getD 125 undef) (t.getD 126 undef) (t.getD 127 undef) (t.getD 128 undef) (t.getD 129 undef) (t.getD 130 undef) (t.getD 131 undef) (t.getD 132 undef) (t.getD 133 undef) (t.getD 134 undef) (t.getD 135 undef) (t.getD 136 undef) (t.getD 137 undef) (t.getD 138 undef) (t.getD 139 undef) (t.getD 140 undef) (t.getD 141 undef) (t.getD 142 undef) (t.getD 143 undef) (t.getD 144 undef) (t.getD 145 undef) (t.getD 146 undef) (t.getD 147 undef) (t.getD 148 undef) (t.getD 149 undef) (t.getD 150 undef) (t.getD 151 undef) (t.getD 152 undef) (t.getD 153 undef) (t.getD 154 undef) (t.getD 155 undef) (t.getD 156 undef) (t.getD 157 undef) (t.getD 158 undef) (t.getD 159 undef) (t.getD 160 undef) (t.getD 161 undef) (t.getD 162 undef) (t.getD 163 undef) (t.getD 164 undef) (t.getD 165 undef) (t.getD 166 undef) (t.getD 167 undef) (t.getD 168 undef) (t.getD 169 undef) (t.getD 170 undef) (t.getD 171 undef) (t.getD 172 undef) (t.getD 173 undef) (t.getD 174 undef) (t.getD 175 undef) (t.getD 176 undef) (t.getD 177 undef) (t.getD 178 undef) (t.getD 179 undef) (t.getD 180 undef) (t.getD 181 undef) (t.getD 182 undef) (t.getD 183 undef) (t.getD 184 undef) (t.getD 185 undef) (t.getD 186 undef) (t.getD 187 undef) (t.getD 188 undef) (t.getD 189 undef) (t.getD 190 undef) (t.getD 191 undef) (t.getD 192 undef) (t.getD 193 undef) (t.getD 194 undef) (t.getD 195 undef) (t.getD 196 undef) (t.getD 197 undef) (t.getD 198 undef) (t.getD 199 undef) (t.getD 200 undef) (t.getD 201 undef) (t.getD 202 undef) (t.getD 203 undef) (t.getD 204 undef) (t.getD 205 undef) (t.getD 206 undef) (t.getD 207 undef) (t.getD 208 undef) (t.getD 209 undef) (t.getD 210 undef) (t.getD 211 undef) (t.getD 212 undef) (t.getD 213 undef) (t.getD 214 undef) (t.getD 215 undef) (t.getD 216 undef) (t.getD 217 undef) (t.getD 218 undef) (t.getD 219 undef) (t.getD 220 undef) (t.getD 221 undef) (t.getD 222 undef) (t.getD 223 undef) (t.getD 224 undef) (t.getD 225 undef) (t.getD 226 undef) (t.getD 227 undef) (t.getD 228 undef) (t.getD 229 undef) (t.getD 230 undef) (t.getD 231 undef) (t.getD 232 undef) (t.getD 233 undef) (t.getD 234 undef) (t.getD 235 undef) (t.getD 236 undef) (t.getD 237 undef) (t.getD 238 undef) (t.getD 239 undef) (t.getD 240 undef) (t.getD 241 undef) (t.getD 242 undef) (t.getD 243 undef) (t.getD 244 undef) (t.getD 245 undef) (t.getD 246 undef) (t.getD 247 undef) (t.getD 248 undef) (t.getD 249 undef) (t.getD 250 undef) (t.getD 251 undef) (t.getD 252 undef) (t.getD 253 undef) (t.getD 254 undef) (t.getD 255 undef) (t.getD 256 undef) (t.getD 257 undef) (t.getD 258 undef) (t.getD 259 undef) (t.getD 260 undef) (t.getD 261 undef) (t.getD 262 undef) (t.getD 263 undef) (t.getD 264 undef) (t.getD 265 undef) (t.getD 266 undef) (t.getD 267 undef) (t.getD 268 undef) (t.getD 269 undef) (t.getD 270 undef) (t.getD 271 undef) (t.getD 272 undef) (t.getD 273 undef) (t.getD 274 undef) (t.getD 275 undef) (t.getD 276 undef) (t.getD 277 undef) (t.getD 278 undef) (t.getD 279 undef) (t.getD 280 undef) (t.getD 281 undef) (t.getD 282 undef) (t.getD 283 undef) (t.getD 284 undef) (t.getD 285 undef) (t.getD 286 undef) (t.getD 287 undef) (t.getD 288 undef)
 rw [e]
 exact k
structure LoadCtx (n:Net) (wz w:World) (s:ByteArray) (l rs:List Int) (X:Option (Rc×List Int)):Prop where
 ok:validB n=true
 len:l.length≤274877906944
 hX:X=(parseW n n.workers.length (initR n n.streams) l).bind fun q=>parseS n n.streams.length q.1 q.2
 str:StrIs s l rs
 wz:Below wz.heap.size wz w
theorem loadR_read' (N:Net) (l rs:List Int):loadR N l rs=((parseW N N.workers.length (initR N N.streams) l).bind fun q=>parseS N N.streams.length q.1 q.2).bind fun q=>if q.2=[]∧rs=[] then some q.1 else none:=by
 unfold loadR
 rw [Option.bind_assoc]
structure RetNo (n:Net) (wz w:World) (l rs:List Int) (a:Act) (w':World):Prop where
 d:a.defers=[]
 sz:a.tmps.size=289
 s4:a.tmps.getD 4 undef=.pointer none
 s5:a.tmps.getD 5 undef=.int .i64 3
 out:RLoadOut wz (fun b=>b<w.heap.size) n l rs none 3 w'
 below:Below w.heap.size w w'
structure WWk (p gS gW cS cW:Nat) (n:Net) (wz w:World) (s:ByteArray) (l:List Int) (X:Option (Rc×List Int)) (a:Act) (w':World):Prop where
 d:a.defers=[]
 sz:a.tmps.size=289
 s1:a.tmps.getD 1 undef=.string s
 s6:a.tmps.getD 6 undef=.pointer (some ⟨p,0,none⟩)
 ex:∃ k pos:Nat,k≤n.workers.length∧a.tmps.getD 7 undef=.int .i64 (atN l.length pos)∧a.tmps.getD 8 undef=.int .i64 k∧RAtW p gS gW cS cW w.heap.size wz w n l X k pos w'
structure WSt (p gS gW cS cW:Nat) (n:Net) (wz w:World) (s:ByteArray) (l:List Int) (X:Option (Rc×List Int)) (a:Act) (w':World):Prop where
 d:a.defers=[]
 sz:a.tmps.size=289
 s1:a.tmps.getD 1 undef=.string s
 s6:a.tmps.getD 6 undef=.pointer (some ⟨p,0,none⟩)
 ex:∃ k pos:Nat,k≤n.streams.length∧a.tmps.getD 7 undef=.int .i64 (atN l.length pos)∧a.tmps.getD 14 undef=.int .i64 k∧RAtS p gS gW cS cW w.heap.size wz w n l X k pos w'
structure EndW (p gS gW cS cW:Nat) (n:Net) (wz w:World) (s:ByteArray) (l:List Int) (X:Option (Rc×List Int)) (a:Act) (w':World):Prop where
 d:a.defers=[]
 sz:a.tmps.size=289
 s1:a.tmps.getD 1 undef=.string s
 s6:a.tmps.getD 6 undef=.pointer (some ⟨p,0,none⟩)
 ex:∃ pos:Nat,a.tmps.getD 7 undef=.int .i64 (atN l.length pos)∧RAtW p gS gW cS cW w.heap.size wz w n l X n.workers.length pos w'
structure EndS (p gS gW cS cW:Nat) (n:Net) (wz w:World) (s:ByteArray) (l:List Int) (X:Option (Rc×List Int)) (a:Act) (w':World):Prop where
 d:a.defers=[]
 sz:a.tmps.size=289
 s1:a.tmps.getD 1 undef=.string s
 s6:a.tmps.getD 6 undef=.pointer (some ⟨p,0,none⟩)
 ex:∃ pos:Nat,a.tmps.getD 7 undef=.int .i64 (atN l.length pos)∧RAtS p gS gW cS cW w.heap.size wz w n l X n.streams.length pos w'
def muW (n:Net) (a:Act) (_:World):Nat:=n.workers.length-(intOf (a.tmps.getD 8 undef)).toNat
def muS (n:Net) (a:Act) (_:World):Nat:=n.streams.length-(intOf (a.tmps.getD 14 undef)).toNat
set_option maxRecDepth 1000000 in
set_option maxHeartbeats 16000000 in
theorem loadW_one {n:Net} {wz w:World} {s:ByteArray} {l rs:List Int} {X:Option (Rc×List Int)} {p gS gW cS cW:Nat} {Q0:Exit→Act→World→Prop} (hctx:LoadCtx n wz w s l rs X) (hret:∀ a w',RetNo n wz w l rs a w'→Q0 .ret a w') {k pos:Nat} {wr:World} (hr:RAtW p gS gW cS cW w.heap.size wz w n l X k pos wr) (hlt:k<n.workers.length) (qa qc qd qe qf qg qh qi qj qk ql qm qn qo qp qq qr qs qt qu qv qw qx qy qz qA qB qC qD qE qF qG qH qI qJ qK qL qM qN qO qP qQ qR qS qT qU qV qW qX qY qZ q0 q1 q2 q3 q4 q5 q6 q7 q8 q9 za zb zc zd ze zf zg zh zi zj zk zl zm zn zo zp zq zr zs zt zu zv zw zx zy zz zA zB zC zD zE zF zG zH zI zJ zK zL zM zN zO zP zQ zR zS zT zU zV zW zX zY zZ z0 z1 z2 z3 z4 z5 z6 z7 z8 z9 ya yb yc yd ye yf yg yh yi yj yk yl ym yn yo yp yq yr ys yt yu yv yw yx yy yz yA yB yC yD yE yF yG yH yI yJ yK yL yM yN yO yP yQ yR yS yT yU yV yW yX yY yZ y0 y4 y5 y6 y7 y8 y9 va vb vc vd ve vf vg vh vi vj vk vl vm vn vo vp vq vr vs vt vu vv vw vx vy vz vA vB vC vD vE vF vG vH vI vJ vK vL vM vN vO vP vQ vR vS vT vU vV vW vX vY vZ v0 v1 v2 v3 v4 v5 v6 v7 v8 v9 ja jb jc jd je jf jg jh ji jk jl jm jn jo jp jq jr js jt ju jv jw jx jy jz jA jB jC jD jE jF jG jH jI jJ jK jL jM jN jO jP:Value) :
  Code.wp Tryz.prog bodyW (Exit.then (fun a' w'=>WWk p gS gW cS cW n wz w s l X a' w'∧muW n a' w'<muW n ⟨#[qa,.string s,qc,qd,qe,qf,.pointer (some ⟨p,0,none⟩),.int .i64 (atN l.length pos),.int .i64 k,qg,qh,qi,qj,qk,ql,qm,qn,qo,qp,qq,qr,qs,qt,qu,qv,qw,qx,qy,qz,qA,qB,qC,qD,qE,qF,qG,qH,qI,qJ,qK,qL,qM,qN,qO,qP,qQ,qR,qS,qT,qU,qV,qW,qX,qY,qZ,q0,q1,q2,q3,q4,q5,q6,q7,q8,q9,za,zb,zc,zd,ze,zf,zg,zh,zi,zj,zk,zl,zm,zn,zo,zp,zq,zr,zs,zt,zu,zv,zw,zx,zy,zz,zA,zB,zC,zD,zE,zF,zG,zH,zI,zJ,zK,zL,zM,zN,zO,zP,zQ,zR,zS,zT,zU,zV,zW,zX,zY,zZ,z0,z1,z2,z3,z4,z5,z6,z7,z8,z9,ya,yb,yc,yd,ye,yf,yg,yh,yi,yj,yk,yl,ym,yn,yo,yp,yq,yr,ys,yt,yu,yv,yw,yx,yy,yz,yA,yB,yC,yD,yE,yF,yG,yH,yI,yJ,yK,yL,yM,yN,yO,yP,yQ,yR,yS,yT,yU,yV,yW,yX,yY,yZ,y0,y4,y5,y6,y7,y8,y9,va,vb,vc,vd,ve,vf,vg,vh,vi,vj,vk,vl,vm,vn,vo,vp,vq,vr,vs,vt,vu,vv,vw,vx,vy,vz,vA,vB,vC,vD,vE,vF,vG,vH,vI,vJ,vK,vL,vM,vN,vO,vP,vQ,vR,vS,vT,vU,vV,vW,vX,vY,vZ,v0,v1,v2,v3,v4,v5,v6,v7,v8,v9,ja,jb,jc,jd,je,jf,jg,jh,ji,jk,jl,jm,jn,jo,jp,jq,jr,js,jt,ju,jv,jw,jx,jy,jz,jA,jB,jC,jD,jE,jF,jG,jH,jI,jJ,jK,jL,jM,jN,jO,jP],[]⟩ wr) Q0) ⟨#[qa,.string s,qc,qd,qe,qf,.pointer (some ⟨p,0,none⟩),.int .i64 (atN l.length pos),.int .i64 k,qg,qh,qi,qj,qk,ql,qm,qn,qo,qp,qq,qr,qs,qt,qu,qv,qw,qx,qy,qz,qA,qB,qC,qD,qE,qF,qG,qH,qI,qJ,qK,qL,qM,qN,qO,qP,qQ,qR,qS,qT,qU,qV,qW,qX,qY,qZ,q0,q1,q2,q3,q4,q5,q6,q7,q8,q9,za,zb,zc,zd,ze,zf,zg,zh,zi,zj,zk,zl,zm,zn,zo,zp,zq,zr,zs,zt,zu,zv,zw,zx,zy,zz,zA,zB,zC,zD,zE,zF,zG,zH,zI,zJ,zK,zL,zM,zN,zO,zP,zQ,zR,zS,zT,zU,zV,zW,zX,zY,zZ,z0,z1,z2,z3,z4,z5,z6,z7,z8,z9,ya,yb,yc,yd,ye,yf,yg,yh,yi,yj,yk,yl,ym,yn,yo,yp,yq,yr,ys,yt,yu,yv,yw,yx,yy,yz,yA,yB,yC,yD,yE,yF,yG,yH,yI,yJ,yK,yL,yM,yN,yO,yP,yQ,yR,yS,yT,yU,yV,yW,yX,yY,yZ,y0,y4,y5,y6,y7,y8,y9,va,vb,vc,vd,ve,vf,vg,vh,vi,vj,vk,vl,vm,vn,vo,vp,vq,vr,vs,vt,vu,vv,vw,vx,vy,vz,vA,vB,vC,vD,vE,vF,vG,vH,vI,vJ,vK,vL,vM,vN,vO,vP,vQ,vR,vS,vT,vU,vV,vW,vX,vY,vZ,v0,v1,v2,v3,v4,v5,v6,v7,v8,v9,ja,jb,jc,jd,je,jf,jg,jh,ji,jk,jl,jm,jn,jo,jp,jq,jr,js,jt,ju,jv,jw,jx,jy,jz,jA,jB,jC,jD,jE,jF,jG,jH,jI,jJ,jK,jL,jM,jN,jO,jP],[]⟩ wr:=by
 conv=>arg 2;whnf
 have hok:=hctx.ok
 have hlen:=hctx.len
 have HXX:=hide hctx.hX
 have hssz:=hctx.str.size
 have hsh:=hctx.str.short
 have HNum:Hid (∀ (k:Nat) wx,Calls Tryz.prog 91 #[.string s,.int .i64 (atN l.length k)] wx fun e w'=>e=.returned (.tuple #[.int .i64 (l.getD k 0),.int .i64 (atN l.length (k+1))])∧w'=wx):=fun k wx=>refNumber_calls hctx.str k (by omega) wx
 have HWc:=hide hctx.wz
 have HFits:=hide hctx.str.fits
 have HRet:=hide hret
 obtain ⟨hs1,hs8,hw1,hw6⟩:=valid_counts hok
 clear hctx hret
 obtain ⟨p0,p1⟩:=hr.parts
 obtain ⟨W0,rfl⟩:∃ W0,W0=wr:=⟨_,rfl⟩
 have hposl:=hr.pos
 have hbel:=hr.below
 obtain ⟨L,R,⟨rfl,rfl,rfl,rfl,rfl⟩,hra,hfo,hco,hhf,his,hpx⟩:=hr.ex
 have hk0:(0:Int)≤(k:Int):=by omega
 have hk1:(k:Int)<(n.workers.length:Int):=by omega
 obtain ⟨f,hf⟩:∃ f:Nat→Int,f=fun i=>l.getD (pos+i) 0:=⟨_,rfl⟩
 have HNm:Hid (∀ (i:Nat) wx,Calls Tryz.prog 91 #[.string s,.int .i64 (atN l.length (pos+i))] wx fun e w'=>e=.returned (.tuple #[.int .i64 (f i),.int .i64 (atN l.length (pos+(i+1)))])∧w'=wx):=fun i wx=>by
  rw [hf];exact HNum.out (pos+i) wx
 have HRA:=hide hra
 have HL0:Hid (LdW L W0 n R k W0.heap.size f 0 0 (W0.alloc (.cells #[.int .i64 0,.int .i64 0,.int .i64 0,.int .i64 0,.int .i64 0,.int .i64 0] 148))):=LdW.start hra
 have HBe:=hide hbel
 have HFo:=hide hfo
 have HCo:=hide hco
 have HHf:=hide hhf
 have HIs:=hide his
 have HPx:=hide hpx
 have HF:=hide hf
 clear hr hra hbel hfo hco hhf his hpx hf HNum
 go_wp2
 generalize W0.heap.size=sb at *
 generalize W0.alloc (.cells #[.int .i64 0,.int .i64 0,.int .i64 0,.int .i64 0,.int .i64 0,.int .i64 0] 148)=wA at *
 have HAt:Hid (atN l.length pos=atN l.length (pos+0)):=rfl
 go_loopw [7,10] (fun at_ i wq=>∃ j:Nat,j≤6∧at_=.int .i64 (atN l.length (pos+j))∧i=.int .i64 j∧LdW L W0 n R k sb f j 0 wq) (fun _ i _=>6-(intOf i).toNat)
 case atStart=>exact ⟨0,Nat.zero_le _,by rw [HAt.out],rfl,HL0.out⟩
 case round=>
  clear HL0
  obtain ⟨j,hj,rfl,rfl,hld⟩:=hrel
  by_cases hj6:j<6
  ·have HNj:=hide (HNm.out j)
   obtain ⟨-, -,c3, -⟩:=hld.cells HRA.out hlt
   obtain ⟨c3,c4⟩:=c3 j hj6
   have HL1:=hide (hld.six_set HRA.out)
   have hj0:(0:Int)≤(j:Int):=by omega
   have hj1:(j:Int)<6:=by omega
   clear hld HNm HAt
   generalize f j=fj at *
   generalize atN l.length (pos+j)=a0 at *
   generalize ha1:atN l.length (pos+(j+1))=a1 at *
   have HA1:=hide ha1
   clear ha1
   go_wp2_with fail
   refine (unhide HNj _).mono ?_
   rintro e w2 ⟨rfl,rfl⟩
   go_wp2
   go_roundw
   case rel=>exact ⟨j+1,by omega,by rw [HA1.out],by go_num,HL1.out⟩
   case measure=>simp [intOf];omega
  ·have hj6':j=6:=by omega
   subst hj6'
   obtain ⟨c1,c2,c3,c5,c6, -⟩:=hld.cells HRA.out hlt
   obtain ⟨c3,c4⟩:=c3 0 (by decide)
   obtain ⟨qb,c7,c8⟩:=c5 1 (by decide)
   simp only [Nat.reduceLT,if_true] at c3
   obtain ⟨n1,n2,n3⟩:=hld.ne HRA.out
   have n1':=n1.symm
   have HL1:Hid (LdW L W0 n R k sb f 6 (1+0) ((wr.setCell ⟨L.gW,k*7+1,none⟩ (.int .i64 (f 0))).drew)):=(hld.put HRA.out hlt (by decide)).drewN 1
   clear hld HNm HAt c4 c5 c6
   have HFF:Hid (∀ i,f i=l.getD (pos+i) 0):=fun i=>by rw [HF.out]
   go_wp2
   go_region_held3 (fun w'=>w'.cell? ⟨L.p,1,none⟩=some (.slice (some ⟨L.gW,0,none⟩) n.workers.length L.cW)∧w'.cell? ⟨sb,0,none⟩=some (.int .i64 (f 0))) (go_keep) (fail)
   go_wp2
   generalize (wr.setCell ⟨L.gW,k*7+1,none⟩ (.int .i64 (f 0))).drew=wC at *
   clear c1 c2 c3 c7 c8
   go_loopw [13] (fun i wq=>∃ j:Nat,j≤4∧i=.int .i64 j∧LdW L W0 n R k sb f 6 (1+j) wq) (fun i _=>4-(intOf i).toNat)
   case atStart=>exact ⟨0,Nat.zero_le _,rfl,HL1.out⟩
   case round=>
    clear HL1
    obtain ⟨j,hj,rfl,hld⟩:=hrel
    by_cases hj4:j<4
    ·obtain ⟨c1,c2,c3,c5, -, -⟩:=hld.cells HRA.out hlt
     obtain ⟨c3, -⟩:=c3 (1+j) (by omega)
     obtain ⟨qb,c7,c8⟩:=c5 (2+j) (by omega)
     rw [if_pos (by omega)] at c3
     rw [← Nat.add_assoc] at c7 c8
     have HL1:Hid (LdW L W0 n R k sb f 6 (1+(j+1)) ((wr.setCell ⟨L.gW,k*7+2+j,none⟩ (.int .i64 (f (1+j)))).drew)):=by
      have:=(hld.put HRA.out hlt (by omega)).drewN 1
      rw [show k*7+(1+j+1)=k*7+2+j by omega,show 1+j+1=1+(j+1) by omega] at this
      exact this
     have hj0:(0:Int)≤(j:Int):=by omega
     have hj1:(j:Int)<4:=by omega
     obtain ⟨jj,hjj⟩:∃ jj,jj=1+j:=⟨_,rfl⟩
     rw [← hjj] at c3
     have hwj:IntKind.i64.wrap (1+(j:Int))=(jj:Int):=by rw [IntKind.wrap_i64];omega
     have hj2:(jj:Int)<6:=by omega
     have hj3:(0:Int)≤(jj:Int):=by omega
     rw [← hjj] at HL1
     clear hld c5 hjj
     generalize f jj=fj at *
     go_wp2
     go_region_held3 (fun w'=>w'.cell? ⟨L.p,1,none⟩=some (.slice (some ⟨L.gW,0,none⟩) n.workers.length L.cW)∧w'.cell? ⟨sb,jj,none⟩=some (.int .i64 fj)) (go_keep) (fail)
     go_wp2
     go_roundw
     case rel=>exact ⟨j+1,by omega,by go_num,HL1.out⟩
     case measure=>simp [intOf];omega
    ·have hj4':j=4:=by omega
     subst hj4'
     obtain ⟨c1,c2,c3,c5, -, -⟩:=hld.cells HRA.out hlt
     obtain ⟨c3, -⟩:=c3 5 (by decide)
     obtain ⟨qb,c7,c8⟩:=c5 6 (by decide)
     simp only [Nat.reduceLT,if_true] at c3
     have HL2:Hid (LdW L W0 n R k sb f 6 6 ((wr.setCell ⟨L.gW,k*7+6,none⟩ (.int .i64 (f 5))).drew)):=(hld.put HRA.out hlt (by decide)).drewN 1
     clear hld c5
     go_wp2
     go_region_held3 (fun w'=>w'.cell? ⟨L.p,1,none⟩=some (.slice (some ⟨L.gW,0,none⟩) n.workers.length L.cW)∧w'.cell? ⟨sb,5,none⟩=some (.int .i64 (f 5))) (go_keep) (fail)
     go_wp2
     generalize (wr.setCell ⟨L.gW,k*7+6,none⟩ (.int .i64 (f 5))).drew=wD at *
     clear c1 c2 c3 c7 c8
     obtain ⟨c1,c2, -, -,c6,c9⟩:=HL2.out.cells HRA.out hlt
     have c9:=c9 (by decide)
     obtain ⟨ac,cc,hvc⟩:=(HCo.out k hlt).form
     rw [hvc] at c6
     have HVC:=hide hvc
     have HBD:Hid (Below w.heap.size w wD):=HBe.out.trans ⟨HL2.out.fr.os,HL2.out.fr.tape,HL2.out.fr.output,HL2.out.fr.size,fun b hb=>HL2.out.fr.block b (by have:=HBe.out.size;omega) (fun e=>by have:=HFo.out L.gW (Or.inr (Or.inr (Or.inl rfl)));omega)⟩
     have HFF:Hid (∀ i,f i=l.getD (pos+i) 0):=fun i=>by rw [HF.out]
     have HNo:Hid (getW (codeOf n k).length (l.drop pos)=none→∀ wx,RLoadOut wz (fun b=>b<w.heap.size) n l rs none 3 wx):=fun hg wx=>by
      have e:=HPx.out
      rw [parseW_at hlt,hg] at e
      refine ⟨fun e'=>(by rw [hok] at e';cases e'),fun _ _=>⟨rfl,rfl⟩,fun _ R' e'=>?_⟩
      rw [loadR_read', ← HXX.out, ← e] at e'
      cases e'
     have HYes:Hid (pos+6≤l.length→0≤f 0→f 0≤(codeOf n k).length→∀ q,RAtW L.p L.gS L.gW L.cS L.cW w.heap.size wz w n l X (k+1) (pos+6) (wD.drewN q)):=fun g1 g2 g3 q=>by
      obtain ⟨y,y1,y2,y3⟩:=getW_drop HFF.out g1 g2 g3
      have hbq:=below_drewN HBD.out q
      have e:=HPx.out
      rw [parseW_at hlt,y1] at e
      refine ⟨⟨L,_,⟨rfl,rfl,rfl,rfl,rfl⟩,(HL2.out.drewN q).done HRA.out hlt (fun a ha=>(HCo.out a ha).below (HWc.out.trans (hbq.mono HWc.out.size))) y3 y2,HFo.out,HCo.out,HHf.out.setW hlt ((getW_some y1).2.2 fun x hx=>HFits.out x (List.mem_of_mem_drop hx)),HIs.out,e⟩,g1,hbq⟩
     clear hvc
     by_cases hA:pos+6≤l.length
     ·have hat:atN l.length (pos+6)=8*((pos+6:Nat):Int):=by unfold atN;rw [if_pos hA]
      obtain ⟨a0,ha0⟩:∃ a0,a0=atN l.length (pos+6):=⟨_,rfl⟩
      have ha1:0≤a0:=by rw [ha0,hat];omega
      have HA0:=hide ha0
      rw [← ha0]
      have hd0:decide (a0<0)=false:=by simp;omega
      clear ha0 hat
      by_cases hB:f 0<0
      ·have HO:=hide (HNo.out (getW_drop_none HFF.out fun _ h'=>absurd h' (by omega)))
       have hd1:decide (f 0<0)=true:=by simpa using hB
       clear HNo HYes HFF HVC HL2 HA0
       generalize f 0=f0 at *
       generalize (codeOf n k).length=cl at *
       go_quiet (fail)
       go_wp2
       exact HRet.out _ _ ⟨rfl,rfl,rfl,rfl,HO.out _,below_drewN HBD.out _⟩
      ·by_cases hC:((codeOf n k).length:Int)<f 0
       ·have HO:=hide (HNo.out (getW_drop_none HFF.out fun _ _ h'=>absurd h' (by omega)))
        have hd1:decide (f 0<0)=false:=by simpa using hB
        have hd2:decide (((codeOf n k).length:Int)<f 0)=true:=by simpa using hC
        clear HNo HYes HFF HVC HL2 HA0
        generalize f 0=f0 at *
        generalize (codeOf n k).length=cl at *
        go_quiet (fail)
        go_wp2
        exact HRet.out _ _ ⟨rfl,rfl,rfl,rfl,HO.out _,below_drewN HBD.out _⟩
       ·have HO:=hide (HYes.out hA (by omega) (by omega))
        have hd1:decide (f 0<0)=false:=by simpa using hB
        have hd2:decide (((codeOf n k).length:Int)<f 0)=false:=by simpa using hC
        clear HNo HYes HFF HVC HL2
        generalize f 0=f0 at *
        generalize (codeOf n k).length=cl at *
        go_quiet (fail)
        go_wp2
        refine ⟨⟨rfl,rfl,rfl,rfl,k+1,pos+6,by omega,?_,?_,HO.out _⟩,?_⟩
        ·show Value.int .i64 _=_
         rw [HA0.out]
        ·show Value.int .i64 _=_
         go_num
        ·show n.workers.length-(intOf (Value.int .i64 _)).toNat<n.workers.length-(intOf (Value.int .i64 _)).toNat
         simp [intOf];omega
     ·have hat:atN l.length (pos+6) = -1:=by unfold atN;rw [if_neg hA]
      have HO:=hide (HNo.out (getW_drop_none HFF.out fun h'=>absurd h' hA))
      rw [hat]
      clear HNo HYes HFF HVC HL2 hat
      generalize f 0=f0 at *
      generalize (codeOf n k).length=cl at *
      go_quiet (fail)
      go_wp2
      exact HRet.out _ _ ⟨rfl,rfl,rfl,rfl,HO.out _,below_drewN HBD.out _⟩
end Go.Proofs.YthfdgdfnflilfaaGreatDoor

/- Part 26: RefL6, RefL7, RefL8, RefL9. -/
import Derived.Test.YthfdgdfnflilfaaGreatDoorPart25
namespace Go.Proofs.YthfdgdfnflilfaaGreatDoor
open Go.RowKit Go.Conc
structure RAtS (p gS gW cS cW B:Nat) (wz w0:World) (N:Net) (l:List Int) (X:Option (Rc×List Int)) (k pos:Nat) (wr:World):Prop where
 ex:∃ L R,(L.p=p∧L.gS=gS∧L.gW=gW∧L.cS=cS∧L.cW=cW)∧RefAt L wr N R∧(∀ b,RFoot L N b→B≤b)∧(∀ a,a<N.workers.length→CodeAt wz (L.VC a) (codeOf N a))∧Half N R∧(∀ s,k≤s→s<N.streams.length→R.s s=(initR N N.streams).s s)∧parseS N (N.streams.length-k) R (l.drop pos)=X
 pos:pos≤l.length
 below:Below B w0 wr
theorem RAtW.last {p gS gW cS cW B:Nat} {wz w0:World} {N:Net} {l:List Int} {X:Option (Rc×List Int)} {pos:Nat} {wr:World} (h:RAtW p gS gW cS cW B wz w0 N l X N.workers.length pos wr):RAtS p gS gW cS cW B wz w0 N l X 0 pos wr:=by
 obtain ⟨L,R,h1,h2,h3,h4,h5,h6,h7⟩:=h.ex
 rw [Nat.sub_self] at h7
 exact ⟨⟨L,R,h1,h2,h3,h4,h5,fun s _ _=>by unfold Rc.s;rw [h6],h7⟩,h.pos,h.below⟩
theorem RAtS.parts {p gS gW cS cW B:Nat} {wz w0:World} {N:Net} {l:List Int} {X:Option (Rc×List Int)} {k pos:Nat} {wr:World} (h:RAtS p gS gW cS cW B wz w0 N l X k pos wr):wr.cell? ⟨p,0,none⟩=some (.slice (some ⟨gS,0,none⟩) N.streams.length cS):=by
 obtain ⟨L,R,⟨rfl,rfl,rfl,rfl,rfl⟩,h1, -⟩:=h.ex
 exact (blk_cell (l:=[_,_]) h1.blk 0 _ rfl).1
structure XLd (L:RLay) (W0:World) (N:Net) (k xb:Nat) (vw:Value) (ws:List Int) (rd ro:Int) (wr:World):Prop where
 blk:wr.heap[xb]? = some (.cells #[.bool (srcd N k),.bool (used N k),vw,.int .i64 rd,.int .i64 ro] 88 (0,0))
 own:wr.ownsRow 0 3 1 vw ws.length (intRow ws)
 fr:Fr (fun b=>(L.VW k).ownBlock=some b) W0 wr
 xn:W0.heap.size≤xb
 vwn:∀ g,vw.ownBlock=some g→(L.VW k).ownBlock=some g∨W0.heap.size≤g
section
variable {L:RLay} {W0 wr:World} {N:Net} {R:Rc} {k xb:Nat} {vw:Value} {ws:List Int} {rd ro:Int}
theorem XLd.start (h:RefAt L W0 N R) (hk:k<N.streams.length):XLd L W0 N k W0.heap.size (L.VW k) (R.s k).words (R.s k).read (R.s k).room (W0.alloc (.cells #[.bool (srcd N k),.bool (used N k),L.VW k,.int .i64 (R.s k).read,.int .i64 (R.s k).room] 88)):=
 ⟨heap_alloc_new _ _,own_of_blockB (h.words k hk) fun g hg=>Below.heap_alloc _ _ _ ((h.words k hk).lt g hg).2,(Fr.refl _ _).alloc _,Nat.le_refl _,fun _ hg=>Or.inl hg⟩
theorem XLd.below (h:XLd L W0 N k xb vw ws rd ro wr) {w':World} (hb:Below wr.heap.size wr w'):XLd L W0 N k xb vw ws rd ro w':=
 ⟨(hb.block _ (lt_of_blk h.blk)).trans h.blk,own_of_blockB h.own fun g hg=>hb.block g (h.own.lt g hg).2,h.fr.trans (Fr.of_below hb) fun _ _ e=>e,h.xn,h.vwn⟩
theorem XLd.ownx (h:XLd L W0 N k xb vw ws rd ro wr):vw.ownBlock≠some xb:=own_ne_type h.own h.blk (by decide)
theorem XLd.read (h:XLd L W0 N k xb vw ws rd ro wr) (v:Int):XLd L W0 N k xb vw ws v ro (wr.setCell ⟨xb,3,none⟩ (.int .i64 v)):=
 ⟨blk_set (l:=[_,_,_,_,_]) h.blk 3 _,own_of_blockB h.own fun g hg=>heap_setCell_other _ _ _ _ (fun e=>h.ownx (by rw [hg];exact congrArg some e)),h.fr.setCell (p:=⟨xb,3,none⟩) (Or.inl h.xn) _,h.xn,h.vwn⟩
theorem XLd.room (h:XLd L W0 N k xb vw ws rd ro wr) (v:Int):XLd L W0 N k xb vw ws rd v (wr.setCell ⟨xb,4,none⟩ (.int .i64 v)):=
 ⟨blk_set (l:=[_,_,_,_,_]) h.blk 4 _,own_of_blockB h.own fun g hg=>heap_setCell_other _ _ _ _ (fun e=>h.ownx (by rw [hg];exact congrArg some e)),h.fr.setCell (p:=⟨xb,4,none⟩) (Or.inl h.xn) _,h.xn,h.vwn⟩
theorem XLd.cells (h:XLd L W0 N k xb vw ws rd ro wr):(wr.cell? ⟨xb,0,none⟩=some (.bool (srcd N k))∧wr.cell? ⟨xb,1,none⟩=some (.bool (used N k))∧wr.cell? ⟨xb,2,none⟩=some vw∧wr.cell? ⟨xb,3,none⟩=some (.int .i64 rd)∧wr.cell? ⟨xb,4,none⟩=some (.int .i64 ro))∧wr.frozen? ⟨xb,2,none⟩=false∧wr.frozen? ⟨xb,3,none⟩=false∧wr.frozen? ⟨xb,4,none⟩=false:=
 ⟨⟨(blk_cell (l:=[_,_,_,_,_]) h.blk 0 _ rfl).1,(blk_cell (l:=[_,_,_,_,_]) h.blk 1 _ rfl).1,(blk_cell (l:=[_,_,_,_,_]) h.blk 2 _ rfl).1,(blk_cell (l:=[_,_,_,_,_]) h.blk 3 _ rfl).1,(blk_cell (l:=[_,_,_,_,_]) h.blk 4 _ rfl).1⟩,(blk_cell (l:=[_,_,_,_,_]) h.blk 2 _ rfl).2,(blk_cell (l:=[_,_,_,_,_]) h.blk 3 _ rfl).2,(blk_cell (l:=[_,_,_,_,_]) h.blk 4 _ rfl).2⟩
theorem XLd.word (h:XLd L W0 N k xb vw ws rd ro wr) {x:Int} {o:Obj} {g cap:Nat} {w2:World} (ho:w2.ownsRow 0 3 1 (.slice (some ⟨g,0,none⟩) (ws.length+1) cap) (ws.length+1) (intRow ws++[.int .i64 x])) (hg:(wr.alloc o).grownBy w2 vw.ownBlock) (hor:vw.ownBlock=some g∨g=wr.heap.size+1) :
  (w2.cell? ⟨xb,2,none⟩=some vw∧w2.frozen? ⟨xb,2,none⟩=false)∧XLd L W0 N k xb (.slice (some ⟨g,0,none⟩) (ws.length+1) cap) (ws++[x]) rd ro (w2.setCell ⟨xb,2,none⟩ (.slice (some ⟨g,0,none⟩) (ws.length+1) cap)):=by
 have hx:=lt_of_blk h.blk
 have hb:w2.heap[xb]? = some (.cells #[.bool (srcd N k),.bool (used N k),vw,.int .i64 rd,.int .i64 ro] 88 (0,0)):=by
  rw [hg.block xb (by simp;omega) (fun e=>h.ownx e.symm),Below.heap_alloc _ _ _ hx];exact h.blk
 have hgx:g≠xb:=fun e=>by
  rcases hor with h1 | h1
  ·exact h.ownx (e ▸ h1)
  ·omega
 refine ⟨⟨(blk_cell (l:=[_,_,_,_,_]) hb 2 _ rfl).1,(blk_cell (l:=[_,_,_,_,_]) hb 2 _ rfl).2⟩,⟨blk_set (l:=[_,_,_,_,_]) hb 2 _,?_,?_,h.xn,fun y hy=>?_⟩⟩
 ·rw [List.length_append,intRow_snoc]
  refine own_of_blockB ho fun y hy=>heap_setCell_other _ _ _ _ ?_
  have:g=y:=by simpa [Value.ownBlock] using hy
  rw [← this];exact hgx
 ·refine ((h.fr.alloc o).grown hg fun y hy=>?_).setCell (p:=⟨xb,2,none⟩) (Or.inl h.xn) _
  rcases h.vwn y hy with h1 | h1
  ·exact Or.inr h1
  ·exact Or.inl h1
 ·have:g=y:=by simpa [Value.ownBlock] using hy
  subst this
  rcases hor with h1 | h1
  ·exact h.vwn g h1
  ·exact Or.inr (by have:=h.fr.size;omega)
def set5 (cs:List Value) (k:Nat) (v0 v1 v2 v3 v4:Value):List Value:=((((cs.set (k*5) v0).set (k*5+1) v1).set (k*5+2) v2).set (k*5+3) v3).set (k*5+4) v4
theorem get5_same {cs:List Value} {k:Nat} (v0 v1 v2 v3 v4:Value) (hl:k*5+4<cs.length) (j:Nat) (hj:j<5):(set5 cs k v0 v1 v2 v3 v4)[k*5+j]? = ([v0,v1,v2,v3,v4]:List Value)[j]? := by
 unfold set5
 rcases (show j=0∨j=1∨j=2∨j=3∨j=4 by omega) with rfl | rfl | rfl | rfl | rfl<;>simp [List.getElem?_set]<;>omega
theorem get5_other {cs:List Value} {k:Nat} (v0 v1 v2 v3 v4:Value) (i j:Nat) (hj:j<5) (hi:i≠k):(set5 cs k v0 v1 v2 v3 v4)[i*5+j]? = cs[i*5+j]? := by
 unfold set5
 repeat rw [List.getElem?_set_ne (by omega)]
def putS (w:World) (g k:Nat) (v0 v1 v2 v3 v4:Value):World:=
 ((((w.setCell ⟨g,k*5,none⟩ v0).setCell ⟨g,k*5+1,none⟩ v1).setCell ⟨g,k*5+2,none⟩ v2).setCell ⟨g,k*5+3,none⟩ v3).setCell ⟨g,k*5+4,none⟩ v4
theorem putS_other (w:World) (g k:Nat) (v0 v1 v2 v3 v4:Value) (b:Nat) (h:b≠g):(putS w g k v0 v1 v2 v3 v4).heap[b]? = w.heap[b]? := by
 unfold putS
 rw [heap_setCell_other _ _ _ _ h,heap_setCell_other _ _ _ _ h,heap_setCell_other _ _ _ _ h,heap_setCell_other _ _ _ _ h,heap_setCell_other _ _ _ _ h]
theorem putS_fr (w:World) (g k:Nat) (v0 v1 v2 v3 v4:Value):Fr (fun b=>b=g) w (putS w g k v0 v1 v2 v3 v4):=by
 unfold putS
 have f0:Fr (fun b=>b=g) w w:=Fr.refl _ w
 exact ((((f0.setCell (p:=⟨g,k*5,none⟩) (Or.inr rfl) _).setCell (p:=⟨g,k*5+1,none⟩) (Or.inr rfl) _).setCell (p:=⟨g,k*5+2,none⟩) (Or.inr rfl) _).setCell (p:=⟨g,k*5+3,none⟩) (Or.inr rfl) _).setCell (p:=⟨g,k*5+4,none⟩) (Or.inr rfl) _
theorem XLd.done {rdn ron:Nat} (h:XLd L W0 N k xb vw ws rdn ron wr) (hr:RefAt L W0 N R) (hk:k<N.streams.length) (hle:rdn≤ws.length) (hcode:∀ a,a<N.workers.length→CodeAt (putS wr L.gS k (.bool (srcd N k)) (.bool (used N k)) vw (.int .i64 rdn) (.int .i64 ron)) (L.VC a) (codeOf N a)) :
  RefAt { L with VW:=fun t=>if t=k then vw else L.VW t} (putS wr L.gS k (.bool (srcd N k)) (.bool (used N k)) vw (.int .i64 rdn) (.int .i64 ron)) N ⟨R.W,R.S.set k ⟨ws,rdn,ron⟩⟩:=by
 obtain ⟨cs,hb,hc⟩:=hr.rowS
 have hgl:=lt_of_blk hb
 have hb':wr.heap[L.gS]? = some (.cells cs.toArray 88 (0,0)):=(h.fr.block _ hgl (own_ne_type (hr.words k hk) hb (by decide))).trans hb
 have hl:k*5+4<cs.length:=(List.getElem?_eq_some_iff.1 ((hc k hk 4 (by decide)).trans rfl)).1
 refine hr.stream hk vw ⟨ws,rdn,ron⟩ (set5 cs k (.bool (srcd N k)) (.bool (used N k)) vw (.int .i64 rdn) (.int .i64 ron)) (fun b hf h1 h2=>?_) ?_ (fun t ht j hj=>?_) ?_ (fun t ht hne g hg=>?_) hle hcode
 ·rw [putS_other _ _ _ _ _ _ _ _ _ h1];exact h.fr.block b (hr.foot_lt hf) h2
 ·exact blk_set (blk_set (blk_set (blk_set (blk_set hb' _ _) _ _) _ _) _ _) _ _
 ·by_cases e:t=k
  ·subst e;rw [get5_same _ _ _ _ _ hl j hj,if_pos rfl];rfl
  ·rw [get5_other _ _ _ _ _ t j hj e,if_neg e];exact hc t ht j hj
 ·exact own_of_blockB h.own fun g hg=>putS_other _ _ _ _ _ _ _ _ _ fun e=>own_ne_type h.own hb' (by decide) (e ▸ hg)
 ·rcases h.vwn g hg with h1 | h1
  ·exact hr.inj k t hk ht (fun e=>hne e.symm) g h1
  ·intro h2
   have:=((hr.words t ht).lt g h2).2
   omega
theorem XLd.far (h:XLd L W0 N k xb vw ws rd ro wr) {b i:Nat} (hb:W0.heap.size≤b) (hx:b≠xb) (hv:vw.ownBlock≠some b) (v:Value):XLd L W0 N k xb vw ws rd ro (wr.setCell ⟨b,i,none⟩ v):=
 ⟨(heap_setCell_other _ _ _ _ (fun e=>hx e.symm)).trans h.blk,own_of_blockB h.own fun g hg=>heap_setCell_other _ _ _ _ (fun e=>hv (by rw [hg];exact congrArg some e)),h.fr.setCell (p:=⟨b,i,none⟩) (Or.inl hb) v,h.xn,h.vwn⟩
structure Ld3 (L:RLay) (W0:World) (N:Net) (k xb tb:Nat) (vw:Value) (ws:List Int) (rd ro:Int) (f:Nat→Int) (i:Nat) (wr:World):Prop where
 x:XLd L W0 N k xb vw ws rd ro wr
 three:wr.heap[tb]? = some (.cells (firstL f 3 i).toArray 150 (0,0))
 tn:W0.heap.size≤tb
 ne:tb≠xb
theorem Ld3.own {tb i:Nat} {f:Nat→Int} (h:Ld3 L W0 N k xb tb vw ws rd ro f i wr):vw.ownBlock≠some tb:=own_ne_type h.x.own h.three (by decide)
theorem XLd.three (h:XLd L W0 N k xb vw ws rd ro wr) (f:Nat→Int):Ld3 L W0 N k xb wr.heap.size vw ws rd ro f 0 (wr.alloc (.cells #[.int .i64 0,.int .i64 0,.int .i64 0] 150)):=
 ⟨h.below ((Below.refl _ _).alloc (Nat.le_refl _) _),heap_alloc_new _ _,h.fr.size,fun e=>by have:=lt_of_blk h.blk;omega⟩
theorem Ld3.set {tb i:Nat} {f:Nat→Int} (h:Ld3 L W0 N k xb tb vw ws rd ro f i wr):Ld3 L W0 N k xb tb vw ws rd ro f (i+1) (wr.setCell ⟨tb,i,none⟩ (.int .i64 (f i))):=
 ⟨h.x.far h.tn h.ne h.own _,by rw [blk_set h.three,firstL_set],h.tn,h.ne⟩
theorem Ld3.cell {tb i:Nat} {f:Nat→Int} (h:Ld3 L W0 N k xb tb vw ws rd ro f i wr) (a:Nat) (ha:a<3):wr.cell? ⟨tb,a,none⟩=some (.int .i64 (if a<i then f a else 0))∧wr.frozen? ⟨tb,a,none⟩=false:=⟨row_cell h.three (firstL_get _ _ _ _ ha),row_frozen h.three a⟩
theorem XLd.gcells (h:XLd L W0 N k xb vw ws rd ro wr) (hr:RefAt L W0 N R) (hk:k<N.streams.length):wr.cell? ⟨L.p,0,none⟩=some (.slice (some ⟨L.gS,0,none⟩) N.streams.length L.cS)∧(∀ j,j<5→∃ u,wr.cell? ⟨L.gS,k*5+j,none⟩=some u∧wr.frozen? ⟨L.gS,k*5+j,none⟩=false)∧L.gS≠xb∧L.gS≠L.p∧xb≠L.p:=by
 obtain ⟨cs,hb,hc⟩:=hr.rowS
 have hgl:=lt_of_blk hb
 have hpl:=lt_of_blk hr.blk
 have hxn:=h.xn
 have hb':wr.heap[L.gS]? = some (.cells cs.toArray 88 (0,0)):=(h.fr.block _ hgl (own_ne_type (hr.words k hk) hb (by decide))).trans hb
 have hp':=(h.fr.block _ hpl (own_ne_type (hr.words k hk) hr.blk (by decide))).trans hr.blk
 have n1:L.gS≠xb:=by omega
 have n2:xb≠L.p:=by omega
 refine ⟨(blk_cell (l:=[_,_]) hp' 0 _ rfl).1,fun j hj=>?_,n1,ne_of_types hb hr.blk (by decide),n2⟩
 have e:=hc k hk j hj
 have:∃ u,cs[k*5+j]? = some u:=by
  rw [e]
  rcases (show j=0∨j=1∨j=2∨j=3∨j=4 by omega) with rfl | rfl | rfl | rfl | rfl<;>exact ⟨_,rfl⟩
 obtain ⟨u,hu⟩:=this
 exact ⟨u,row_cell hb' hu,row_frozen hb' _⟩
theorem XLd.next {p gS gW cS cW B:Nat} {wz w0:World} {l:List Int} {X:Option (Rc×List Int)} {pos pos' rdn ron:Nat} (h:XLd L W0 N k xb vw ws rdn ron wr) (hr:RefAt L W0 N R) (hk:k<N.streams.length) (hL:L.p=p∧L.gS=gS∧L.gW=gW∧L.cS=cS∧L.cW=cW) (hfo:∀ b,RFoot L N b→B≤b) (hco:∀ a,a<N.workers.length→CodeAt wz (L.VC a) (codeOf N a)) (hhf:Half N R) (hin:∀ s,k≤s→s<N.streams.length→R.s s=(initR N N.streams).s s) (hpx:parseS N (N.streams.length-k) R (l.drop pos)=X) (hbe:Below B w0 W0) (hz:Below wz.heap.size wz w0) (hzB:wz.heap.size≤B) (hB:B≤W0.heap.size) (hx:∀ x∈l,Fits64 x)
  (hg:getS (srcd N k) (used N k) (R.s k) (l.drop pos)=some (⟨ws,rdn,ron⟩,l.drop pos')) (hp:pos'≤l.length) (q:Nat):RAtS p gS gW cS cW B wz w0 N l X (k+1) pos' ((putS wr L.gS k (.bool (srcd N k)) (.bool (used N k)) vw (.int .i64 rdn) (.int .i64 ron)).drewN q):=by
 obtain ⟨-,hle, -⟩:=getS_some hg
 have f1:=putS_fr wr L.gS k (.bool (srcd N k)) (.bool (used N k)) vw (.int .i64 rdn) (.int .i64 ron)
 have hd:=fun hc=>h.done hr hk hle hc
 generalize putS wr L.gS k (.bool (srcd N k)) (.bool (used N k)) vw (.int .i64 rdn) (.int .i64 ron)=W5 at *
 have hs:=h.fr.size
 have hbb:Below B W0 W5:=by
  refine ⟨f1.os.trans h.fr.os,f1.tape.trans h.fr.tape,f1.output.trans h.fr.output,Nat.le_trans h.fr.size f1.size,fun b hb=>?_⟩
  have e1:=hfo L.gS (Or.inr (Or.inl rfl))
  have n1:b≠L.gS:=by omega
  have n2:b<wr.heap.size:=by omega
  have n3:b<W0.heap.size:=by omega
  rw [f1.block b n2 n1,h.fr.block b n3 (fun e=>by have:=hfo b (Or.inr (Or.inr (Or.inr ⟨k,hk,e⟩)));omega)]
 have hbq:Below B W0 (W5.drewN q):=below_drewN hbb q
 have hz5:Below wz.heap.size wz W5:=hz.trans ((hbe.trans hbb).mono hzB)
 have hzz:Below wz.heap.size wz (W5.drewN q):=below_drewN hz5 q
 have hd5:=hd fun a ha=>(hco a ha).below hz5
 rw [parseS_at hk,hg] at hpx
 refine ⟨⟨{ L with VW:=fun t=>if t=k then vw else L.VW t},⟨R.W,R.S.set k ⟨ws,rdn,ron⟩⟩,hL,hd5.frame (w':=W5.drewN q) (fun _ _=>rfl) (fun a ha=>(hco a ha).below hzz),fun b hb=>?_,hco,hhf.setS hk (fun x hx'=>hx x (List.mem_of_mem_drop hx')) hg,fun s h1 h2=>?_,hpx⟩,hp,hbe.trans hbq⟩
 ·rcases hb with hb | hb | hb | ⟨t,ht,hb⟩
  ·exact hfo b (Or.inl hb)
  ·exact hfo b (Or.inr (Or.inl hb))
  ·exact hfo b (Or.inr (Or.inr (Or.inl hb)))
  ·dsimp only at hb
   by_cases e:t=k
   ·rw [if_pos e] at hb
    rcases h.vwn b hb with h1 | h1
    ·exact hfo b (Or.inr (Or.inr (Or.inr ⟨k,hk,h1⟩)))
    ·omega
   ·rw [if_neg e] at hb
    exact hfo b (Or.inr (Or.inr (Or.inr ⟨t,ht,hb⟩)))
 ·rw [set_s (by rw [hhf.lenS];exact hk),if_neg (by omega)];exact hin s (by omega) h2
end
theorem getS_src {l:List Int} {pos:Nat} {u:Bool} {m0:Sm} (h:pos+1≤l.length) (h0:0≤l.getD pos 0) (h1:l.getD pos 0≤m0.words.length):getS true u m0 (l.drop pos)=some (⟨m0.words,(l.getD pos 0).toNat,m0.room⟩,l.drop (pos+1)):=by
 rw [List.drop_eq_getElem_cons (by omega)]
 rw [getD_eq _ _ _ (by omega)] at h0 h1 ⊢
 simp only [getS,if_true]
 rw [if_pos ⟨h0,h1⟩]
theorem drop3 {l:List Int} {pos:Nat} (h:pos+3≤l.length):l.drop pos=l.getD pos 0::l.getD (pos+1) 0::l.getD (pos+2) 0::l.drop (pos+3):=by
 rw [List.drop_eq_getElem_cons (by omega),List.drop_eq_getElem_cons (by omega),List.drop_eq_getElem_cons (by omega)]
 rw [getD_eq _ _ _ (by omega),getD_eq _ _ _ (by omega),getD_eq _ _ _ (by omega)]
theorem getS_un {l:List Int} {pos a b c:Nat} {u:Bool} {m0:Sm} {f:Nat→Int} (hf:∀ i,f i=l.getD (pos+i) 0) (h:pos+3≤l.length) (e0:f 0=a) (e1:f 1=b) (e2:f 2=c) (h0:c+(pos+3)≤l.length) (h1:b≤c) (h2:m0.room≤a) (h3:a≤40) (h4:u=false→a=m0.room∧b=0) (h5:u=true→c≤b+a) :
  getS false u m0 (l.drop pos)=some (⟨(l.drop (pos+3)).take c,b,a⟩,l.drop (pos+3+c)):=by
 rw [drop3 h]
 have g0:=(hf 0).symm.trans e0
 have g1:=(hf 1).symm.trans e1
 have g2:=(hf 2).symm.trans e2
 rw [Nat.add_zero] at g0
 rw [g0,g1,g2]
 simp only [getS,Bool.false_eq_true,if_false]
 rw [if_pos]
 ·simp [List.drop_drop]
 ·rw [List.length_drop]
  exact ⟨⟨by omega,by omega,by omega,by omega⟩,⟨by omega,by omega⟩,fun e=>⟨by have:=(h4 e).1;omega,by have:=(h4 e).2;omega⟩,fun e=>by have:=h5 e;omega⟩
theorem getS_un_none {l:List Int} {pos:Nat} {u:Bool} {m0:Sm} {f:Nat→Int} (hf:∀ i,f i=l.getD (pos+i) 0) (h:pos+3≤l.length→0≤f 2→f 2+(pos+3)≤l.length→0≤f 1→f 1≤f 2→m0.room≤f 0→f 0≤40→(u=false→f 0=m0.room∧f 1=0)→¬ (u=true→f 2-f 1≤f 0)):getS false u m0 (l.drop pos)=none:=by
 rcases Nat.lt_or_ge l.length (pos+3) with hp | hp
 ·cases hg:getS false u m0 (l.drop pos) with
  | none=>rfl
  | some ml=>
   obtain ⟨m,l'⟩:=ml
   have hl:=congrArg List.length (getS_some hg).1
   rw [List.length_drop,List.length_append] at hl
   simp [stNums] at hl
   omega
 ·rw [drop3 hp]
  have g0:=hf 0
  rw [Nat.add_zero] at g0
  rw [← g0, ← hf 1, ← hf 2]
  simp only [getS,Bool.false_eq_true,if_false]
  rw [if_neg]
  rw [List.length_drop]
  rintro ⟨⟨h1,h2,h3,h4⟩,⟨h5,h6⟩,h7,h8⟩
  exact h hp h1 (by omega) h3 h4 h5 h6 h7 h8
theorem getS_src_none {l:List Int} {pos:Nat} {u:Bool} {m0:Sm} (h:pos+1≤l.length→0≤l.getD pos 0→¬ l.getD pos 0≤m0.words.length):getS true u m0 (l.drop pos)=none:=by
 rcases Nat.lt_or_ge pos l.length with hp | hp
 ·rw [List.drop_eq_getElem_cons hp]
  rw [getD_eq _ _ _ hp] at h
  simp only [getS,if_true]
  rw [if_neg (fun e=>h hp e.1 e.2)]
 ·rw [List.drop_eq_nil_of_le hp]
  simp [getS]
def topLoops:Code→List Code
 | .loop c=>[c]
 | .seq a b=>topLoops a++topLoops b
 | .block _ c=>topLoops c
 | .scope c=>topLoops c
 | .cond _ a b=>topLoops a++topLoops b
 | _=>[]
noncomputable def bodyW:Code:=((Tryz.f76.body.map topLoops).getD []).getD 0 .skip
noncomputable def bodyS:Code:=((Tryz.f76.body.map topLoops).getD []).getD 1 .skip
theorem list_letters (n:Nat) (t:List Value) (h:t.length=n):t=(List.range n).map fun i=>t.getD i undef:=by
 refine List.ext_getElem? fun i=>?_
 rcases Nat.lt_or_ge i n with hi | hi
 ·rw [List.getElem?_map,List.getElem?_range hi,List.getElem?_eq_getElem (by omega)]
  simp [List.getD,List.getElem?_eq_getElem (show i<t.length by omega)]
 ·rw [List.getElem?_eq_none (by omega),List.getElem?_eq_none (by simp;omega)]
set_option maxRecDepth 1000000 in
set_option maxHeartbeats 4000000 in
theorem frame289 {C:Act→Prop} (h:∀ qa qb qc qd qe qf qg qh qi qj qk ql qm qn qo qp qq qr qs qt qu qv qw qx qy qz qA qB qC qD qE qF qG qH qI qJ qK qL qM qN qO qP qQ qR qS qT qU qV qW qX qY qZ q0 q1 q2 q3 q4 q5 q6 q7 q8 q9 za zb zc zd ze zf zg zh zi zj zk zl zm zn zo zp zq zr zs zt zu zv zw zx zy zz zA zB zC zD zE zF zG zH zI zJ zK zL zM zN zO zP zQ zR zS zT zU zV zW zX zY zZ z0 z1 z2 z3 z4 z5 z6 z7 z8 z9 ya yb yc yd ye yf yg yh yi yj yk yl ym yn yo yp yq yr ys yt yu yv yw yx yy yz yA yB yC yD yE yF yG yH yI yJ yK yL yM yN yO yP yQ yR yS yT yU yV yW yX yY yZ y0 y1 y2 y3 y4 y5 y6 y7 y8 y9 va vb vc vd ve vf vg vh vi vj vk vl vm vn vo vp vq vr vs vt vu vv vw vx vy vz vA vB vC vD vE vF vG vH vI vJ vK vL vM vN vO vP vQ vR vS vT vU vV vW vX vY vZ v0 v1 v2 v3 v4 v5 v6 v7 v8 v9 ja jb jc jd je jf jg jh ji jj jk jl jm jn jo jp jq jr js jt ju jv jw jx jy jz jA jB jC jD jE jF jG jH jI jJ jK jL jM jN jO:Value,C ⟨#[qa,qb,qc,qd,qe,qf,qg,qh,qi,qj,qk,ql,qm,qn,qo,qp,qq,qr,qs,qt,qu,qv,qw,qx,qy,qz,qA,qB,qC,qD,qE,qF,qG,qH,qI,qJ,qK,qL,qM,qN,qO,qP,qQ,qR,qS,qT,qU,qV,qW,qX,qY,qZ,q0,q1,q2,q3,q4,q5,q6,q7,q8,q9,za,zb,zc,zd,ze,zf,zg,zh,zi,zj,zk,zl,zm,zn,zo,zp,zq,zr,zs,zt,zu,zv,zw,zx,zy,zz,zA,zB,zC,zD,zE,zF,zG,zH,zI,zJ,zK,zL,zM,zN,zO,zP,zQ,zR,zS,zT,zU,zV,zW,zX,zY,zZ,z0,z1,z2,z3,z4,z5,z6,z7,z8,z9,ya,yb,yc,yd,ye,yf,yg,yh,yi,yj,yk,yl,ym,yn,yo,yp,yq,yr,ys,yt,yu,yv,yw,yx,yy,yz,yA,yB,yC,yD,yE,yF,yG,yH,yI,yJ,yK,yL,yM,yN,yO,yP,yQ,yR,yS,yT,yU,yV,yW,yX,yY,yZ,y0,y1,y2,y3,y4,y5,y6,y7,y8,y9,va,vb,vc,vd,ve,vf,vg,vh,vi,vj,vk,vl,vm,vn,vo,vp,vq,vr,vs,vt,vu,vv,vw,vx,vy,vz,vA,vB,vC,vD,vE,vF,vG,vH,vI,vJ,vK,vL,vM,vN,vO,vP,vQ,vR,vS,vT,vU,vV,vW,vX,vY,vZ,v0,v1,v2,v3,v4,v5,v6,v7,v8,v9,ja,jb,jc,jd,je,jf,jg,jh,ji,jj,jk,jl,jm,jn,jo,jp,jq,jr,js,jt,ju,jv,jw,jx,jy,jz,jA,jB,jC,jD,jE,jF,jG,jH,jI,jJ,jK,jL,jM,jN,jO],[]⟩) (a:Act) (hd:a.defers=[]) (hs:a.tmps.size=289):C a:=by
 obtain ⟨⟨t⟩,d⟩:=a
 dsimp only at hd hs
 subst hd
 have e:=list_letters 289 t (by simpa using hs)
 have k:=h (t.getD 0 undef) (t.getD 1 undef) (t.getD 2 undef) (t.getD 3 undef) (t.getD 4 undef) (t.getD 5 undef) (t.getD 6 undef) (t.getD 7 undef) (t.getD 8 undef) (t.getD 9 undef) (t.getD 10 undef) (t.getD 11 undef) (t.getD 12 undef) (t.getD 13 undef) (t.getD 14 undef) (t.getD 15 undef) (t.getD 16 undef) (t.getD 17 undef) (t.getD 18 undef) (t.getD 19 undef) (t.getD 20 undef) (t.getD 21 undef) (t.getD 22 undef) (t.getD 23 undef) (t.getD 24 undef) (t.getD 25 undef) (t.getD 26 undef) (t.getD 27 undef) (t.getD 28 undef) (t.getD 29 undef) (t.getD 30 undef) (t.getD 31 undef) (t.getD 32 undef) (t.getD 33 undef) (t.getD 34 undef) (t.getD 35 undef) (t.getD 36 undef) (t.getD 37 undef) (t.getD 38 undef) (t.getD 39 undef) (t.getD 40 undef) (t.getD 41 undef) (t.getD 42 undef) (t.getD 43 undef) (t.getD 44 undef) (t.getD 45 undef) (t.getD 46 undef) (t.getD 47 undef) (t.getD 48 undef) (t.getD 49 undef) (t.getD 50 undef) (t.getD 51 undef) (t.getD 52 undef) (t.getD 53 undef) (t.getD 54 undef) (t.getD 55 undef) (t.getD 56 undef) (t.getD 57 undef) (t.getD 58 undef) (t.getD 59 undef) (t.getD 60 undef) (t.getD 61 undef) (t.getD 62 undef) (t.getD 63 undef) (t.getD 64 undef) (t.getD 65 undef) (t.getD 66 undef) (t.getD 67 undef) (t.getD 68 undef) (t.getD 69 undef) (t.getD 70 undef) (t.getD 71 undef) (t.getD 72 undef) (t.getD 73 undef) (t.getD 74 undef) (t.getD 75 undef) (t.getD 76 undef) (t.getD 77 undef) (t.getD 78 undef) (t.getD 79 undef) (t.getD 80 undef) (t.getD 81 undef) (t.getD 82 undef) (t.getD 83 undef) (t.getD 84 undef) (t.getD 85 undef) (t.getD 86 undef) (t.getD 87 undef) (t.getD 88 undef) (t.getD 89 undef) (t.getD 90 undef) (t.getD 91 undef) (t.getD 92 undef) (t.getD 93 undef) (t.getD 94 undef) (t.getD 95 undef) (t.getD 96 undef) (t.getD 97 undef) (t.getD 98 undef) (t.getD 99 undef) (t.getD 100 undef) (t.getD 101 undef) (t.getD 102 undef) (t.getD 103 undef) (t.getD 104 undef) (t.getD 105 undef) (t.getD 106 undef) (t.getD 107 undef) (t.getD 108 undef) (t.getD 109 undef) (t.getD 110 undef) (t.getD 111 undef) (t.getD 112 undef) (t.getD 113 undef) (t.getD 114 undef) (t.getD 115 undef) (t.getD 116 undef) (t.getD 117 undef) (t.getD 118 undef) (t.getD 119 undef) (t.getD 120 undef) (t.getD 121 undef) (t.getD 122 undef) (t.getD 123 undef) (t.getD 124 undef) (t.getD 125 undef) (t.getD 126 undef) (t.getD 127 undef) (t.getD 128 undef) (t.getD 129 undef) (t.getD 130 undef) (t.getD 131 undef) (t.getD 132 undef) (t.getD 133 undef) (t.getD 134 undef) (t.getD 135 undef) (t.getD 136 undef) (t.getD 137 undef) (t.getD 138 undef) (t.getD 139 undef) (t.getD 140 undef) (t.getD 141 undef) (t.getD 142 undef) (t.getD 143 undef) (t.getD 144 undef) (t.getD 145 undef) (t.getD 146 undef) (t.getD 147 undef) (t.getD 148 undef) (t.getD 149 undef) (t.getD 150 undef) (t.getD 151 undef) (t.getD 152 undef) (t.getD 153 undef) (t.getD 154 undef) (t.getD 155 undef) (t.getD 156 undef) (t.getD 157 undef) (t.getD 158 undef) (t.getD 159 undef) (t.getD 160 undef) (t.getD 161 undef) (t.getD 162 undef) (t.getD 163 undef) (t.getD 164 undef) (t.getD 165 undef) (t.getD 166 undef) (t.getD 167 undef) (t.getD 168 undef) (t.getD 169 undef) (t.getD 170 undef) (t.getD 171 undef) (t.getD 172 undef) (t.getD 173 undef) (t.getD 174 undef) (t.getD 175 undef) (t.getD 176 undef) (t.getD 177 undef) (t.getD 178 undef) (t.getD 179 undef) (t.getD 180 undef) (t.getD 181 undef) (t.getD 182 undef) (t.getD 183 undef) (t.getD 184 undef) (t.getD 185 undef) (t.getD 186 undef) (t.getD 187 undef) (t.getD 188 undef) (t.getD 189 undef) (t.getD 190 undef) (t.getD 191 undef) (t.getD 192 undef) (t.getD 193 undef) (t.getD 194 undef) (t.getD 195 undef) (t.getD 196 undef) (t.getD 197 undef) (t.getD 198 undef) (t.getD 199 undef) (t.getD 200 undef) (t.getD 201 undef) (t.getD 202 undef) (t.getD 203 undef) (t.getD 204 undef) (t.getD 205 undef) (t.getD 206 undef) (t.getD 207 undef) (t.getD 208 undef) (t.getD 209 undef) (t.getD 210 undef) (t.getD 211 undef) (t.getD 212 undef) (t.getD 213 undef) (t.getD 214 undef) (t.getD 215 undef) (t.getD 216 undef) (t.getD 217 undef) (t.getD 218 undef) (t.getD 219 undef) (t.getD 220 undef) (t.getD 221 undef) (t.getD 222 undef) (t.getD 223 undef) (t.getD 224 undef) (t.getD 225 undef) (t.getD 226 undef) (t.getD 227 undef) (t.getD 228 undef) (t.getD 229 undef) (t.getD 230 undef) (t.getD 231 undef) (t.getD 232 undef) (t.getD 233 undef) (t.getD 234 undef) (t.getD 235 undef) (t.getD 236 undef) (t.getD 237 undef) (t.getD 238 undef) (t.getD 239 undef) (t.getD 240 undef) (t.getD 241 undef) (t.getD 242 undef) (t.getD 243 undef) (t.getD 244 undef) (t.getD 245 undef) (t.getD 246 undef) (t.getD 247 undef) (t.getD 248 undef) (t.getD 249 undef) (t.getD 250 undef) (t.getD 251 undef) (t.getD 252 undef) (t.getD 253 undef) (t.getD 254 undef) (t.getD 255 undef) (t.getD 256 undef) (t.getD 257 undef) (t.getD 258 undef) (t.getD 259 undef) (t.getD 260 undef) (t.getD 261 undef) (t.getD 262 undef) (t.getD 263 undef) (t.getD 264 undef) (t.getD 265 undef) (t.getD 266 undef) (t.getD 267 undef) (t.getD 268 undef) (t.getD 269 undef) (t.getD 270 undef) (t.getD 271 undef) (t.getD 272 undef) (t.getD 273 undef) (t.getD 274 undef) (t.getD 275 undef) (t.getD 276 undef) (t.getD 277 undef) (t.getD 278 undef) (t.getD 279 undef) (t.getD 280 undef) (t.getD 281 undef) (t.getD 282 undef) (t.getD 283 undef) (t.getD 284 undef) (t.getD 285 undef) (t.getD 286 undef) (t.getD 287 undef) (t.getD 288 undef)
 rw [e]
 exact k
structure LoadCtx (n:Net) (wz w:World) (s:ByteArray) (l rs:List Int) (X:Option (Rc×List Int)):Prop where
 ok:validB n=true
 len:l.length≤274877906944
 hX:X=(parseW n n.workers.length (initR n n.streams) l).bind fun q=>parseS n n.streams.length q.1 q.2
 str:StrIs s l rs
 wz:Below wz.heap.size wz w
theorem loadR_read' (N:Net) (l rs:List Int):loadR N l rs=((parseW N N.workers.length (initR N N.streams) l).bind fun q=>parseS N N.streams.length q.1 q.2).bind fun q=>if q.2=[]∧rs=[] then some q.1 else none:=by
 unfold loadR
 rw [Option.bind_assoc]
structure RetNo (n:Net) (wz w:World) (l rs:List Int) (a:Act) (w':World):Prop where
 d:a.defers=[]
 sz:a.tmps.size=289
 s4:a.tmps.getD 4 undef=.pointer none
 s5:a.tmps.getD 5 undef=.int .i64 3
 out:RLoadOut wz (fun b=>b<w.heap.size) n l rs none 3 w'
 below:Below w.heap.size w w'
structure WWk (p gS gW cS cW:Nat) (n:Net) (wz w:World) (s:ByteArray) (l:List Int) (X:Option (Rc×List Int)) (a:Act) (w':World):Prop where
 d:a.defers=[]
 sz:a.tmps.size=289
 s1:a.tmps.getD 1 undef=.string s
 s6:a.tmps.getD 6 undef=.pointer (some ⟨p,0,none⟩)
 ex:∃ k pos:Nat,k≤n.workers.length∧a.tmps.getD 7 undef=.int .i64 (atN l.length pos)∧a.tmps.getD 8 undef=.int .i64 k∧RAtW p gS gW cS cW w.heap.size wz w n l X k pos w'
structure WSt (p gS gW cS cW:Nat) (n:Net) (wz w:World) (s:ByteArray) (l:List Int) (X:Option (Rc×List Int)) (a:Act) (w':World):Prop where
 d:a.defers=[]
 sz:a.tmps.size=289
 s1:a.tmps.getD 1 undef=.string s
 s6:a.tmps.getD 6 undef=.pointer (some ⟨p,0,none⟩)
 ex:∃ k pos:Nat,k≤n.streams.length∧a.tmps.getD 7 undef=.int .i64 (atN l.length pos)∧a.tmps.getD 14 undef=.int .i64 k∧RAtS p gS gW cS cW w.heap.size wz w n l X k pos w'
structure EndW (p gS gW cS cW:Nat) (n:Net) (wz w:World) (s:ByteArray) (l:List Int) (X:Option (Rc×List Int)) (a:Act) (w':World):Prop where
 d:a.defers=[]
 sz:a.tmps.size=289
 s1:a.tmps.getD 1 undef=.string s
 s6:a.tmps.getD 6 undef=.pointer (some ⟨p,0,none⟩)
 ex:∃ pos:Nat,a.tmps.getD 7 undef=.int .i64 (atN l.length pos)∧RAtW p gS gW cS cW w.heap.size wz w n l X n.workers.length pos w'
structure EndS (p gS gW cS cW:Nat) (n:Net) (wz w:World) (s:ByteArray) (l:List Int) (X:Option (Rc×List Int)) (a:Act) (w':World):Prop where
 d:a.defers=[]
 sz:a.tmps.size=289
 s1:a.tmps.getD 1 undef=.string s
 s6:a.tmps.getD 6 undef=.pointer (some ⟨p,0,none⟩)
 ex:∃ pos:Nat,a.tmps.getD 7 undef=.int .i64 (atN l.length pos)∧RAtS p gS gW cS cW w.heap.size wz w n l X n.streams.length pos w'
def muW (n:Net) (a:Act) (_:World):Nat:=n.workers.length-(intOf (a.tmps.getD 8 undef)).toNat
def muS (n:Net) (a:Act) (_:World):Nat:=n.streams.length-(intOf (a.tmps.getD 14 undef)).toNat
set_option maxRecDepth 1000000 in
set_option maxHeartbeats 16000000 in
theorem loadS_src {n:Net} {wz w:World} {s:ByteArray} {l rs:List Int} {X:Option (Rc×List Int)} {p gS gW cS cW:Nat} {Q0:Exit→Act→World→Prop} (hctx:LoadCtx n wz w s l rs X) (hret:∀ a w',RetNo n wz w l rs a w'→Q0 .ret a w') {k pos:Nat} {wr:World} (hr:RAtS p gS gW cS cW w.heap.size wz w n l X k pos wr) (hlt:k<n.streams.length) (hsr:srcd n k=true) (qa qc qd qe qf qg qh qi qj qk ql qm qn qo qp qq qr qs qt qu qv qw qx qy qz qA qB qC qD qE qF qG qH qI qJ qK qL qM qN qO qP qQ qR qS qT qU qV qW qX qY qZ q0 q1 q2 q3 q4 q5 q6 q7 q8 q9 za zb zc zd ze zf zg zh zi zj zk zl zm zn zo zp zq zr zs zt zu zv zw zx zy zz zA zB zC zD zE zF zG zH zI zJ zK zL zM zN zO zP zQ zR zS zT zU zV zW zX zY zZ z5 z6 z7 z8 z9 ya yb yc yd ye yf yg yh yi yj yk yl ym yn yo yp yq yr ys yt yu yv yw yx yy yz yA yB yC yD yE yF yG yH yI yJ yK yL yM yN yO yP yQ yR yS yT yU yV yW yX yY yZ y5 y6 y7 y8 y9 va vb vc vd ve vf vg vh vi vj vk vl vm vn vo vp vq vr vs vt vu vv vx vy vz vA vB vC vD vE vF vG vH vI vJ vK vL vM vN vO vP vQ vR vS vT vU vV vW vX vY vZ v0 v1 v2 v3 v4 v5 v6 v7 v8 v9 ja jb jc jd je jf jg jh ji jj jk jl jm jn jo jp jq jr js jt ju jv jw jx jy jz jA jB jC jD jE jF jG jH jI jJ jK jL jM jN jO jP jQ jR jS jT jU jV jW:Value) :
  Code.wp Tryz.prog bodyS (Exit.then (fun a' w'=>WSt p gS gW cS cW n wz w s l X a' w'∧muS n a' w'<muS n ⟨#[qa,.string s,qc,qd,qe,qf,.pointer (some ⟨p,0,none⟩),.int .i64 (atN l.length pos),qg,qh,qi,qj,qk,ql,.int .i64 k,qm,qn,qo,qp,qq,qr,qs,qt,qu,qv,qw,qx,qy,qz,qA,qB,qC,qD,qE,qF,qG,qH,qI,qJ,qK,qL,qM,qN,qO,qP,qQ,qR,qS,qT,qU,qV,qW,qX,qY,qZ,q0,q1,q2,q3,q4,q5,q6,q7,q8,q9,za,zb,zc,zd,ze,zf,zg,zh,zi,zj,zk,zl,zm,zn,zo,zp,zq,zr,zs,zt,zu,zv,zw,zx,zy,zz,zA,zB,zC,zD,zE,zF,zG,zH,zI,zJ,zK,zL,zM,zN,zO,zP,zQ,zR,zS,zT,zU,zV,zW,zX,zY,zZ,z5,z6,z7,z8,z9,ya,yb,yc,yd,ye,yf,yg,yh,yi,yj,yk,yl,ym,yn,yo,yp,yq,yr,ys,yt,yu,yv,yw,yx,yy,yz,yA,yB,yC,yD,yE,yF,yG,yH,yI,yJ,yK,yL,yM,yN,yO,yP,yQ,yR,yS,yT,yU,yV,yW,yX,yY,yZ,y5,y6,y7,y8,y9,va,vb,vc,vd,ve,vf,vg,vh,vi,vj,vk,vl,vm,vn,vo,vp,vq,vr,vs,vt,vu,vv,vx,vy,vz,vA,vB,vC,vD,vE,vF,vG,vH,vI,vJ,vK,vL,vM,vN,vO,vP,vQ,vR,vS,vT,vU,vV,vW,vX,vY,vZ,v0,v1,v2,v3,v4,v5,v6,v7,v8,v9,ja,jb,jc,jd,je,jf,jg,jh,ji,jj,jk,jl,jm,jn,jo,jp,jq,jr,js,jt,ju,jv,jw,jx,jy,jz,jA,jB,jC,jD,jE,jF,jG,jH,jI,jJ,jK,jL,jM,jN,jO,jP,jQ,jR,jS,jT,jU,jV,jW],[]⟩ wr) Q0) ⟨#[qa,.string s,qc,qd,qe,qf,.pointer (some ⟨p,0,none⟩),.int .i64 (atN l.length pos),qg,qh,qi,qj,qk,ql,.int .i64 k,qm,qn,qo,qp,qq,qr,qs,qt,qu,qv,qw,qx,qy,qz,qA,qB,qC,qD,qE,qF,qG,qH,qI,qJ,qK,qL,qM,qN,qO,qP,qQ,qR,qS,qT,qU,qV,qW,qX,qY,qZ,q0,q1,q2,q3,q4,q5,q6,q7,q8,q9,za,zb,zc,zd,ze,zf,zg,zh,zi,zj,zk,zl,zm,zn,zo,zp,zq,zr,zs,zt,zu,zv,zw,zx,zy,zz,zA,zB,zC,zD,zE,zF,zG,zH,zI,zJ,zK,zL,zM,zN,zO,zP,zQ,zR,zS,zT,zU,zV,zW,zX,zY,zZ,z5,z6,z7,z8,z9,ya,yb,yc,yd,ye,yf,yg,yh,yi,yj,yk,yl,ym,yn,yo,yp,yq,yr,ys,yt,yu,yv,yw,yx,yy,yz,yA,yB,yC,yD,yE,yF,yG,yH,yI,yJ,yK,yL,yM,yN,yO,yP,yQ,yR,yS,yT,yU,yV,yW,yX,yY,yZ,y5,y6,y7,y8,y9,va,vb,vc,vd,ve,vf,vg,vh,vi,vj,vk,vl,vm,vn,vo,vp,vq,vr,vs,vt,vu,vv,vx,vy,vz,vA,vB,vC,vD,vE,vF,vG,vH,vI,vJ,vK,vL,vM,vN,vO,vP,vQ,vR,vS,vT,vU,vV,vW,vX,vY,vZ,v0,v1,v2,v3,v4,v5,v6,v7,v8,v9,ja,jb,jc,jd,je,jf,jg,jh,ji,jj,jk,jl,jm,jn,jo,jp,jq,jr,js,jt,ju,jv,jw,jx,jy,jz,jA,jB,jC,jD,jE,jF,jG,jH,jI,jJ,jK,jL,jM,jN,jO,jP,jQ,jR,jS,jT,jU,jV,jW],[]⟩ wr:=by
 conv=>arg 2;whnf
 have hok:=hctx.ok
 have hlen:=hctx.len
 have HXX:=hide hctx.hX
 have hssz:=hctx.str.size
 have hsh:=hctx.str.short
 have HNum:Hid (∀ (k:Nat) wx,Calls Tryz.prog 91 #[.string s,.int .i64 (atN l.length k)] wx fun e w'=>e=.returned (.tuple #[.int .i64 (l.getD k 0),.int .i64 (atN l.length (k+1))])∧w'=wx):=fun k wx=>refNumber_calls hctx.str k (by omega) wx
 have HWc:=hide hctx.wz
 have HFits:=hide hctx.str.fits
 have HRet:=hide hret
 obtain ⟨hs1,hs8,hw1,hw6⟩:=valid_counts hok
 clear hctx hret
 have p0:=hr.parts
 obtain ⟨W0,rfl⟩:∃ W0,W0=wr:=⟨_,rfl⟩
 have hposl:=hr.pos
 have hbel:=hr.below
 obtain ⟨L,R,hL,hra,hfo,hco,hhf,hin,hpx⟩:=hr.ex
 obtain ⟨rfl,rfl,rfl,rfl,rfl⟩:=id hL
 have hk0:(0:Int)≤(k:Int):=by omega
 have hk1:(k:Int)<(n.streams.length:Int):=by omega
 have c0:=hra.sc hlt 0 _ (by decide) rfl
 have c1:=hra.sc hlt 1 _ (by decide) rfl
 have c2:=hra.sc hlt 2 _ (by decide) rfl
 have c3:=hra.sc hlt 3 _ (by decide) rfl
 have c4:=hra.sc hlt 4 _ (by decide) rfl
 rw [Nat.add_zero] at c0
 obtain ⟨av,cv,hvw⟩:=own_slice (hra.words k hlt)
 have HX0:=hide (XLd.start hra hlt)
 rw [hvw] at c2 HX0
 have HNo:Hid (getS (srcd n k) (used n k) (R.s k) (l.drop pos)=none→∀ wx,RLoadOut wz (fun b=>b<w.heap.size) n l rs none 3 wx):=fun hg wx=>by
  have e:=hpx
  rw [parseS_at hlt,hg] at e
  refine ⟨fun e'=>(by rw [hok] at e';cases e'),fun _ _=>⟨rfl,rfl⟩,fun _ R' e'=>?_⟩
  rw [loadR_read', ← HXX.out, ← e] at e'
  cases e'
 have HNx:Hid (∀ {xb:Nat} {vw:Value} {ws:List Int} {rdn ron pos':Nat} {wr:World},XLd L W0 n k xb vw ws rdn ron wr→getS (srcd n k) (used n k) (R.s k) (l.drop pos)=some (⟨ws,rdn,ron⟩,l.drop pos')→pos'≤l.length→∀ q,RAtS L.p L.gS L.gW L.cS L.cW w.heap.size wz w n l X (k+1) pos' ((putS wr L.gS k (.bool (srcd n k)) (.bool (used n k)) vw (.int .i64 rdn) (.int .i64 ron)).drewN q)):=fun h1 h2 h3 q=>h1.next hra hlt hL hfo hco hhf hin hpx hbel HWc.out HWc.out.size hbel.size HFits.out h2 h3 q
 have HBx:Hid (∀ {xb:Nat} {vw:Value} {ws:List Int} {rd ro:Int} {wr:World},XLd L W0 n k xb vw ws rd ro wr→Below w.heap.size w wr):=fun h1=>hbel.trans ⟨h1.fr.os,h1.fr.tape,h1.fr.output,h1.fr.size,fun b hb=>h1.fr.block b (by have:=hbel.size;omega) (fun e=>by have:=hfo b (Or.inr (Or.inr (Or.inr ⟨k,hlt,e⟩)));omega)⟩
 have HGc:Hid (∀ {xb:Nat} {vw:Value} {ws:List Int} {rd ro:Int} {wr:World},XLd L W0 n k xb vw ws rd ro wr→wr.cell? ⟨L.p,0,none⟩=some (.slice (some ⟨L.gS,0,none⟩) n.streams.length L.cS)∧(∀ j,j<5→∃ u,wr.cell? ⟨L.gS,k*5+j,none⟩=some u∧wr.frozen? ⟨L.gS,k*5+j,none⟩=false)∧L.gS≠xb∧L.gS≠L.p∧xb≠L.p):=fun h1=>h1.gcells hra hlt
 have HNm:=hide (HNum.out pos)
 have HIn:=hide (hin k (Nat.le_refl _) hlt)
 clear hr hra hL hfo hco hhf hin hpx hbel hvw
 rw [hsr] at c0 HX0 HNo HNx
 clear HNum HIn
 generalize hml:(R.s k).words.length=ml at *
 obtain ⟨f0,hf0⟩:∃ f0,f0=l.getD pos 0:=⟨_,rfl⟩
 rw [← hf0] at HNm
 have HF0:=hide hf0
 clear hf0
 go_wp2_with fail
 refine (unhide HNm _).mono ?_
 rintro e w2 ⟨rfl,hw2⟩
 rw [← hw2] at HX0
 clear hw2 HNm c0 c1 c2 c3 c4 p0
 obtain ⟨⟨x0,x1,x2,x3,x4⟩, -,xf3, -⟩:=HX0.out.cells
 have HX1:=hide (HX0.out.read f0)
 generalize W0.heap.size=xb at *
 clear HX0
 go_upto_region 31 with fail
 generalize w2.setCell ⟨xb,3,none⟩ (.int .i64 f0)=w3 at *
 clear x0 x1 x2 x3 x4 xf3
 obtain ⟨⟨x0,x1,x2,x3,x4⟩, -⟩:=HX1.out.cells
 have HB3:=hide (HBx.out HX1.out)
 by_cases hA:pos+1≤l.length
 ·have hat:atN l.length (pos+1)=8*((pos+1:Nat):Int):=by unfold atN;rw [if_pos hA]
  obtain ⟨a0,ha0⟩:∃ a0,a0=atN l.length (pos+1):=⟨_,rfl⟩
  have ha1:0≤a0:=by rw [ha0,hat];omega
  have HA0:=hide ha0
  rw [← ha0]
  have hd0:decide (a0<0)=false:=by simp;omega
  clear ha0 hat
  by_cases hB:f0<0
  ·have HO:=hide (HNo.out (getS_src_none fun _ h'=>absurd h' (by rw [← HF0.out];omega)))
   have hd1:decide (f0<0)=true:=by simpa using hB
   clear HNo HNx HBx HGc HA0 HF0 HX1
   go_wp2
   exact HRet.out _ _ ⟨rfl,rfl,rfl,rfl,HO.out _,HB3.out⟩
  ·by_cases hC:(ml:Int)<f0
   ·have HO:=hide (HNo.out (getS_src_none fun _ _ h'=>absurd h' (by rw [← HF0.out,hml];omega)))
    have hd1:decide (f0<0)=false:=by simpa using hB
    have hd2:decide ((ml:Int)<f0)=true:=by simpa using hC
    clear HNo HNx HBx HGc HA0 HF0 HX1
    go_wp2
    exact HRet.out _ _ ⟨rfl,rfl,rfl,rfl,HO.out _,HB3.out⟩
   ·obtain ⟨fn,hfn⟩:∃ fn:Nat,f0=fn:=⟨f0.toNat,by omega⟩
    subst hfn
    have HO:=hide (HNx.out HX1.out (pos':=pos+1) (by
     have e:=getS_src (u:=used n k) (m0:=R.s k) hA (by rw [← HF0.out];omega) (by rw [← HF0.out,hml];omega)
     rw [← HF0.out] at e
     simpa using e) hA)
    have hd1:decide ((fn:Int)<0)=false:=by simp
    have hd2:decide ((ml:Int)<(fn:Int))=false:=by simpa using hC
    obtain ⟨y0,y1,y2,y3,y4⟩:=HGc.out HX1.out
    obtain ⟨qa,z0,zf0⟩:=y1 0 (by decide)
    obtain ⟨qb,z1,zf1⟩:=y1 1 (by decide)
    obtain ⟨qc,z2,zf2⟩:=y1 2 (by decide)
    obtain ⟨qd,z3,zf3⟩:=y1 3 (by decide)
    obtain ⟨qe,z4,zf4⟩:=y1 4 (by decide)
    rw [Nat.add_zero] at z0 zf0
    rw [hsr] at x0
    clear HNo HNx HBx HGc HF0 HX1 y1 hml HB3 hsr
    go_wp2
    go_region_held3 (fun w'=>w'.cell? ⟨L.p,0,none⟩=some (.slice (some ⟨L.gS,0,none⟩) n.streams.length L.cS)∧w'.cell? ⟨xb,0,none⟩=some (.bool true)∧w'.cell? ⟨xb,1,none⟩=some (.bool (used n k))∧w'.cell? ⟨xb,2,none⟩=some (.slice av ml cv)∧w'.cell? ⟨xb,3,none⟩=some (.int .i64 fn)∧w'.cell? ⟨xb,4,none⟩=some (.int .i64 (R.s k).room)) (go_keep) (fail)
    go_wp2
    refine ⟨⟨rfl,rfl,rfl,rfl,k+1,pos+1,by omega,?_,?_,HO.out 1⟩,?_⟩
    ·show Value.int .i64 _=_
     rw [HA0.out]
    ·show Value.int .i64 _=_
     go_num
    ·show n.streams.length-(intOf (Value.int .i64 _)).toNat<n.streams.length-(intOf (Value.int .i64 _)).toNat
     simp [intOf];omega
 ·have hat:atN l.length (pos+1) = -1:=by unfold atN;rw [if_neg hA]
  have HO:=hide (HNo.out (getS_src_none fun h'=>absurd h' hA))
  rw [hat]
  clear HNo HNx HBx HGc hat HF0 HX1
  go_wp2
  exact HRet.out _ _ ⟨rfl,rfl,rfl,rfl,HO.out _,HB3.out⟩
set_option maxRecDepth 1000000 in
set_option maxHeartbeats 16000000 in
theorem loadS_un {n:Net} {wz w:World} {s:ByteArray} {l rs:List Int} {X:Option (Rc×List Int)} {p gS gW cS cW:Nat} {Q0:Exit→Act→World→Prop} (hctx:LoadCtx n wz w s l rs X) (hret:∀ a w',RetNo n wz w l rs a w'→Q0 .ret a w') {k pos:Nat} {wr:World} (hr:RAtS p gS gW cS cW w.heap.size wz w n l X k pos wr) (hlt:k<n.streams.length) (hsr:srcd n k=false) (qa qc qd qe qf qg qh qi qj qk ql qm qn qo qp qq qr qs qt qu qv qw qx qy qz qA qB qC qD qE qF qG qH qI qJ qK qL qM qN qO qP qQ qR qS qT qU qV qW qX qY qZ q0 q1 q2 q3 q4 q5 q6 q7 q8 q9 za zb zc zd ze zf zg zh zi zj zk zl zm zn zo zp zq zr zs zt zu zv zw zx zy zz zA zB zC zD zE zF zG zH zI zJ zK zL zM zN zO zP zQ zR zS zT zU zV zW zX zY zZ z5 z6 z7 z8 z9 ya yb yc yd ye yf yg yh yi yj yk yl ym yn yo yp yq yr ys yt yu yv yw yx yy yz yA yB yC yD yE yF yG yH yI yJ yK yL yM yN yO yP yQ yR yS yT yU yV yW yX yY yZ y5 y6 y7 y8 y9 va vb vc vd ve vf vg vh vi vj vk vl vm vn vo vp vq vr vs vt vu vv vx vy vz vA vB vC vD vE vF vG vH vI vJ vK vL vM vN vO vP vQ vR vS vT vU vV vW vX vY vZ v0 v1 v3 v4 v5 v6 v7 v8 v9 ja jb jc jd je jf jg jh ji jj jk jl jm jn jo jp jq jr js jt ju jv jw jx jy jz jA jB jC jD jE jF jG jH jI jJ jK jL jM jN jO jP jQ jR jS jT jU jV jW jX:Value) :
  Code.wp Tryz.prog bodyS (Exit.then (fun a' w'=>WSt p gS gW cS cW n wz w s l X a' w'∧muS n a' w'<muS n ⟨#[qa,.string s,qc,qd,qe,qf,.pointer (some ⟨p,0,none⟩),.int .i64 (atN l.length pos),qg,qh,qi,qj,qk,ql,.int .i64 k,qm,qn,qo,qp,qq,qr,qs,qt,qu,qv,qw,qx,qy,qz,qA,qB,qC,qD,qE,qF,qG,qH,qI,qJ,qK,qL,qM,qN,qO,qP,qQ,qR,qS,qT,qU,qV,qW,qX,qY,qZ,q0,q1,q2,q3,q4,q5,q6,q7,q8,q9,za,zb,zc,zd,ze,zf,zg,zh,zi,zj,zk,zl,zm,zn,zo,zp,zq,zr,zs,zt,zu,zv,zw,zx,zy,zz,zA,zB,zC,zD,zE,zF,zG,zH,zI,zJ,zK,zL,zM,zN,zO,zP,zQ,zR,zS,zT,zU,zV,zW,zX,zY,zZ,z5,z6,z7,z8,z9,ya,yb,yc,yd,ye,yf,yg,yh,yi,yj,yk,yl,ym,yn,yo,yp,yq,yr,ys,yt,yu,yv,yw,yx,yy,yz,yA,yB,yC,yD,yE,yF,yG,yH,yI,yJ,yK,yL,yM,yN,yO,yP,yQ,yR,yS,yT,yU,yV,yW,yX,yY,yZ,y5,y6,y7,y8,y9,va,vb,vc,vd,ve,vf,vg,vh,vi,vj,vk,vl,vm,vn,vo,vp,vq,vr,vs,vt,vu,vv,vx,vy,vz,vA,vB,vC,vD,vE,vF,vG,vH,vI,vJ,vK,vL,vM,vN,vO,vP,vQ,vR,vS,vT,vU,vV,vW,vX,vY,vZ,v0,v1,v3,v4,v5,v6,v7,v8,v9,ja,jb,jc,jd,je,jf,jg,jh,ji,jj,jk,jl,jm,jn,jo,jp,jq,jr,js,jt,ju,jv,jw,jx,jy,jz,jA,jB,jC,jD,jE,jF,jG,jH,jI,jJ,jK,jL,jM,jN,jO,jP,jQ,jR,jS,jT,jU,jV,jW,jX],[]⟩ wr) Q0) ⟨#[qa,.string s,qc,qd,qe,qf,.pointer (some ⟨p,0,none⟩),.int .i64 (atN l.length pos),qg,qh,qi,qj,qk,ql,.int .i64 k,qm,qn,qo,qp,qq,qr,qs,qt,qu,qv,qw,qx,qy,qz,qA,qB,qC,qD,qE,qF,qG,qH,qI,qJ,qK,qL,qM,qN,qO,qP,qQ,qR,qS,qT,qU,qV,qW,qX,qY,qZ,q0,q1,q2,q3,q4,q5,q6,q7,q8,q9,za,zb,zc,zd,ze,zf,zg,zh,zi,zj,zk,zl,zm,zn,zo,zp,zq,zr,zs,zt,zu,zv,zw,zx,zy,zz,zA,zB,zC,zD,zE,zF,zG,zH,zI,zJ,zK,zL,zM,zN,zO,zP,zQ,zR,zS,zT,zU,zV,zW,zX,zY,zZ,z5,z6,z7,z8,z9,ya,yb,yc,yd,ye,yf,yg,yh,yi,yj,yk,yl,ym,yn,yo,yp,yq,yr,ys,yt,yu,yv,yw,yx,yy,yz,yA,yB,yC,yD,yE,yF,yG,yH,yI,yJ,yK,yL,yM,yN,yO,yP,yQ,yR,yS,yT,yU,yV,yW,yX,yY,yZ,y5,y6,y7,y8,y9,va,vb,vc,vd,ve,vf,vg,vh,vi,vj,vk,vl,vm,vn,vo,vp,vq,vr,vs,vt,vu,vv,vx,vy,vz,vA,vB,vC,vD,vE,vF,vG,vH,vI,vJ,vK,vL,vM,vN,vO,vP,vQ,vR,vS,vT,vU,vV,vW,vX,vY,vZ,v0,v1,v3,v4,v5,v6,v7,v8,v9,ja,jb,jc,jd,je,jf,jg,jh,ji,jj,jk,jl,jm,jn,jo,jp,jq,jr,js,jt,ju,jv,jw,jx,jy,jz,jA,jB,jC,jD,jE,jF,jG,jH,jI,jJ,jK,jL,jM,jN,jO,jP,jQ,jR,jS,jT,jU,jV,jW,jX],[]⟩ wr:=by
 conv=>arg 2;whnf
 have hok:=hctx.ok
 have hlen:=hctx.len
 have HXX:=hide hctx.hX
 have hssz:=hctx.str.size
 have hsh:=hctx.str.short
 have HNum:Hid (∀ (k:Nat) wx,Calls Tryz.prog 91 #[.string s,.int .i64 (atN l.length k)] wx fun e w'=>e=.returned (.tuple #[.int .i64 (l.getD k 0),.int .i64 (atN l.length (k+1))])∧w'=wx):=fun k wx=>refNumber_calls hctx.str k (by omega) wx
 have HWc:=hide hctx.wz
 have HFits:=hide hctx.str.fits
 have HRet:=hide hret
 obtain ⟨hs1,hs8,hw1,hw6⟩:=valid_counts hok
 clear hctx hret
 have p0:=hr.parts
 obtain ⟨W0,rfl⟩:∃ W0,W0=wr:=⟨_,rfl⟩
 have hposl:=hr.pos
 have hbel:=hr.below
 obtain ⟨L,R,hL,hra,hfo,hco,hhf,hin,hpx⟩:=hr.ex
 obtain ⟨rfl,rfl,rfl,rfl,rfl⟩:=id hL
 have hk0:(0:Int)≤(k:Int):=by omega
 have hk1:(k:Int)<(n.streams.length:Int):=by omega
 have c0:=hra.sc hlt 0 _ (by decide) rfl
 have c1:=hra.sc hlt 1 _ (by decide) rfl
 have c2:=hra.sc hlt 2 _ (by decide) rfl
 have c3:=hra.sc hlt 3 _ (by decide) rfl
 have c4:=hra.sc hlt 4 _ (by decide) rfl
 rw [Nat.add_zero] at c0
 obtain ⟨av,cv,hvw⟩:=own_slice (hra.words k hlt)
 have HX0:=hide (XLd.start hra hlt)
 rw [hvw] at c2 HX0
 have HNo:Hid (getS (srcd n k) (used n k) (R.s k) (l.drop pos)=none→∀ wx,RLoadOut wz (fun b=>b<w.heap.size) n l rs none 3 wx):=fun hg wx=>by
  have e:=hpx
  rw [parseS_at hlt,hg] at e
  refine ⟨fun e'=>(by rw [hok] at e';cases e'),fun _ _=>⟨rfl,rfl⟩,fun _ R' e'=>?_⟩
  rw [loadR_read', ← HXX.out, ← e] at e'
  cases e'
 have HNx:Hid (∀ {xb:Nat} {vw:Value} {ws:List Int} {rdn ron pos':Nat} {wr:World},XLd L W0 n k xb vw ws rdn ron wr→getS (srcd n k) (used n k) (R.s k) (l.drop pos)=some (⟨ws,rdn,ron⟩,l.drop pos')→pos'≤l.length→∀ q,RAtS L.p L.gS L.gW L.cS L.cW w.heap.size wz w n l X (k+1) pos' ((putS wr L.gS k (.bool (srcd n k)) (.bool (used n k)) vw (.int .i64 rdn) (.int .i64 ron)).drewN q)):=fun h1 h2 h3 q=>h1.next hra hlt hL hfo hco hhf hin hpx hbel HWc.out HWc.out.size hbel.size HFits.out h2 h3 q
 have HBx:Hid (∀ {xb:Nat} {vw:Value} {ws:List Int} {rd ro:Int} {wr:World},XLd L W0 n k xb vw ws rd ro wr→Below w.heap.size w wr):=fun h1=>hbel.trans ⟨h1.fr.os,h1.fr.tape,h1.fr.output,h1.fr.size,fun b hb=>h1.fr.block b (by have:=hbel.size;omega) (fun e=>by have:=hfo b (Or.inr (Or.inr (Or.inr ⟨k,hlt,e⟩)));omega)⟩
 have HGc:Hid (∀ {xb:Nat} {vw:Value} {ws:List Int} {rd ro:Int} {wr:World},XLd L W0 n k xb vw ws rd ro wr→wr.cell? ⟨L.p,0,none⟩=some (.slice (some ⟨L.gS,0,none⟩) n.streams.length L.cS)∧(∀ j,j<5→∃ u,wr.cell? ⟨L.gS,k*5+j,none⟩=some u∧wr.frozen? ⟨L.gS,k*5+j,none⟩=false)∧L.gS≠xb∧L.gS≠L.p∧xb≠L.p):=fun h1=>h1.gcells hra hlt
 have HNm:=hide (HNum.out pos)
 have HIn:=hide (hin k (Nat.le_refl _) hlt)
 clear hr hra hL hfo hco hhf hin hpx hbel hvw
 have hw0:(R.s k).words=[]:=by rw [HIn.out,init0_s k hlt,hsr];rfl
 have hrd0:(R.s k).read=0:=by rw [HIn.out,init0_s k hlt]
 rw [hsr] at c0 HX0 HNo HNx
 rw [hw0] at c2 HX0
 rw [hrd0] at c3 HX0
 have c2:W0.cell? ⟨L.gS,k*5+2,none⟩=some (.slice av 0 cv):=c2
 have c3:W0.cell? ⟨L.gS,k*5+3,none⟩=some (.int .i64 0):=c3
 have HX0:Hid (XLd L W0 n k W0.heap.size (.slice av 0 cv) [] 0 (R.s k).room (W0.alloc (.cells #[.bool false,.bool (used n k),.slice av 0 cv,.int .i64 0,.int .i64 (R.s k).room] 88))):=HX0
 clear HNm HIn hw0 hrd0
 obtain ⟨f,hf⟩:∃ f:Nat→Int,f=fun i=>l.getD (pos+i) 0:=⟨_,rfl⟩
 have HNf:Hid (∀ (i:Nat) wx,Calls Tryz.prog 91 #[.string s,.int .i64 (atN l.length (pos+i))] wx fun e w'=>e=.returned (.tuple #[.int .i64 (f i),.int .i64 (atN l.length (pos+(i+1)))])∧w'=wx):=fun i wx=>by
  rw [hf];exact HNum.out (pos+i) wx
 have HFF:Hid (∀ i,f i=l.getD (pos+i) 0):=fun i=>by rw [hf]
 have HAt:Hid (atN l.length pos=atN l.length (pos+0)):=rfl
 obtain ⟨⟨x0,x1,x2,x3,x4⟩, -⟩:=HX0.out.cells
 have HX1:=hide (HX0.out.three f)
 have hszx:(W0.alloc (.cells #[.bool false,.bool (used n k),.slice av 0 cv,.int .i64 0,.int .i64 (R.s k).room] 88)).heap.size=W0.heap.size+1:=by simp
 rw [hszx] at HX1
 clear HX0 hf hszx
 generalize hrm:(R.s k).room=rm at *
 go_upto_region 36 with fail
 clear c0 c1 c2 c3 c4 x0 x1 x2 x3 x4 p0
 generalize (W0.alloc (.cells #[.bool false,.bool (used n k),.slice av 0 cv,.int .i64 0,.int .i64 rm] 88)).alloc (.cells #[.int .i64 0,.int .i64 0,.int .i64 0] 150)=wA at *
 generalize W0.heap.size+1=tb at *
 generalize W0.heap.size=xb at *
 go_wp2
 go_loopw [7,20] (fun at_ i wq=>∃ j:Nat,j≤3∧at_=.int .i64 (atN l.length (pos+j))∧i=.int .i64 j∧Ld3 L W0 n k xb tb (.slice av 0 cv) [] 0 rm f j wq) (fun _ i _=>3-(intOf i).toNat)
 case atStart=>exact ⟨0,Nat.zero_le _,by rw [HAt.out],rfl,HX1.out⟩
 case round=>
  clear HX1
  obtain ⟨j,hj,rfl,rfl,hld⟩:=hrel
  by_cases hj3:j<3
  ·have HNj:=hide (HNf.out j)
   obtain ⟨c3,c4⟩:=hld.cell j hj3
   have HL1:=hide hld.set
   have hj0:(0:Int)≤(j:Int):=by omega
   have hj1:(j:Int)<3:=by omega
   clear hld HNf HAt
   generalize f j=fj at *
   generalize atN l.length (pos+j)=a0 at *
   generalize ha1:atN l.length (pos+(j+1))=a1 at *
   have HA1:=hide ha1
   clear ha1
   go_wp2_with fail
   refine (unhide HNj _).mono ?_
   rintro e w2 ⟨rfl,rfl⟩
   go_wp2
   go_roundw
   case rel=>exact ⟨j+1,by omega,by rw [HA1.out],by go_num,HL1.out⟩
   case measure=>simp [intOf];omega
  ·have hj3':j=3:=by omega
   subst hj3'
   obtain ⟨c0, -⟩:=hld.cell 0 (by decide)
   obtain ⟨c1, -⟩:=hld.cell 1 (by decide)
   obtain ⟨c2, -⟩:=hld.cell 2 (by decide)
   simp only [Nat.reduceLT,if_true] at c0 c1 c2
   obtain ⟨⟨x0,x1,x2,x3,x4⟩, -,xf3,xf4⟩:=hld.x.cells
   have nt:=hld.ne
   have HX2:=hide ((hld.x.room (f 0)).read (f 1))
   clear hld HNf HAt
   go_upto_region 45 with fail
   generalize (wr.setCell ⟨xb,4,none⟩ (.int .i64 (f 0))).setCell ⟨xb,3,none⟩ (.int .i64 (f 1))=w3 at *
   clear c0 c1 c2 x0 x1 x2 x3 x4 xf3 xf4
   obtain ⟨⟨x0,x1,x2,x3,x4⟩, -⟩:=HX2.out.cells
   have HB3:=hide (HBx.out HX2.out)
   have HBad:Hid ((pos+3≤l.length→0≤f 2→f 2+(pos+3)≤l.length→0≤f 1→f 1≤f 2→(rm:Int)≤f 0→f 0≤40→(used n k=false→f 0=rm∧f 1=0)→¬ (used n k=true→f 2-f 1≤f 0))→∀ wx,RLoadOut wz (fun b=>b<w.heap.size) n l rs none 3 wx):=fun h'=>HNo.out (getS_un_none HFF.out (by rw [hrm];exact h'))
   have HGood:Hid (∀ a b c:Nat,f 0=a→f 1=b→f 2=c→pos+3≤l.length→c+(pos+3)≤l.length→b≤c→rm≤a→a≤40→(used n k=false→a=rm∧b=0)→(used n k=true→c≤b+a)→getS false (used n k) (R.s k) (l.drop pos)=some (⟨(l.drop (pos+3)).take c,b,a⟩,l.drop (pos+3+c))):=fun a b c e0 e1 e2 g0 g1 g2 g3 g4 g5 g6=>getS_un HFF.out g0 e0 e1 e2 g1 g2 (by rw [hrm];exact g3) g4 (by rw [hrm];exact g5) g6
   have HNa:Hid (∀ (i:Nat) wx,pos+3+i<l.length→Calls Tryz.prog 91 #[.string s,.int .i64 (atN l.length (pos+3+i))] wx fun e w'=>e=.returned (.tuple #[.int .i64 ((l.drop (pos+3)).getD i 0),.int .i64 (atN l.length (pos+3+(i+1)))])∧w'=wx):=fun i wx hi=>by
    have:=HNum.out (pos+3+i) wx
    have e:(l.drop (pos+3)).getD i 0=l.getD (pos+3+i) 0:=by simp [List.getD,List.getElem?_drop]
    rw [e];exact this
   have hpl:pos≤l.length:=hposl
   rw [hsr] at x0
   clear HNo HFF HNum
   generalize f 0=fa at *
   generalize f 1=fb at *
   generalize f 2=fc at *
   by_cases hA:pos+3≤l.length
   ·have hat:atN l.length (pos+3)=8*((pos+3:Nat):Int):=by unfold atN;rw [if_pos hA]
    obtain ⟨rem,hrem⟩:∃ rem:Nat,rem=l.length-(pos+3):=⟨_,rfl⟩
    have hwq:wrap64 ((s.size:Int)-atN l.length (pos+3))=(s.size:Int)-atN l.length (pos+3):=by rw [hat];unfold wrap64;omega
    have hquo:((s.size:Int)-atN l.length (pos+3)) / 8=rem:=by rw [hat];omega
    have hqt:((s.size:Int)-atN l.length (pos+3)).tdiv 8=rem:=by rw [hat,Int.tdiv_eq_ediv_of_nonneg (by omega)];omega
    obtain ⟨a0,ha0⟩:∃ a0,a0=atN l.length (pos+3):=⟨_,rfl⟩
    have ha1:0≤a0:=by rw [ha0,hat];omega
    have HA0:=hide ha0
    rw [← ha0] at hwq hquo hqt ⊢
    have hd0:decide (a0<0)=false:=by simp;omega
    clear ha0 hat
    by_cases h1:fc<0
    ·have HO:=hide (HBad.out fun _ h'=>absurd h' (by omega))
     have hd1:decide (fc<0)=true:=by simpa using h1
     clear HBad HGood HNx HBx HGc HA0 HX2 HNa
     go_wp2
     exact HRet.out _ _ ⟨rfl,rfl,rfl,rfl,HO.out _,HB3.out⟩
    have hd1:decide (fc<0)=false:=by simpa using h1
    by_cases h2:(rem:Int)<fc
    ·have HO:=hide (HBad.out fun _ _ h'=>absurd h' (by omega))
     have hd2:decide ((rem:Int)<fc)=true:=by simpa using h2
     clear HBad HGood HNx HBx HGc HA0 HX2 HNa
     go_wp2
     exact HRet.out _ _ ⟨rfl,rfl,rfl,rfl,HO.out _,HB3.out⟩
    have hd2:decide ((rem:Int)<fc)=false:=by simpa using h2
    by_cases h3:fb<0
    ·have HO:=hide (HBad.out fun _ _ _ h'=>absurd h' (by omega))
     have hd3:decide (fb<0)=true:=by simpa using h3
     clear HBad HGood HNx HBx HGc HA0 HX2 HNa
     go_wp2
     exact HRet.out _ _ ⟨rfl,rfl,rfl,rfl,HO.out _,HB3.out⟩
    have hd3:decide (fb<0)=false:=by simpa using h3
    by_cases h4:fc<fb
    ·have HO:=hide (HBad.out fun _ _ _ _ h'=>absurd h' (by omega))
     have hd4:decide (fc<fb)=true:=by simpa using h4
     clear HBad HGood HNx HBx HGc HA0 HX2 HNa
     go_wp2
     exact HRet.out _ _ ⟨rfl,rfl,rfl,rfl,HO.out _,HB3.out⟩
    have hd4:decide (fc<fb)=false:=by simpa using h4
    by_cases h5:fa<(rm:Int)
    ·have HO:=hide (HBad.out fun _ _ _ _ _ h'=>absurd h' (by omega))
     have hd5:decide (fa<(rm:Int))=true:=by simpa using h5
     clear HBad HGood HNx HBx HGc HA0 HX2 HNa
     go_wp2
     exact HRet.out _ _ ⟨rfl,rfl,rfl,rfl,HO.out _,HB3.out⟩
    have hd5:decide (fa<(rm:Int))=false:=by simpa using h5
    by_cases h6:40<fa
    ·have HO:=hide (HBad.out fun _ _ _ _ _ _ h'=>absurd h' (by omega))
     have hd6:decide (40<fa)=true:=by simpa using h6
     clear HBad HGood HNx HBx HGc HA0 HX2 HNa
     go_wp2
     exact HRet.out _ _ ⟨rfl,rfl,rfl,rfl,HO.out _,HB3.out⟩
    have hd6:decide (40<fa)=false:=by simpa using h6
    obtain ⟨an,rfl⟩:∃ an:Nat,fa=an:=⟨fa.toNat,by omega⟩
    obtain ⟨bn,rfl⟩:∃ bn:Nat,fb=bn:=⟨fb.toNat,by omega⟩
    obtain ⟨cn,rfl⟩:∃ cn:Nat,fc=cn:=⟨fc.toNat,by omega⟩
    have hwd:wrap64 ((cn:Int)-(bn:Int))=(cn:Int)-bn:=by unfold wrap64;omega
    have HLast:Hid ((used n k=false→an=rm∧bn=0)→(used n k=true→cn≤bn+an)→getS false (used n k) (R.s k) (l.drop pos)=some (⟨(l.drop (pos+3)).take cn,bn,an⟩,l.drop (pos+3+cn))):=fun g1 g2=>HGood.out an bn cn rfl rfl rfl hA (by omega) (by omega) (by omega) (by omega) g1 g2
    have hcl:cn+(pos+3)≤l.length:=by omega
    go_upto_region 47 with fail
    have hcase:(used n k=false∧(an:Int)=rm∧(bn:Int)=0)∨(used n k=true∧¬ (an:Int)<(cn:Int)-bn)∨(used n k=false∧(an:Int)=rm∧¬ (bn:Int)=0)∨(used n k=false∧¬ (an:Int)=rm)∨(used n k=true∧(an:Int)<(cn:Int)-bn):=by
     cases used n k<;>simp<;>omega
    rcases hcase with ⟨hu,h7,h8⟩ | ⟨hu,h7⟩ | ⟨hu,h7,h8⟩ | ⟨hu,h7⟩ | ⟨hu,h7⟩
    rotate_left
    rotate_left
    ·have HO:=hide (HBad.out fun _ _ _ _ _ _ _ h'=>absurd (h' hu).2 h8)
     rw [hu] at x1
     clear HBad HGood HNx HBx HGc HA0 HX2 HNa HLast
     go_wp2
     exact HRet.out _ _ ⟨rfl,rfl,rfl,rfl,HO.out _,HB3.out⟩
    ·have HO:=hide (HBad.out fun _ _ _ _ _ _ _ h'=>absurd (h' hu).1 h7)
     rw [hu] at x1
     clear HBad HGood HNx HBx HGc HA0 HX2 HNa HLast
     go_wp2
     exact HRet.out _ _ ⟨rfl,rfl,rfl,rfl,HO.out _,HB3.out⟩
    ·have HO:=hide (HBad.out fun _ _ _ _ _ _ _ _ h'=>absurd (h' hu) (by omega))
     have hd7:decide ((an:Int)<(cn:Int)-bn)=true:=by simpa using h7
     rw [hu] at x1
     clear HBad HGood HNx HBx HGc HA0 HX2 HNa HLast
     go_wp2
     exact HRet.out _ _ ⟨rfl,rfl,rfl,rfl,HO.out _,HB3.out⟩
    all_goals
     first
     |have HLs:=hide (HLast.out (fun _=>⟨by omega,by omega⟩) (fun e=>by rw [hu] at e;cases e))
      rw [hu] at x1
      clear HBad HGood HLast HB3
      go_upto_region 49 with fail
      clear h7 h8
     |have HLs:=hide (HLast.out (fun e=>by rw [hu] at e;cases e) (fun _=>by omega))
      have hd7:decide ((an:Int)<(cn:Int)-bn)=false:=by simpa using h7
      rw [hu] at x1
      clear HBad HGood HLast HB3
      go_upto_region 49 with fail
      clear h7 hd7
     clear hu x0 x1 x2 x3 x4 hd0 hd1 hd2 hd3 hd4 hd5 hd6 h1 h2 h3 h4 h5 h6 hwq hquo hqt hwd ha1 hrm
     rw [HA0.out]
     clear HA0
     obtain ⟨iI,hiI,hI0,hI1,hI2⟩:=info_parts Tryz.info3
     go_wp2
     go_loopw [7,24] (fun at_ i wq=>∃ (j:Nat) (vw:Value),j≤cn∧at_=.int .i64 (atN l.length (pos+3+j))∧i=.int .i64 j∧XLd L W0 n k xb vw ((l.drop (pos+3)).take j) bn an wq) (fun _ i _=>cn-(intOf i).toNat)
     case atStart=>exact ⟨0,_,Nat.zero_le _,rfl,rfl,HX2.out⟩
     case round=>
      clear HX2
      obtain ⟨j,vw,hj,rfl,rfl,hld⟩:=hrel
      by_cases hjc:j<cn
      ·have HNj:=hide (HNa.out j wr (by omega))
       obtain ⟨⟨x0,x1,x2,x3,x4⟩,xf2, -⟩:=hld.cells
       obtain ⟨v2,vc2,hv2⟩:=own_slice hld.own
       have hlj:((l.drop (pos+3)).take j).length=j:=by rw [List.length_take,List.length_drop];omega
       rw [hlj] at hv2
       have HO:=hide hld.own
       rw [hlj] at HO
       have HTk:Hid ((l.drop (pos+3)).take (j+1)=(l.drop (pos+3)).take j++[(l.drop (pos+3)).getD j 0]):=by
        have h':j<(l.drop (pos+3)).length:=by rw [List.length_drop];omega
        unfold Hid
        rw [List.take_succ_eq_append_getElem h',getD_eq _ _ _ h']
       have HWo:Hid (∀ {o:Obj} {g cap:Nat} {w2:World},w2.ownsRow 0 3 1 (.slice (some ⟨g,0,none⟩) (j+1) cap) (j+1) (intRow ((l.drop (pos+3)).take j)++[.int .i64 ((l.drop (pos+3)).getD j 0)])→(wr.alloc o).grownBy w2 vw.ownBlock→(vw.ownBlock=some g∨g=wr.heap.size+1)→(w2.cell? ⟨xb,2,none⟩=some vw∧w2.frozen? ⟨xb,2,none⟩=false)∧XLd L W0 n k xb (.slice (some ⟨g,0,none⟩) (j+1) cap) ((l.drop (pos+3)).take (j+1)) bn an (w2.setCell ⟨xb,2,none⟩ (.slice (some ⟨g,0,none⟩) (j+1) cap))):=fun {o g cap w2} h1 h2 h3=>by
        rw [HTk.out]
        have:=hld.word (x:=(l.drop (pos+3)).getD j 0) (o:=o) (g:=g) (cap:=cap) (w2:=w2) (by rw [hlj];exact h1) h2 h3
        rw [hlj] at this
        exact this
       have hj0:(0:Int)≤(j:Int):=by omega
       have hj1:(j:Int)<(cn:Int):=by omega
       have h63:j+1≤maxLen:=by unfold maxLen;omega
       have hbytes:(j+1)*8≤140737488355328:=by omega
       have hxl:=lt_of_cell x2
       clear hld hlj HNa HNx HBx HGc HLs x0 x1 x3 x4 HTk
       subst hv2
       generalize (l.drop (pos+3)).getD j 0=xj at *
       generalize hrow:intRow ((l.drop (pos+3)).take j)=row at *
       clear hrow
       generalize atN l.length (pos+3+j)=a0 at *
       generalize ha1:atN l.length (pos+3+(j+1))=a1 at *
       have HA1:=hide ha1
       clear ha1
       go_wp2_with fail
       refine (unhide HNj).mono ?_
       rintro e w2 ⟨rfl,rfl⟩
       go_wp2_with (at_builtin;refine wpList_append_lies _ rfl (.tmp 272) (.tmp 274) 22 rfl 0 3 iI (.int .i64 0) 1 8 Tryz.underlying22 hiI hI0 hI1 hI2 rfl (by decide) (.slice v2 j vc2) j row rfl (HO.out.alloc _) ⟨w2.heap.size,0,none⟩ 1 1 [.int .i64 xj] rfl rfl ?c1 ?c2 (by decide) h63 hbytes (Nat.zero_le _) (w2.heap.size+1) (by simp) ?_)
       case c1=>exact cell_one_new _ _ _
       case c2=>intro u hu;simp at hu;subst hu;rfl
       intro g gcap w4 hown hgrow hor hglt
       obtain ⟨⟨z2,zf2⟩,hx4⟩:=HWo.out hown hgrow hor
       have HX4:=hide hx4
       clear hx4 hown hgrow hor HWo HO
       go_wp2
       go_roundw
       case rel=>exact ⟨j+1,_,by omega,by rw [HA1.out],by go_num,HX4.out⟩
       case measure=>simp [intOf];omega
      ·have hjl:j=cn:=by omega
       subst hjl
       have HO:=hide (HNx.out hld HLs.out (by omega))
       obtain ⟨⟨x0,x1,x2,x3,x4⟩, -⟩:=hld.cells
       obtain ⟨v2,vc2,hv2⟩:=own_slice hld.own
       obtain ⟨y0,y1,y2,y3,y4⟩:=HGc.out hld
       obtain ⟨qa,z0,zf0⟩:=y1 0 (by decide)
       obtain ⟨qb,z1,zf1⟩:=y1 1 (by decide)
       obtain ⟨qc,z2,zf2⟩:=y1 2 (by decide)
       obtain ⟨qd,z3,zf3⟩:=y1 3 (by decide)
       obtain ⟨qe,z4,zf4⟩:=y1 4 (by decide)
       rw [Nat.add_zero] at z0 zf0
       rw [hsr] at x0
       subst hv2
       have hjj:¬ (j:Int)<(j:Int):=by omega
       clear hld HNa HNx HBx HGc HLs y1 hsr
       generalize ((l.drop (pos+3)).take j).length=wl at *
       generalize hpp:atN l.length (pos+3+j)=a0 at *
       have HPP:=hide hpp
       clear hpp
       go_wp2
       go_region_held3 (fun w'=>w'.cell? ⟨L.p,0,none⟩=some (.slice (some ⟨L.gS,0,none⟩) n.streams.length L.cS)∧w'.cell? ⟨xb,0,none⟩=some (.bool false)∧w'.cell? ⟨xb,1,none⟩=some (.bool (used n k))∧w'.cell? ⟨xb,2,none⟩=some (.slice v2 wl vc2)∧w'.cell? ⟨xb,3,none⟩=some (.int .i64 bn)∧w'.cell? ⟨xb,4,none⟩=some (.int .i64 an)) (go_keep) (fail)
       go_wp2
       refine ⟨⟨rfl,rfl,rfl,rfl,k+1,pos+3+j,by omega,?_,?_,HO.out 1⟩,?_⟩
       ·show Value.int .i64 _=_
        rw [HPP.out]
       ·show Value.int .i64 _=_
        go_num
       ·show n.streams.length-(intOf (Value.int .i64 _)).toNat<n.streams.length-(intOf (Value.int .i64 _)).toNat
        simp [intOf];omega
   ·have hat:atN l.length (pos+3) = -1:=by unfold atN;rw [if_neg hA]
    have HO:=hide (HBad.out fun h'=>absurd h' hA)
    rw [hat]
    clear HBad HGood HNx HBx HGc hat HX2 HNa
    go_wp2
    exact HRet.out _ _ ⟨rfl,rfl,rfl,rfl,HO.out _,HB3.out⟩
end Go.Proofs.YthfdgdfnflilfaaGreatDoor

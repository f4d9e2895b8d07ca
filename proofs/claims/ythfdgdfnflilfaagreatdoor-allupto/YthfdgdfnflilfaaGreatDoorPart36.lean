/- Part 36: RefS11, RefS12, RefG1. -/
import Derived.Deep.RegionHeld3
import Derived.Deep.AppendLies
import Derived.Test.YthfdgdfnflilfaaGreatDoorPart22
import Derived.Test.YthfdgdfnflilfaaGreatDoorPart31
import Derived.Test.YthfdgdfnflilfaaGreatDoorPart32
import Derived.Test.YthfdgdfnflilfaaGreatDoorPart33
import Derived.Test.YthfdgdfnflilfaaGreatDoorPart34
namespace Go.Proofs.YthfdgdfnflilfaaGreatDoor
open Go.RowKit Go.Conc
theorem far_block {a b i j:Nat} (h:a≠b):(⟨b,j,none⟩:Addr)≠⟨a,i,none⟩:=fun e=>h (congrArg Addr.block e).symm
set_option maxRecDepth 100000 in
set_option maxHeartbeats 4000000 in
theorem refStep_write {L:RLay} {w:World} {N:Net} {R:Rc} (h:RefAt L w N R) (k:Nat) (hk:k<N.workers.length) (hst:stateOf N R k=1) (hco:RCodes L w N) (ia ib ic:Int) (hi:(codeOf N k)[(R.w k).place]? = some ⟨2,ia,ib,ic⟩) (hsm:SmallR N R) :
  Calls Tryz.prog 61 #[.pointer (some ⟨L.p,0,none⟩),.int .i64 k] w fun e w'=>e=.returned (.int .i64 1)∧RStep L w N (doStep N R k) w':=by
 have hval:=valid_ins h.ok hk (List.mem_of_getElem? hi)
 obtain ⟨hb0,hb1⟩:=valid_stream hval (Or.inr rfl)
 obtain ⟨hr0,hr1⟩:=valid_reg hval (by dsimp only;omega)
 dsimp only at hb0 hb1 hr0 hr1
 obtain ⟨ka,rfl⟩:=Int.eq_ofNat_of_zero_le hr0
 obtain ⟨s,rfl⟩:=Int.eq_ofNat_of_zero_le hb0
 have hs:s<N.streams.length:=by omega
 have hka:ka<4:=by omega
 obtain ⟨v,hve⟩:∃ v,v=(R.w k).r ka:=⟨_,rfl⟩
 have HDo:Hid (doStep N R k=⟨(R.W.set k ⟨(R.w k).place+1,(R.w k).r,wrap64 ((R.w k).steps+1)⟩),R.S.set s { R.s s with words:=(R.s s).words++[v]}⟩):=by
  show doStep N R k=_
  unfold doStep insAt
  rw [hi,hve]
  simp [nextW,nextS]
 obtain ⟨ds,hd,hd2⟩:=h.rowS
 have HPut:Hid (∀ w5 g gc,Fr (fun b=>b=L.gS∨(L.VW s).ownBlock=some b) w w5→w5.heap[L.gS]? = some (.cells (ds.set (s*5+2) (.slice (some ⟨g,0,none⟩) ((R.s s).words.length+1) gc)).toArray 88 (0,0))→w5.ownsRow 0 3 1 (.slice (some ⟨g,0,none⟩) ((R.s s).words.length+1) gc) ((R.s s).words.length+1) (intRow (R.s s).words++[.int .i64 v])→((L.VW s).ownBlock=some g∨w.heap.size≤g) →
   RStep L w N (doStep N R k) (putW w5 L.gW k (L.VC k) ⟨(R.w k).place+1,(R.w k).r,wrap64 ((R.w k).steps+1)⟩).drew∧∃ L' R',RefAt L' w5 N R'∧L'.p=L.p∧L'.gW=L.gW∧L'.VC=L.VC∧R'.W=R.W):=fun w5 g gc hf hg ho hgw=>by
  rw [HDo.out]
  have h1:=RStep.write h hco hs hd2 hf hg ho hgw
  refine ⟨(h1.put hco hk ⟨(R.w k).place+1,(R.w k).r,wrap64 ((R.w k).steps+1)⟩ (by show (R.w k).place+1≤_;have:=(List.getElem?_eq_some_iff.1 hi).1;omega)).drew,?_⟩
  obtain ⟨L',q1,q2,q3,q4, -⟩:=h1.ex
  exact ⟨L',_,q1,q2,q3,q4,rfl⟩
 have HDs:=hide hd
 have hln:=hsm s hs
 have h63:(R.s s).words.length+1≤maxLen:=by unfold maxLen;omega
 have hbytes:((R.s s).words.length+1)*8≤140737488355328:=by omega
 obtain ⟨iI,hiI,hI0,hI1,hI2⟩:=info_parts Tryz.info3
 have hgl:L.gS<w.heap.size:=lt_of_blk hd
 clear HDo hco hval hb0 hb1 hr0 hr1 hd hd2 hsm
 have HS:=hide (refState_calls h k hk)
 rw [hst] at HS
 have HH:Hid (∀ wx,Below w.heap.size w wx→RefAt L wx N R):=fun wx hx=>h.below hx
 clear h
 go_enter Tryz.func61,Tryz.ntmps61
 go_wp2_with fail
 refine (unhide HS).mono ?_
 rintro e w1 ⟨rfl,hb⟩
 have HR:=hide (HH.out w1 hb)
 have HB:=hide hb
 clear hb HS hst
 obtain ⟨p0, -⟩:=blk_cell (l:=[_,_]) HR.out.blk 0 _ rfl
 obtain ⟨p1, -⟩:=blk_cell (l:=[_,_]) HR.out.blk 1 _ rfl
 have x0:w1.cell? ⟨L.gW,k*7,none⟩=some (L.VC k):=HR.out.wc hk 0 _ (by decide) rfl
 have x1:=HR.out.wc hk 1 _ (by decide) rfl
 have x2:=HR.out.wc hk 2 _ (by decide) rfl
 have x3:=HR.out.wc hk 3 _ (by decide) rfl
 have x4:=HR.out.wc hk 4 _ (by decide) rfl
 have x5:=HR.out.wc hk 5 _ (by decide) rfl
 have x6:=HR.out.wc hk 6 _ (by decide) rfl
 obtain ⟨ca,cc,hvc,hc63,hccap,hcells⟩:=(HR.out.code k hk).openD
 have HV:=hide hvc
 rw [hvc] at x0
 have hpl:(R.w k).place<(codeOf N k).length:=(List.getElem?_eq_some_iff.1 hi).1
 have hgi:(codeOf N k).getD (R.w k).place ⟨0,0,0,0⟩=⟨2,ka,s,ic⟩:=by rw [getD_eq _ _ _ hpl];exact (List.getElem?_eq_some_iff.1 hi).2
 obtain ⟨cb,co,rfl,hcb,hcell⟩:=hcells _ hpl
 obtain ⟨d0,d1,d2,d3⟩:=hcell w1 (Below.refl _ _)
 rw [hgi] at d0 d1 d2 d3
 dsimp only at d0 d1 d2 d3
 have hk0:(0:Int)≤(k:Int):=by omega
 have hk1:(k:Int)<(N.workers.length:Int):=by omega
 have hp0:(0:Int)≤((R.w k).place:Int):=by omega
 have hp1:((R.w k).place:Int)<((codeOf N k).length:Int):=by omega
 have z0:=lt_of_cell p0
 have z1:=lt_of_cell x0
 clear hcells hcell hgi hvc hi
 go_upto_region 15 with fail
 have hbx:((w1.alloc (.cells #[.slice (some ⟨cb,co,none⟩) (codeOf N k).length cc,.int .i64 ((R.w k).place:Int),.int .i64 ((R.w k).r 0),.int .i64 ((R.w k).r 1),.int .i64 ((R.w k).r 2),.int .i64 ((R.w k).r 3),.int .i64 ((R.w k).steps)] 92)).alloc (.cells #[.int .i64 2,.int .i64 ka,.int .i64 s,.int .i64 ic] 44)).heap[w1.heap.size]? = some (.cells #[.slice (some ⟨cb,co,none⟩) (codeOf N k).length cc,.int .i64 ((R.w k).place:Int),.int .i64 ((R.w k).r 0),.int .i64 ((R.w k).r 1),.int .i64 ((R.w k).r 2),.int .i64 ((R.w k).r 3),.int .i64 ((R.w k).steps)] 92 (0,0)):=heapOld (by simp) (heapNew rfl)
 have hbi:((w1.alloc (.cells #[.slice (some ⟨cb,co,none⟩) (codeOf N k).length cc,.int .i64 ((R.w k).place:Int),.int .i64 ((R.w k).r 0),.int .i64 ((R.w k).r 1),.int .i64 ((R.w k).r 2),.int .i64 ((R.w k).r 3),.int .i64 ((R.w k).steps)] 92)).alloc (.cells #[.int .i64 2,.int .i64 ka,.int .i64 s,.int .i64 ic] 44)).heap[w1.heap.size+1]? = some (.cells #[.int .i64 2,.int .i64 ka,.int .i64 s,.int .i64 ic] 44 (0,0)):=heapNew (by simp)
 have hbl:Below w1.heap.size w1 ((w1.alloc (.cells #[.slice (some ⟨cb,co,none⟩) (codeOf N k).length cc,.int .i64 ((R.w k).place:Int),.int .i64 ((R.w k).r 0),.int .i64 ((R.w k).r 1),.int .i64 ((R.w k).r 2),.int .i64 ((R.w k).r 3),.int .i64 ((R.w k).steps)] 92)).alloc (.cells #[.int .i64 2,.int .i64 ka,.int .i64 s,.int .i64 ic] 44)):=((Below.refl _ _).alloc (Nat.le_refl _) _).alloc (by simp) _
 have hR4:=HR.out.below hbl
 have HB4:Hid (Below w.heap.size w ((w1.alloc (.cells #[.slice (some ⟨cb,co,none⟩) (codeOf N k).length cc,.int .i64 ((R.w k).place:Int),.int .i64 ((R.w k).r 0),.int .i64 ((R.w k).r 1),.int .i64 ((R.w k).r 2),.int .i64 ((R.w k).r 3),.int .i64 ((R.w k).steps)] 92)).alloc (.cells #[.int .i64 2,.int .i64 ka,.int .i64 s,.int .i64 ic] 44))):=HB.out.trans (hbl.mono HB.out.size)
 generalize (w1.alloc (.cells #[.slice (some ⟨cb,co,none⟩) (codeOf N k).length cc,.int .i64 ((R.w k).place:Int),.int .i64 ((R.w k).r 0),.int .i64 ((R.w k).r 1),.int .i64 ((R.w k).r 2),.int .i64 ((R.w k).r 3),.int .i64 ((R.w k).steps)] 92)).alloc (.cells #[.int .i64 2,.int .i64 ka,.int .i64 s,.int .i64 ic] 44)=w4 at *
 have HSx:Hid (w.heap.size≤w1.heap.size):=HB.out.size
 clear hbl p0 p1 x0 x1 x2 x3 x4 x5 x6 d0 d1 d2 d3 z0 z1 HB HR
 obtain ⟨p0, -⟩:=blk_cell (l:=[_,_]) hR4.blk 0 _ rfl
 obtain ⟨i1, -⟩:=blk_cell (l:=[_,_,_,_]) hbi 1 _ rfl
 obtain ⟨i2, -⟩:=blk_cell (l:=[_,_,_,_]) hbi 2 _ rfl
 obtain ⟨i3, -⟩:=blk_cell (l:=[_,_,_,_]) hbi 3 _ rfl
 obtain ⟨av,cv,hv⟩:=own_slice (hR4.words s hs)
 have c0:w4.cell? ⟨L.gS,s*5,none⟩=some (.bool (srcd N s)):=hR4.sc hs 0 _ (by decide) rfl
 have c1:=hR4.sc hs 1 _ (by decide) rfl
 have c2:=hR4.sc hs 2 _ (by decide) rfl
 have c3:=hR4.sc hs 3 _ (by decide) rfl
 have c4:=hR4.sc hs 4 _ (by decide) rfl
 rw [hv] at c2
 have hs0:(0:Int)≤(s:Int):=by omega
 have hs1:(s:Int)<(N.streams.length:Int):=by omega
 have HVs:=hide hv
 have H4:=hide hR4
 have HBx:=hide hbx
 have HBi:=hide hbi
 clear hv hR4 hbx hbi
 have ka0:(0:Int)≤(ka:Int):=by omega
 have ka1:(ka:Int)<4:=by omega
 have ya:w4.cell? ⟨w1.heap.size,2+ka,none⟩=some (.int .i64 v):=by
  rw [hve]
  rcases (show ka=0∨ka=1∨ka=2∨ka=3 by omega) with rfl | rfl | rfl | rfl
  ·exact row_cell HBx.out rfl
  ·exact row_cell HBx.out rfl
  ·exact row_cell HBx.out rfl
  ·exact row_cell HBx.out rfl
 have HOw:Hid (((w4.alloc (.cells #[.int .i64 v] 3)).drew).ownsRow 0 3 1 (.slice av (R.s s).words.length cv) (R.s s).words.length (intRow (R.s s).words)):=by
  have:=H4.out.words s hs
  rw [HVs.out] at this
  exact this.alloc _
 have HNn:Hid (∀ (k:Nat) (u:Value),([.int .i64 v]:List Value)[k]? = some u→((w4.alloc (.cells #[.int .i64 v] 3)).drew).cell? ((⟨w4.heap.size,0,none⟩:Addr).add k)=some u):=fun k u hu=>cell_one_new w4 (.int .i64 v) 3 k u hu
 have HOn:Hid (∀ u∈([.int .i64 v]:List Value),u.oneCell'=true):=fun u hu=>by simp at hu;subst hu;rfl
 have HSz:Hid (0≤((w4.alloc (.cells #[.int .i64 v] 3)).drew).heap.size∧((w4.alloc (.cells #[.int .i64 v] 3)).drew).heap.size=w4.heap.size+1):=⟨Nat.zero_le _,by simp⟩
 have HFin:Hid (∀ w5 g gc,w5.ownsRow 0 3 1 (.slice (some ⟨g,0,none⟩) ((R.s s).words.length+1) gc) ((R.s s).words.length+1) (intRow (R.s s).words++[.int .i64 v])→((w4.alloc (.cells #[.int .i64 v] 3)).drew).grownBy w5 (Value.slice av (R.s s).words.length cv).ownBlock→((Value.slice av (R.s s).words.length cv).ownBlock=some g∨g=w4.heap.size+1) →
   (w5.cell? ⟨L.p,0,none⟩=some (.slice (some ⟨L.gS,0,none⟩) N.streams.length L.cS)∧w5.cell? ⟨w1.heap.size+1,2,none⟩=some (.int .i64 (s:Int))∧w5.cell? ⟨L.gS,s*5+2,none⟩=some (.slice av (R.s s).words.length cv)∧w5.frozen? ⟨L.gS,s*5+2,none⟩=false∧w5.cell? ⟨w1.heap.size+1,1,none⟩=some (.int .i64 (ka:Int))∧w5.cell? ⟨w1.heap.size,2+ka,none⟩=some (.int .i64 v)) ∧
   ∀ w9,w9=w5.setCell ⟨L.gS,s*5+2,none⟩ (.slice (some ⟨g,0,none⟩) ((R.s s).words.length+1) gc)→w9.heap[w1.heap.size]? = some (.cells #[.slice (some ⟨cb,co,none⟩) (codeOf N k).length cc,.int .i64 ((R.w k).place:Int),.int .i64 ((R.w k).r 0),.int .i64 ((R.w k).r 1),.int .i64 ((R.w k).r 2),.int .i64 ((R.w k).r 3),.int .i64 ((R.w k).steps)] 92 (0,0))∧Fr (fun b=>b=L.gS∨(L.VW s).ownBlock=some b) w w9∧w9.heap[L.gS]? = some (.cells (ds.set (s*5+2) (.slice (some ⟨g,0,none⟩) ((R.s s).words.length+1) gc)).toArray 88 (0,0))∧w9.ownsRow 0 3 1 (.slice (some ⟨g,0,none⟩) ((R.s s).words.length+1) gc) ((R.s s).words.length+1) (intRow (R.s s).words++[.int .i64 v])∧((L.VW s).ownBlock=some g∨w.heap.size≤g)):=fun w5 g gc ho hg hor=>by
  rw [← HVs.out] at hg hor
  have hwo:=H4.out.words s hs
  have hsz4:=HB4.out.size
  have hA:∀ b,b<w4.heap.size→(L.VW s).ownBlock≠some b→w5.heap[b]? = w4.heap[b]? := fun b hb hne=>by
   rw [hg.block b (by simp;omega) (fun e=>hne e.symm)]
   exact Below.heap_alloc w4 _ _ hb
  have hg4:w4.heap[L.gS]? = some (.cells ds.toArray 88 (0,0)):=(HB4.out.block _ hgl).trans HDs.out
  have hpa:=(hA _ (lt_of_blk H4.out.blk) (own_ne_type hwo H4.out.blk (by decide))).trans H4.out.blk
  have hia:=(hA _ (lt_of_blk HBi.out) (own_ne_type hwo HBi.out (by decide))).trans HBi.out
  have hxa:=(hA _ (lt_of_blk HBx.out) (own_ne_type hwo HBx.out (by decide))).trans HBx.out
  have hga:=(hA _ (lt_of_blk hg4) (own_ne_type hwo hg4 (by decide))).trans hg4
  obtain ⟨z0, -⟩:=blk_cell (l:=[_,_]) hpa 0 _ rfl
  obtain ⟨z1, -⟩:=blk_cell (l:=[_,_,_,_]) hia 2 _ rfl
  obtain ⟨z2, -⟩:=blk_cell (l:=[_,_,_,_]) hia 1 _ rfl
  refine ⟨⟨z0,z1,?_,row_frozen hga _,z2,?_⟩,fun w9 e9=>?_⟩
  ·rw [World.cell?_of_block (w:=w4) (hga.trans hg4.symm)];exact c2
  ·rw [World.cell?_of_block (w:=w4) (hxa.trans HBx.out.symm)];exact ya
  ·subst e9
   have hot:∀ b,b≠L.gS→(w5.setCell ⟨L.gS,s*5+2,none⟩ (.slice (some ⟨g,0,none⟩) ((R.s s).words.length+1) gc)).heap[b]? = w5.heap[b]? := fun b hb=>heap_setCell_other _ _ _ _ hb
   refine ⟨(hot _ (ne_of_types HBx.out hg4 (by decide))).trans hxa,?_,blk_set hga _ _,own_of_blockB ho fun b hb=>hot b (fun e=>own_ne_type ho hga (by decide) (e ▸ hb)),?_⟩
   ·refine Fr.setCell (S:=fun b=>b=L.gS∨(L.VW s).ownBlock=some b) ?_ (p:=⟨L.gS,s*5+2,none⟩) (Or.inr (Or.inl rfl)) _
    exact (((Fr.of_below HB4.out).alloc (.cells #[.int .i64 v] 3)).drewN 1).grown hg fun b hb=>Or.inr (Or.inr hb)
   ·rcases hor with h1 | h1
    ·exact Or.inl h1
    ·exact Or.inr (by omega)
 clear hve c0 c1 c3 c4 i3
 have hg4:w4.heap[L.gS]? = some (.cells ds.toArray 88 (0,0)):=(HB4.out.block _ hgl).trans HDs.out
 have q1:L.p≠L.gS:=ne_of_types H4.out.blk hg4 (by decide)
 have q2:w1.heap.size+1≠L.gS:=ne_of_types HBi.out hg4 (by decide)
 have q3:w1.heap.size≠L.gS:=ne_of_types HBx.out hg4 (by decide)
 clear hg4
 have n0:=World.new_ne w4 _ p0
 have n1:=World.new_ne w4 _ i2
 have n2:=World.new_ne w4 _ c2
 have n3:=World.new_ne w4 _ ya
 have HSA:Hid (((w4.alloc (.cells #[.int .i64 v] 3)).drew).cell? ⟨L.p,0,none⟩=some (.slice (some ⟨L.gS,0,none⟩) N.streams.length L.cS)∧((w4.alloc (.cells #[.int .i64 v] 3)).drew).cell? ⟨w1.heap.size+1,2,none⟩=some (.int .i64 (s:Int))∧((w4.alloc (.cells #[.int .i64 v] 3)).drew).cell? ⟨w1.heap.size+1,1,none⟩=some (.int .i64 (ka:Int))∧((w4.alloc (.cells #[.int .i64 v] 3)).drew).cell? ⟨w1.heap.size,2+ka,none⟩=some (.int .i64 v)):=⟨(World.cell?_of_block (w:=w4) (Below.heap_alloc w4 _ _ (lt_of_cell p0))).trans p0,(World.cell?_of_block (w:=w4) (Below.heap_alloc w4 _ _ (lt_of_cell i2))).trans i2,(World.cell?_of_block (w:=w4) (Below.heap_alloc w4 _ _ (lt_of_cell i1))).trans i1,(World.cell?_of_block (w:=w4) (Below.heap_alloc w4 _ _ (lt_of_cell ya))).trans ya⟩
 have c2a:((w4.alloc (.cells #[.int .i64 v] 3)).drew).cell? ⟨L.gS,s*5+2,none⟩=some (.slice av (R.s s).words.length cv):=(World.cell?_of_block (w:=w4) (Below.heap_alloc w4 _ _ (lt_of_cell c2))).trans c2
 refine wp_region_held_drew (S:=(fun w'=>w'.cell? ⟨L.p,0,none⟩=some (.slice (some ⟨L.gS,0,none⟩) N.streams.length L.cS)∧w'.cell? ⟨w1.heap.size+1,2,none⟩=some (.int .i64 (s:Int))∧w'.cell? ⟨w1.heap.size+1,1,none⟩=some (.int .i64 (ka:Int))∧w'.cell? ⟨w1.heap.size,2+ka,none⟩=some (.int .i64 v))) (by kernel_rfl) ⟨p0,i2,i1,ya⟩ (fun hHeld=>?_)
 refine wpAnyH_take (i:=0) (oi:={dst:=some 75,op:=Op.move (Operand.tmp 0),type:=47,pos := "millraceref.go:184",after:=#[],guard:=none}) (v:=?v0) rfl (by kernel_rfl) (by kernel_rfl) (by kernel_rfl) (fun _ _ _ h=>h) (Or.inl ⟨by rfl,?hy0⟩) (by assumption) ?r0
 case hy0=>
  intro w' hSw
  (try dsimp only at hSw)
  go_simp
  try with_reducible rfl
 try simp only [Act.put,List.setIfInBounds_toArray,List.set_cons_zero,List.set_cons_succ]
 refine wpAnyH_take (i:=1) (oi:={dst:=some 76,op:=Op.nilCheck (Operand.tmp 75),type:=0,pos := "millraceref.go:184",after:=#[{on:=0,ground:=Ground.data}],guard:=none}) (v:=?v1) rfl (by kernel_rfl) (by kernel_rfl) (by kernel_rfl) (fun _ _ _ h=>h) (Or.inl ⟨by rfl,?hy1⟩) (by assumption) ?r1
 case hy1=>
  intro w' hSw
  (try dsimp only at hSw)
  go_simp
  try with_reducible rfl
 try simp only [Act.put,List.setIfInBounds_toArray,List.set_cons_zero,List.set_cons_succ]
 refine wpAnyH_take (i:=2) (oi:={dst:=some 77,op:=Op.fieldAddr 84 (Operand.tmp 76) 0,type:=0,pos := "millraceref.go:184",after:=#[{on:=1,ground:=Ground.data}],guard:=none}) (v:=?v2) rfl (by kernel_rfl) (by kernel_rfl) (by kernel_rfl) (fun _ _ _ h=>h) (Or.inl ⟨by rfl,?hy2⟩) (by assumption) ?r2
 case hy2=>
  intro w' hSw
  (try dsimp only at hSw)
  go_simp
  try with_reducible rfl
 try simp only [Act.put,List.setIfInBounds_toArray,List.set_cons_zero,List.set_cons_succ]
 refine wpAnyH_take (i:=3) (oi:={dst:=some 78,op:=Op.load 81 (Operand.tmp 77),type:=81,pos := "millraceref.go:184",after:=#[{on:=2,ground:=Ground.data}],guard:=none}) (v:=?v3) rfl (by kernel_rfl) (by kernel_rfl) (by kernel_rfl) (fun _ _ _ h=>h) (Or.inl ⟨by rfl,?hy3⟩) (by assumption) ?r3
 case hy3=>
  intro w' hSw
  (try dsimp only at hSw)
  go_simp
  try with_reducible rfl
 try simp only [Act.put,List.setIfInBounds_toArray,List.set_cons_zero,List.set_cons_succ]
 refine wpAnyH_take (i:=4) (oi:={dst:=some 79,op:=Op.fieldAddr 44 (Operand.tmp 7) 2,type:=0,pos := "millraceref.go:184",after:=#[],guard:=none}) (v:=?v4) rfl (by kernel_rfl) (by kernel_rfl) (by kernel_rfl) (fun _ _ _ h=>h) (Or.inl ⟨by rfl,?hy4⟩) (by assumption) ?r4
 case hy4=>
  intro w' hSw
  (try dsimp only at hSw)
  go_simp
  try with_reducible rfl
 try simp only [Act.put,List.setIfInBounds_toArray,List.set_cons_zero,List.set_cons_succ]
 refine wpAnyH_take (i:=5) (oi:={dst:=some 80,op:=Op.load 3 (Operand.tmp 79),type:=3,pos := "millraceref.go:184",after:=#[{on:=4,ground:=Ground.data}],guard:=none}) (v:=?v5) rfl (by kernel_rfl) (by kernel_rfl) (by kernel_rfl) (fun _ _ _ h=>h) (Or.inl ⟨by rfl,?hy5⟩) (by assumption) ?r5
 case hy5=>
  intro w' hSw
  (try dsimp only at hSw)
  go_simp
  try with_reducible rfl
 try simp only [Act.put,List.setIfInBounds_toArray,List.set_cons_zero,List.set_cons_succ]
 refine wpAnyH_take (i:=6) (oi:={dst:=some 81,op:=Op.move (Operand.tmp 0),type:=47,pos := "millraceref.go:184",after:=#[],guard:=none}) (v:=?v6) rfl (by kernel_rfl) (by kernel_rfl) (by kernel_rfl) (fun _ _ _ h=>h) (Or.inl ⟨by rfl,?hy6⟩) (by assumption) ?r6
 case hy6=>
  intro w' hSw
  (try dsimp only at hSw)
  go_simp
  try with_reducible rfl
 try simp only [Act.put,List.setIfInBounds_toArray,List.set_cons_zero,List.set_cons_succ]
 refine wpAnyH_take (i:=7) (oi:={dst:=some 82,op:=Op.nilCheck (Operand.tmp 81),type:=0,pos := "millraceref.go:184",after:=#[{on:=6,ground:=Ground.data}],guard:=none}) (v:=?v7) rfl (by kernel_rfl) (by kernel_rfl) (by kernel_rfl) (fun _ _ _ h=>h) (Or.inl ⟨by rfl,?hy7⟩) (by assumption) ?r7
 case hy7=>
  intro w' hSw
  (try dsimp only at hSw)
  go_simp
  try with_reducible rfl
 try simp only [Act.put,List.setIfInBounds_toArray,List.set_cons_zero,List.set_cons_succ]
 refine wpAnyH_take (i:=8) (oi:={dst:=some 83,op:=Op.fieldAddr 84 (Operand.tmp 82) 0,type:=0,pos := "millraceref.go:184",after:=#[{on:=7,ground:=Ground.data}],guard:=none}) (v:=?v8) rfl (by kernel_rfl) (by kernel_rfl) (by kernel_rfl) (fun _ _ _ h=>h) (Or.inl ⟨by rfl,?hy8⟩) (by assumption) ?r8
 case hy8=>
  intro w' hSw
  (try dsimp only at hSw)
  go_simp
  try with_reducible rfl
 try simp only [Act.put,List.setIfInBounds_toArray,List.set_cons_zero,List.set_cons_succ]
 refine wpAnyH_take (i:=9) (oi:={dst:=some 84,op:=Op.load 81 (Operand.tmp 83),type:=81,pos := "millraceref.go:184",after:=#[{on:=8,ground:=Ground.data}],guard:=none}) (v:=?v9) rfl (by kernel_rfl) (by kernel_rfl) (by kernel_rfl) (fun _ _ _ h=>h) (Or.inl ⟨by rfl,?hy9⟩) (by assumption) ?r9
 case hy9=>
  intro w' hSw
  (try dsimp only at hSw)
  go_simp
  try with_reducible rfl
 try simp only [Act.put,List.setIfInBounds_toArray,List.set_cons_zero,List.set_cons_succ]
 refine wpAnyH_take (i:=10) (oi:={dst:=some 85,op:=Op.fieldAddr 44 (Operand.tmp 7) 2,type:=0,pos := "millraceref.go:184",after:=#[],guard:=none}) (v:=?v10) rfl (by kernel_rfl) (by kernel_rfl) (by kernel_rfl) (fun _ _ _ h=>h) (Or.inl ⟨by rfl,?hy10⟩) (by assumption) ?r10
 case hy10=>
  intro w' hSw
  (try dsimp only at hSw)
  go_simp
  try with_reducible rfl
 try simp only [Act.put,List.setIfInBounds_toArray,List.set_cons_zero,List.set_cons_succ]
 refine wpAnyH_take (i:=11) (oi:={dst:=some 86,op:=Op.load 3 (Operand.tmp 85),type:=3,pos := "millraceref.go:184",after:=#[{on:=10,ground:=Ground.data}],guard:=none}) (v:=?v11) rfl (by kernel_rfl) (by kernel_rfl) (by kernel_rfl) (fun _ _ _ h=>h) (Or.inl ⟨by rfl,?hy11⟩) (by assumption) ?r11
 case hy11=>
  intro w' hSw
  (try dsimp only at hSw)
  go_simp
  try with_reducible rfl
 try simp only [Act.put,List.setIfInBounds_toArray,List.set_cons_zero,List.set_cons_succ]
 refine wpAnyH_take (i:=12) (oi:={dst:=some 87,op:=Op.indexAddr 81 (Operand.tmp 84) (Operand.tmp 86),type:=0,pos := "millraceref.go:184",after:=#[{on:=9,ground:=Ground.data},{on:=11,ground:=Ground.data}],guard:=none}) (v:=?v12) rfl (by kernel_rfl) (by kernel_rfl) (by kernel_rfl) (fun _ _ _ h=>h) (Or.inl ⟨by rfl,?hy12⟩) (by assumption) ?r12
 case hy12=>
  intro w' hSw
  (try dsimp only at hSw)
  go_simp
  try with_reducible rfl
 try simp only [Act.put,List.setIfInBounds_toArray,List.set_cons_zero,List.set_cons_succ]
 refine wpAnyH_take (i:=13) (oi:={dst:=some 88,op:=Op.fieldAddr 88 (Operand.tmp 87) 2,type:=0,pos := "millraceref.go:184",after:=#[{on:=12,ground:=Ground.data}],guard:=none}) (v:=?v13) rfl (by kernel_rfl) (by kernel_rfl) (by kernel_rfl) (fun _ _ _ h=>h) (Or.inl ⟨by rfl,?hy13⟩) (by assumption) ?r13
 case hy13=>
  intro w' hSw
  (try dsimp only at hSw)
  go_simp
  try with_reducible rfl
 try simp only [Act.put,List.setIfInBounds_toArray,List.set_cons_zero,List.set_cons_succ]
 refine wpAnyH_take (i:=15) (oi:={dst:=some 90,op:=Op.fieldAddr 44 (Operand.tmp 7) 1,type:=0,pos := "millraceref.go:184",after:=#[],guard:=none}) (v:=?v15) rfl (by kernel_rfl) (by kernel_rfl) (by kernel_rfl) (fun _ _ _ h=>h) (Or.inl ⟨by rfl,?hy15⟩) (by assumption) ?r15
 case hy15=>
  intro w' hSw
  (try dsimp only at hSw)
  go_simp
  try with_reducible rfl
 try simp only [Act.put,List.setIfInBounds_toArray,List.set_cons_zero,List.set_cons_succ]
 refine wpAnyH_take (i:=16) (oi:={dst:=some 91,op:=Op.load 3 (Operand.tmp 90),type:=3,pos := "millraceref.go:184",after:=#[{on:=15,ground:=Ground.data}],guard:=none}) (v:=?v16) rfl (by kernel_rfl) (by kernel_rfl) (by kernel_rfl) (fun _ _ _ h=>h) (Or.inl ⟨by rfl,?hy16⟩) (by assumption) ?r16
 case hy16=>
  intro w' hSw
  (try dsimp only at hSw)
  go_simp
  try with_reducible rfl
 try simp only [Act.put,List.setIfInBounds_toArray,List.set_cons_zero,List.set_cons_succ]
 refine wpAnyH_take (i:=17) (oi:={dst:=some 92,op:=Op.fieldAddr 92 (Operand.tmp 6) 2,type:=0,pos := "millraceref.go:184",after:=#[],guard:=none}) (v:=?v17) rfl (by kernel_rfl) (by kernel_rfl) (by kernel_rfl) (fun _ _ _ h=>h) (Or.inl ⟨by rfl,?hy17⟩) (by assumption) ?r17
 case hy17=>
  intro w' hSw
  (try dsimp only at hSw)
  go_simp
  try with_reducible rfl
 try simp only [Act.put,List.setIfInBounds_toArray,List.set_cons_zero,List.set_cons_succ]
 refine wpAnyH_take (i:=18) (oi:={dst:=some 93,op:=Op.indexAddr 90 (Operand.tmp 92) (Operand.tmp 91),type:=0,pos := "millraceref.go:184",after:=#[{on:=17,ground:=Ground.data},{on:=16,ground:=Ground.data}],guard:=none}) (v:=?v18) rfl (by kernel_rfl) (by kernel_rfl) (by kernel_rfl) (fun _ _ _ h=>h) (Or.inl ⟨by rfl,?hy18⟩) (by assumption) ?r18
 case hy18=>
  intro w' hSw
  (try dsimp only at hSw)
  go_simp
  try with_reducible rfl
 try simp only [Act.put,List.setIfInBounds_toArray,List.set_cons_zero,List.set_cons_succ]
 refine wpAnyH_take (i:=19) (oi:={dst:=some 94,op:=Op.load 3 (Operand.tmp 93),type:=3,pos := "millraceref.go:184",after:=#[{on:=18,ground:=Ground.data}],guard:=none}) (v:=?v19) rfl (by kernel_rfl) (by kernel_rfl) (by kernel_rfl) (fun _ _ _ h=>h) (Or.inl ⟨by rfl,?hy19⟩) (by assumption) ?r19
 case hy19=>
  intro w' hSw
  (try dsimp only at hSw)
  go_simp
  try with_reducible rfl
 try simp only [Act.put,List.setIfInBounds_toArray,List.set_cons_zero,List.set_cons_succ]
 refine wpAnyH_ready (rs:=[14,20]) (by kernel_rfl) (by simp) ?_
 refine AllReadyH.cons (o:={dst:=some 89,op:=Op.load 22 (Operand.tmp 88),type:=22,pos := "millraceref.go:184",after:=#[{on:=13,ground:=Ground.data}],guard:=none}) rfl (fun K hK=>?_) (AllReadyH.cons (o:={dst:=some 95,op:=Op.buildSlice 22 1 #[(0,Operand.tmp 94)],type:=22,pos := "millraceref.go:184",after:=#[{on:=19,ground:=Ground.data}],guard:=none}) rfl (fun K hK=>?_) AllReadyH.nil)
 ·go_simp
  refine hK.out _ _ hHeld (fun hHeld=>?_)
  clear hK K
  try simp only [Act.put,List.setIfInBounds_toArray,List.set_cons_zero,List.set_cons_succ]
  refine wpAnyH_ready (rs:=[20]) (by kernel_rfl) (by simp) ?_
  refine AllReadyH.cons (o:={dst:=some 95,op:=Op.buildSlice 22 1 #[(0,Operand.tmp 94)],type:=22,pos := "millraceref.go:184",after:=#[{on:=19,ground:=Ground.data}],guard:=none}) rfl (fun K hK=>?_) AllReadyH.nil
  go_simp
  refine hK.out _ _ HSA.out (fun hHeld=>?_)
  clear hK K
  try simp only [Act.put,List.setIfInBounds_toArray,List.set_cons_zero,List.set_cons_succ]
  refine wpAnyH_ready (rs:=[21]) (by kernel_rfl) (by simp) ?_
  refine AllReadyH.cons (o:={dst:=some 96,op:=Op.call {callee:=Callee.builtin Builtin.append,args:=#[Operand.tmp 89,Operand.tmp 95],argTypes:=#[22,22]},type:=22,pos := "millraceref.go:184",after:=#[{on:=14,ground:=Ground.data},{on:=20,ground:=Ground.data}],guard:=none}) rfl (fun K hK=>?_) AllReadyH.nil
  refine step_append_lies _ rfl (.tmp 89) (.tmp 95) 22 rfl 0 3 iI (.int .i64 0) 1 8 Tryz.underlying22 hiI hI0 hI1 hI2 rfl (by decide) (.slice av (R.s s).words.length cv) (R.s s).words.length (intRow (R.s s).words) (by simp [Act.eval]) HOw.out ⟨w4.heap.size,0,none⟩ 1 1 [.int .i64 v] (by simp [Act.eval]) rfl HNn.out HOn.out (by decide) h63 hbytes HSz.out.1 (w4.heap.size+1) HSz.out.2 ?_;intro g gc w5 ho hgr hor hglt;obtain ⟨⟨yp,yi,yc,yf,y1,y2⟩,yr⟩:=HFin.out w5 g gc ho hgr hor;have YR:=hide yr;clear ho hgr hor hglt yr
  refine hK.out _ _ ⟨yp,yi,y1,y2⟩ (fun hHeld=>?_)
  clear hK K
  try simp only [Act.put,List.setIfInBounds_toArray,List.set_cons_zero,List.set_cons_succ]
  refine wpAnyH_ready (rs:=[22]) (by kernel_rfl) (by simp) ?_
  refine AllReadyH.cons (o:={dst:=some 97,op:=Op.indexAddr 81 (Operand.tmp 78) (Operand.tmp 80),type:=0,pos := "millraceref.go:184",after:=#[{on:=3,ground:=Ground.data},{on:=5,ground:=Ground.data},{on:=0,ground:=Ground.phase},{on:=1,ground:=Ground.phase},{on:=2,ground:=Ground.phase},{on:=3,ground:=Ground.phase},{on:=4,ground:=Ground.phase},{on:=5,ground:=Ground.phase},{on:=6,ground:=Ground.phase},{on:=7,ground:=Ground.phase},{on:=8,ground:=Ground.phase},{on:=9,ground:=Ground.phase},{on:=10,ground:=Ground.phase},{on:=11,ground:=Ground.phase},{on:=12,ground:=Ground.phase},{on:=13,ground:=Ground.phase},{on:=14,ground:=Ground.phase},{on:=15,ground:=Ground.phase},{on:=16,ground:=Ground.phase},{on:=17,ground:=Ground.phase},{on:=18,ground:=Ground.phase},{on:=19,ground:=Ground.phase},{on:=20,ground:=Ground.phase},{on:=21,ground:=Ground.phase}],guard:=none}) rfl (fun K hK=>?_) AllReadyH.nil
  go_simp
  refine hK.out _ _ hHeld (fun hHeld=>?_)
  clear hK K
  try simp only [Act.put,List.setIfInBounds_toArray,List.set_cons_zero,List.set_cons_succ]
  refine wpAnyH_ready (rs:=[23]) (by kernel_rfl) (by simp) ?_
  refine AllReadyH.cons (o:={dst:=some 98,op:=Op.fieldAddr 88 (Operand.tmp 97) 2,type:=0,pos := "millraceref.go:184",after:=#[{on:=22,ground:=Ground.data},{on:=0,ground:=Ground.phase},{on:=1,ground:=Ground.phase},{on:=2,ground:=Ground.phase},{on:=3,ground:=Ground.phase},{on:=4,ground:=Ground.phase},{on:=5,ground:=Ground.phase},{on:=6,ground:=Ground.phase},{on:=7,ground:=Ground.phase},{on:=8,ground:=Ground.phase},{on:=9,ground:=Ground.phase},{on:=10,ground:=Ground.phase},{on:=11,ground:=Ground.phase},{on:=12,ground:=Ground.phase},{on:=13,ground:=Ground.phase},{on:=14,ground:=Ground.phase},{on:=15,ground:=Ground.phase},{on:=16,ground:=Ground.phase},{on:=17,ground:=Ground.phase},{on:=18,ground:=Ground.phase},{on:=19,ground:=Ground.phase},{on:=20,ground:=Ground.phase},{on:=21,ground:=Ground.phase}],guard:=none}) rfl (fun K hK=>?_) AllReadyH.nil
  go_simp
  refine hK.out _ _ hHeld (fun hHeld=>?_)
  clear hK K
  try simp only [Act.put,List.setIfInBounds_toArray,List.set_cons_zero,List.set_cons_succ]
  refine wpAnyH_ready (rs:=[24]) (by kernel_rfl) (by simp) ?_
  refine AllReadyH.cons (o:={dst:=none,op:=Op.store 22 (Operand.tmp 98) (Operand.tmp 96),type:=0,pos := "millraceref.go:184",after:=#[{on:=23,ground:=Ground.data},{on:=21,ground:=Ground.data},{on:=21,ground:=Ground.chain},{on:=0,ground:=Ground.phase},{on:=1,ground:=Ground.phase},{on:=2,ground:=Ground.phase},{on:=3,ground:=Ground.phase},{on:=4,ground:=Ground.phase},{on:=5,ground:=Ground.phase},{on:=6,ground:=Ground.phase},{on:=7,ground:=Ground.phase},{on:=8,ground:=Ground.phase},{on:=9,ground:=Ground.phase},{on:=10,ground:=Ground.phase},{on:=11,ground:=Ground.phase},{on:=12,ground:=Ground.phase},{on:=13,ground:=Ground.phase},{on:=14,ground:=Ground.phase},{on:=15,ground:=Ground.phase},{on:=16,ground:=Ground.phase},{on:=17,ground:=Ground.phase},{on:=18,ground:=Ground.phase},{on:=19,ground:=Ground.phase},{on:=20,ground:=Ground.phase},{on:=21,ground:=Ground.phase}],guard:=none}) rfl (fun K hK=>?_) AllReadyH.nil
  go_simp
  refine hK.out _ _ ⟨(World.cell?_setCell_other _ _ _ _ (far_block q1)).trans yp,(World.cell?_setCell_other _ _ _ _ (far_block q2)).trans yi,(World.cell?_setCell_other _ _ _ _ (far_block q2)).trans y1,(World.cell?_setCell_other _ _ _ _ (far_block q3)).trans y2⟩ (fun hHeld=>?_)
  clear hK K
  try simp only [Act.put,List.setIfInBounds_toArray,List.set_cons_zero,List.set_cons_succ]
  refine wpAnyH_done (by kernel_rfl) ?_ _
  obtain ⟨hx9,hf9,hg9,ho9,hw9⟩:=YR.out _ rfl
  generalize w5.setCell ⟨L.gS,s*5+2,none⟩ (.slice (some ⟨g,0,none⟩) ((R.s s).words.length+1) gc)=w9 at *
  have HF9:=hide hf9
  have HG9:=hide hg9
  have HO9:=hide ho9
  have HW9:=hide hw9
  clear hHeld yp yi yc yf y1 y2 YR hf9 hg9 ho9 hw9 p0 i1 i2 c2 c2a ya n0 n1 n2 n3 HFin HOw HNn HOn HSz HSA
  obtain ⟨y1, -⟩:=blk_cell (l:=[_,_,_,_,_,_,_]) hx9 1 _ rfl
  obtain ⟨y6, -⟩:=blk_cell (l:=[_,_,_,_,_,_,_]) hx9 6 _ rfl
  have u1:=row_frozen hx9 1
  have u6:=row_frozen hx9 6
  have HX6:=hide hx9
  clear hx9
  go_upto_region 31 with fail
  go_upto_region 33 with fail
  have hbx7:((w9.setCell ⟨w1.heap.size,1,none⟩ (.int .i64 (((R.w k).place:Int)+1))).setCell ⟨w1.heap.size,6,none⟩ (.int .i64 (wrap64 ((R.w k).steps+1)))).heap[w1.heap.size]? = some (.cells #[.slice (some ⟨cb,co,none⟩) (codeOf N k).length cc,.int .i64 (((R.w k).place:Int)+1),.int .i64 ((R.w k).r 0),.int .i64 ((R.w k).r 1),.int .i64 ((R.w k).r 2),.int .i64 ((R.w k).r 3),.int .i64 (wrap64 ((R.w k).steps+1))] 92 (0,0)):=by
   have h1:=blk_set (w:=w9) HX6.out 1 (.int .i64 (((R.w k).place:Int)+1))
   have h2:=blk_set h1 6 (.int .i64 (wrap64 ((R.w k).steps+1)))
   exact h2
  have hfx:Fr (fun b=>b=w1.heap.size) w9 ((w9.setCell ⟨w1.heap.size,1,none⟩ (.int .i64 (((R.w k).place:Int)+1))).setCell ⟨w1.heap.size,6,none⟩ (.int .i64 (wrap64 ((R.w k).steps+1)))):=Fr.setCell (S:=fun b=>b=w1.heap.size) (Fr.setCell (S:=fun b=>b=w1.heap.size) (Fr.refl _ w9) (p:=⟨w1.heap.size,1,none⟩) (Or.inr rfl) _) (p:=⟨w1.heap.size,6,none⟩) (Or.inr rfl) _
  have HF7:Fr (fun b=>b=L.gS∨(L.VW s).ownBlock=some b) w ((w9.setCell ⟨w1.heap.size,1,none⟩ (.int .i64 (((R.w k).place:Int)+1))).setCell ⟨w1.heap.size,6,none⟩ (.int .i64 (wrap64 ((R.w k).steps+1)))):=HF9.out.trans (hfx.mono fun b _ e=>e) (fun b hb e=>absurd e (by have:=HSx.out;omega))
  have HG7:=(hfx.block _ (lt_of_blk HG9.out) q3.symm).trans HG9.out
  have HO7:((w9.setCell ⟨w1.heap.size,1,none⟩ (.int .i64 (((R.w k).place:Int)+1))).setCell ⟨w1.heap.size,6,none⟩ (.int .i64 (wrap64 ((R.w k).steps+1)))).ownsRow 0 3 1 (.slice (some ⟨g,0,none⟩) ((R.s s).words.length+1) gc) ((R.s s).words.length+1) (intRow (R.s s).words++[.int .i64 v]):=own_of_blockB HO9.out fun b hb=>hfx.block b (HO9.out.lt b hb).2 (fun e=>own_ne_type HO9.out HX6.out (by decide) (e ▸ hb))
  obtain ⟨hend,L',R',hR7,e1,e2,e3,e4⟩:=HPut.out _ g gc HF7 HG7 HO7 HW9.out
  have HEnd:=hide hend
  obtain ⟨lp,lgS,lgW,lcS,lcW,lVW,lVC⟩:=L'
  obtain ⟨rW,rS⟩:=R'
  dsimp only at e1 e2 e3 e4
  subst e1 e2 e3 e4
  generalize (w9.setCell ⟨w1.heap.size,1,none⟩ (.int .i64 (((R.w k).place:Int)+1))).setCell ⟨w1.heap.size,6,none⟩ (.int .i64 (wrap64 ((R.w k).steps+1)))=w7 at *
  generalize w1.heap.size=xb at *
  clear hfx HX6 y1 y6 u1 u6 HF7 HG7 HO7 hend q1 q2 q3
  obtain ⟨p1, -⟩:=blk_cell (l:=[_,_]) hR7.blk 1 _ rfl
  obtain ⟨y0, -⟩:=blk_cell (l:=[_,_,_,_,_,_,_]) hbx7 0 _ rfl
  obtain ⟨y1, -⟩:=blk_cell (l:=[_,_,_,_,_,_,_]) hbx7 1 _ rfl
  obtain ⟨y2, -⟩:=blk_cell (l:=[_,_,_,_,_,_,_]) hbx7 2 _ rfl
  obtain ⟨y3, -⟩:=blk_cell (l:=[_,_,_,_,_,_,_]) hbx7 3 _ rfl
  obtain ⟨y4, -⟩:=blk_cell (l:=[_,_,_,_,_,_,_]) hbx7 4 _ rfl
  obtain ⟨y5, -⟩:=blk_cell (l:=[_,_,_,_,_,_,_]) hbx7 5 _ rfl
  obtain ⟨y6, -⟩:=blk_cell (l:=[_,_,_,_,_,_,_]) hbx7 6 _ rfl
  have x0:w7.cell? ⟨L.gW,k*7,none⟩=some (L.VC k):=hR7.wc hk 0 _ (by decide) rfl
  have x1:w7.cell? ⟨L.gW,k*7+1,none⟩=some (.int .i64 ((R.w k).place:Int)):=hR7.wc hk 1 _ (by decide) rfl
  have x2:w7.cell? ⟨L.gW,k*7+2,none⟩=some (.int .i64 ((R.w k).r 0)):=hR7.wc hk 2 _ (by decide) rfl
  have x3:w7.cell? ⟨L.gW,k*7+3,none⟩=some (.int .i64 ((R.w k).r 1)):=hR7.wc hk 3 _ (by decide) rfl
  have x4:w7.cell? ⟨L.gW,k*7+4,none⟩=some (.int .i64 ((R.w k).r 2)):=hR7.wc hk 4 _ (by decide) rfl
  have x5:w7.cell? ⟨L.gW,k*7+5,none⟩=some (.int .i64 ((R.w k).r 3)):=hR7.wc hk 5 _ (by decide) rfl
  have x6:w7.cell? ⟨L.gW,k*7+6,none⟩=some (.int .i64 ((R.w k).steps)):=hR7.wc hk 6 _ (by decide) rfl
  obtain ⟨cs,hbW, -⟩:=hR7.rowW
  have f0:w7.frozen? ⟨L.gW,k*7,none⟩=false:=row_frozen hbW _
  have f1:w7.frozen? ⟨L.gW,k*7+1,none⟩=false:=row_frozen hbW _
  have f2:w7.frozen? ⟨L.gW,k*7+2,none⟩=false:=row_frozen hbW _
  have f3:w7.frozen? ⟨L.gW,k*7+3,none⟩=false:=row_frozen hbW _
  have f4:w7.frozen? ⟨L.gW,k*7+4,none⟩=false:=row_frozen hbW _
  have f5:w7.frozen? ⟨L.gW,k*7+5,none⟩=false:=row_frozen hbW _
  have f6:w7.frozen? ⟨L.gW,k*7+6,none⟩=false:=row_frozen hbW _
  clear hbW hR7 hbx7
  refine wp_region_still_tail 7 Tryz.mixed (by kernel_rfl) ?_
  simp only [List.take_succ_cons,List.take_zero,List.drop_succ_cons,List.drop_zero]
  iterate 7 still_step
  refine wpStill_nil ?_
  show wpList _ _ _ _ _ w7.drew
  go_wp2
  go_ret
  refine ⟨rfl,?_⟩
  have:=HEnd.out
  rw [HV.out] at this
  exact this
 ·go_simp
  refine hK.out _ _ HSA.out (fun hHeld=>?_)
  clear hK K
  try simp only [Act.put,List.setIfInBounds_toArray,List.set_cons_zero,List.set_cons_succ]
  refine wpAnyH_ready (rs:=[14]) (by kernel_rfl) (by simp) ?_
  refine AllReadyH.cons (o:={dst:=some 89,op:=Op.load 22 (Operand.tmp 88),type:=22,pos := "millraceref.go:184",after:=#[{on:=13,ground:=Ground.data}],guard:=none}) rfl (fun K hK=>?_) AllReadyH.nil
  go_simp
  refine hK.out _ _ hHeld (fun hHeld=>?_)
  clear hK K
  try simp only [Act.put,List.setIfInBounds_toArray,List.set_cons_zero,List.set_cons_succ]
  refine wpAnyH_ready (rs:=[21]) (by kernel_rfl) (by simp) ?_
  refine AllReadyH.cons (o:={dst:=some 96,op:=Op.call {callee:=Callee.builtin Builtin.append,args:=#[Operand.tmp 89,Operand.tmp 95],argTypes:=#[22,22]},type:=22,pos := "millraceref.go:184",after:=#[{on:=14,ground:=Ground.data},{on:=20,ground:=Ground.data}],guard:=none}) rfl (fun K hK=>?_) AllReadyH.nil
  refine step_append_lies _ rfl (.tmp 89) (.tmp 95) 22 rfl 0 3 iI (.int .i64 0) 1 8 Tryz.underlying22 hiI hI0 hI1 hI2 rfl (by decide) (.slice av (R.s s).words.length cv) (R.s s).words.length (intRow (R.s s).words) (by simp [Act.eval]) HOw.out ⟨w4.heap.size,0,none⟩ 1 1 [.int .i64 v] (by simp [Act.eval]) rfl HNn.out HOn.out (by decide) h63 hbytes HSz.out.1 (w4.heap.size+1) HSz.out.2 ?_;intro g gc w5 ho hgr hor hglt;obtain ⟨⟨yp,yi,yc,yf,y1,y2⟩,yr⟩:=HFin.out w5 g gc ho hgr hor;have YR:=hide yr;clear ho hgr hor hglt yr
  refine hK.out _ _ ⟨yp,yi,y1,y2⟩ (fun hHeld=>?_)
  clear hK K
  try simp only [Act.put,List.setIfInBounds_toArray,List.set_cons_zero,List.set_cons_succ]
  refine wpAnyH_ready (rs:=[22]) (by kernel_rfl) (by simp) ?_
  refine AllReadyH.cons (o:={dst:=some 97,op:=Op.indexAddr 81 (Operand.tmp 78) (Operand.tmp 80),type:=0,pos := "millraceref.go:184",after:=#[{on:=3,ground:=Ground.data},{on:=5,ground:=Ground.data},{on:=0,ground:=Ground.phase},{on:=1,ground:=Ground.phase},{on:=2,ground:=Ground.phase},{on:=3,ground:=Ground.phase},{on:=4,ground:=Ground.phase},{on:=5,ground:=Ground.phase},{on:=6,ground:=Ground.phase},{on:=7,ground:=Ground.phase},{on:=8,ground:=Ground.phase},{on:=9,ground:=Ground.phase},{on:=10,ground:=Ground.phase},{on:=11,ground:=Ground.phase},{on:=12,ground:=Ground.phase},{on:=13,ground:=Ground.phase},{on:=14,ground:=Ground.phase},{on:=15,ground:=Ground.phase},{on:=16,ground:=Ground.phase},{on:=17,ground:=Ground.phase},{on:=18,ground:=Ground.phase},{on:=19,ground:=Ground.phase},{on:=20,ground:=Ground.phase},{on:=21,ground:=Ground.phase}],guard:=none}) rfl (fun K hK=>?_) AllReadyH.nil
  go_simp
  refine hK.out _ _ hHeld (fun hHeld=>?_)
  clear hK K
  try simp only [Act.put,List.setIfInBounds_toArray,List.set_cons_zero,List.set_cons_succ]
  refine wpAnyH_ready (rs:=[23]) (by kernel_rfl) (by simp) ?_
  refine AllReadyH.cons (o:={dst:=some 98,op:=Op.fieldAddr 88 (Operand.tmp 97) 2,type:=0,pos := "millraceref.go:184",after:=#[{on:=22,ground:=Ground.data},{on:=0,ground:=Ground.phase},{on:=1,ground:=Ground.phase},{on:=2,ground:=Ground.phase},{on:=3,ground:=Ground.phase},{on:=4,ground:=Ground.phase},{on:=5,ground:=Ground.phase},{on:=6,ground:=Ground.phase},{on:=7,ground:=Ground.phase},{on:=8,ground:=Ground.phase},{on:=9,ground:=Ground.phase},{on:=10,ground:=Ground.phase},{on:=11,ground:=Ground.phase},{on:=12,ground:=Ground.phase},{on:=13,ground:=Ground.phase},{on:=14,ground:=Ground.phase},{on:=15,ground:=Ground.phase},{on:=16,ground:=Ground.phase},{on:=17,ground:=Ground.phase},{on:=18,ground:=Ground.phase},{on:=19,ground:=Ground.phase},{on:=20,ground:=Ground.phase},{on:=21,ground:=Ground.phase}],guard:=none}) rfl (fun K hK=>?_) AllReadyH.nil
  go_simp
  refine hK.out _ _ hHeld (fun hHeld=>?_)
  clear hK K
  try simp only [Act.put,List.setIfInBounds_toArray,List.set_cons_zero,List.set_cons_succ]
  refine wpAnyH_ready (rs:=[24]) (by kernel_rfl) (by simp) ?_
  refine AllReadyH.cons (o:={dst:=none,op:=Op.store 22 (Operand.tmp 98) (Operand.tmp 96),type:=0,pos := "millraceref.go:184",after:=#[{on:=23,ground:=Ground.data},{on:=21,ground:=Ground.data},{on:=21,ground:=Ground.chain},{on:=0,ground:=Ground.phase},{on:=1,ground:=Ground.phase},{on:=2,ground:=Ground.phase},{on:=3,ground:=Ground.phase},{on:=4,ground:=Ground.phase},{on:=5,ground:=Ground.phase},{on:=6,ground:=Ground.phase},{on:=7,ground:=Ground.phase},{on:=8,ground:=Ground.phase},{on:=9,ground:=Ground.phase},{on:=10,ground:=Ground.phase},{on:=11,ground:=Ground.phase},{on:=12,ground:=Ground.phase},{on:=13,ground:=Ground.phase},{on:=14,ground:=Ground.phase},{on:=15,ground:=Ground.phase},{on:=16,ground:=Ground.phase},{on:=17,ground:=Ground.phase},{on:=18,ground:=Ground.phase},{on:=19,ground:=Ground.phase},{on:=20,ground:=Ground.phase},{on:=21,ground:=Ground.phase}],guard:=none}) rfl (fun K hK=>?_) AllReadyH.nil
  go_simp
  refine hK.out _ _ ⟨(World.cell?_setCell_other _ _ _ _ (far_block q1)).trans yp,(World.cell?_setCell_other _ _ _ _ (far_block q2)).trans yi,(World.cell?_setCell_other _ _ _ _ (far_block q2)).trans y1,(World.cell?_setCell_other _ _ _ _ (far_block q3)).trans y2⟩ (fun hHeld=>?_)
  clear hK K
  try simp only [Act.put,List.setIfInBounds_toArray,List.set_cons_zero,List.set_cons_succ]
  refine wpAnyH_done (by kernel_rfl) ?_ _
  obtain ⟨hx9,hf9,hg9,ho9,hw9⟩:=YR.out _ rfl
  generalize w5.setCell ⟨L.gS,s*5+2,none⟩ (.slice (some ⟨g,0,none⟩) ((R.s s).words.length+1) gc)=w9 at *
  have HF9:=hide hf9
  have HG9:=hide hg9
  have HO9:=hide ho9
  have HW9:=hide hw9
  clear hHeld yp yi yc yf y1 y2 YR hf9 hg9 ho9 hw9 p0 i1 i2 c2 c2a ya n0 n1 n2 n3 HFin HOw HNn HOn HSz HSA
  obtain ⟨y1, -⟩:=blk_cell (l:=[_,_,_,_,_,_,_]) hx9 1 _ rfl
  obtain ⟨y6, -⟩:=blk_cell (l:=[_,_,_,_,_,_,_]) hx9 6 _ rfl
  have u1:=row_frozen hx9 1
  have u6:=row_frozen hx9 6
  have HX6:=hide hx9
  clear hx9
  go_upto_region 31 with fail
  go_upto_region 33 with fail
  have hbx7:((w9.setCell ⟨w1.heap.size,1,none⟩ (.int .i64 (((R.w k).place:Int)+1))).setCell ⟨w1.heap.size,6,none⟩ (.int .i64 (wrap64 ((R.w k).steps+1)))).heap[w1.heap.size]? = some (.cells #[.slice (some ⟨cb,co,none⟩) (codeOf N k).length cc,.int .i64 (((R.w k).place:Int)+1),.int .i64 ((R.w k).r 0),.int .i64 ((R.w k).r 1),.int .i64 ((R.w k).r 2),.int .i64 ((R.w k).r 3),.int .i64 (wrap64 ((R.w k).steps+1))] 92 (0,0)):=by
   have h1:=blk_set (w:=w9) HX6.out 1 (.int .i64 (((R.w k).place:Int)+1))
   have h2:=blk_set h1 6 (.int .i64 (wrap64 ((R.w k).steps+1)))
   exact h2
  have hfx:Fr (fun b=>b=w1.heap.size) w9 ((w9.setCell ⟨w1.heap.size,1,none⟩ (.int .i64 (((R.w k).place:Int)+1))).setCell ⟨w1.heap.size,6,none⟩ (.int .i64 (wrap64 ((R.w k).steps+1)))):=Fr.setCell (S:=fun b=>b=w1.heap.size) (Fr.setCell (S:=fun b=>b=w1.heap.size) (Fr.refl _ w9) (p:=⟨w1.heap.size,1,none⟩) (Or.inr rfl) _) (p:=⟨w1.heap.size,6,none⟩) (Or.inr rfl) _
  have HF7:Fr (fun b=>b=L.gS∨(L.VW s).ownBlock=some b) w ((w9.setCell ⟨w1.heap.size,1,none⟩ (.int .i64 (((R.w k).place:Int)+1))).setCell ⟨w1.heap.size,6,none⟩ (.int .i64 (wrap64 ((R.w k).steps+1)))):=HF9.out.trans (hfx.mono fun b _ e=>e) (fun b hb e=>absurd e (by have:=HSx.out;omega))
  have HG7:=(hfx.block _ (lt_of_blk HG9.out) q3.symm).trans HG9.out
  have HO7:((w9.setCell ⟨w1.heap.size,1,none⟩ (.int .i64 (((R.w k).place:Int)+1))).setCell ⟨w1.heap.size,6,none⟩ (.int .i64 (wrap64 ((R.w k).steps+1)))).ownsRow 0 3 1 (.slice (some ⟨g,0,none⟩) ((R.s s).words.length+1) gc) ((R.s s).words.length+1) (intRow (R.s s).words++[.int .i64 v]):=own_of_blockB HO9.out fun b hb=>hfx.block b (HO9.out.lt b hb).2 (fun e=>own_ne_type HO9.out HX6.out (by decide) (e ▸ hb))
  obtain ⟨hend,L',R',hR7,e1,e2,e3,e4⟩:=HPut.out _ g gc HF7 HG7 HO7 HW9.out
  have HEnd:=hide hend
  obtain ⟨lp,lgS,lgW,lcS,lcW,lVW,lVC⟩:=L'
  obtain ⟨rW,rS⟩:=R'
  dsimp only at e1 e2 e3 e4
  subst e1 e2 e3 e4
  generalize (w9.setCell ⟨w1.heap.size,1,none⟩ (.int .i64 (((R.w k).place:Int)+1))).setCell ⟨w1.heap.size,6,none⟩ (.int .i64 (wrap64 ((R.w k).steps+1)))=w7 at *
  generalize w1.heap.size=xb at *
  clear hfx HX6 y1 y6 u1 u6 HF7 HG7 HO7 hend q1 q2 q3
  obtain ⟨p1, -⟩:=blk_cell (l:=[_,_]) hR7.blk 1 _ rfl
  obtain ⟨y0, -⟩:=blk_cell (l:=[_,_,_,_,_,_,_]) hbx7 0 _ rfl
  obtain ⟨y1, -⟩:=blk_cell (l:=[_,_,_,_,_,_,_]) hbx7 1 _ rfl
  obtain ⟨y2, -⟩:=blk_cell (l:=[_,_,_,_,_,_,_]) hbx7 2 _ rfl
  obtain ⟨y3, -⟩:=blk_cell (l:=[_,_,_,_,_,_,_]) hbx7 3 _ rfl
  obtain ⟨y4, -⟩:=blk_cell (l:=[_,_,_,_,_,_,_]) hbx7 4 _ rfl
  obtain ⟨y5, -⟩:=blk_cell (l:=[_,_,_,_,_,_,_]) hbx7 5 _ rfl
  obtain ⟨y6, -⟩:=blk_cell (l:=[_,_,_,_,_,_,_]) hbx7 6 _ rfl
  have x0:w7.cell? ⟨L.gW,k*7,none⟩=some (L.VC k):=hR7.wc hk 0 _ (by decide) rfl
  have x1:w7.cell? ⟨L.gW,k*7+1,none⟩=some (.int .i64 ((R.w k).place:Int)):=hR7.wc hk 1 _ (by decide) rfl
  have x2:w7.cell? ⟨L.gW,k*7+2,none⟩=some (.int .i64 ((R.w k).r 0)):=hR7.wc hk 2 _ (by decide) rfl
  have x3:w7.cell? ⟨L.gW,k*7+3,none⟩=some (.int .i64 ((R.w k).r 1)):=hR7.wc hk 3 _ (by decide) rfl
  have x4:w7.cell? ⟨L.gW,k*7+4,none⟩=some (.int .i64 ((R.w k).r 2)):=hR7.wc hk 4 _ (by decide) rfl
  have x5:w7.cell? ⟨L.gW,k*7+5,none⟩=some (.int .i64 ((R.w k).r 3)):=hR7.wc hk 5 _ (by decide) rfl
  have x6:w7.cell? ⟨L.gW,k*7+6,none⟩=some (.int .i64 ((R.w k).steps)):=hR7.wc hk 6 _ (by decide) rfl
  obtain ⟨cs,hbW, -⟩:=hR7.rowW
  have f0:w7.frozen? ⟨L.gW,k*7,none⟩=false:=row_frozen hbW _
  have f1:w7.frozen? ⟨L.gW,k*7+1,none⟩=false:=row_frozen hbW _
  have f2:w7.frozen? ⟨L.gW,k*7+2,none⟩=false:=row_frozen hbW _
  have f3:w7.frozen? ⟨L.gW,k*7+3,none⟩=false:=row_frozen hbW _
  have f4:w7.frozen? ⟨L.gW,k*7+4,none⟩=false:=row_frozen hbW _
  have f5:w7.frozen? ⟨L.gW,k*7+5,none⟩=false:=row_frozen hbW _
  have f6:w7.frozen? ⟨L.gW,k*7+6,none⟩=false:=row_frozen hbW _
  clear hbW hR7 hbx7
  refine wp_region_still_tail 7 Tryz.mixed (by kernel_rfl) ?_
  simp only [List.take_succ_cons,List.take_zero,List.drop_succ_cons,List.drop_zero]
  iterate 7 still_step
  refine wpStill_nil ?_
  show wpList _ _ _ _ _ w7.drew
  go_wp2
  go_ret
  refine ⟨rfl,?_⟩
  have:=HEnd.out
  rw [HV.out] at this
  exact this
theorem refStep_calls {L:RLay} {w:World} {N:Net} {R:Rc} (h:RefAt L w N R) (k:Nat) (hk:k<N.workers.length) (hco:RCodes L w N) (hsm:SmallR N R) :
  Calls Tryz.prog 61 #[.pointer (some ⟨L.p,0,none⟩),.int .i64 k] w fun e w'=>e=.returned (.int .i64 (stateOf N R k))∧RStep L w N (stepR N R k) w':=by
 by_cases hst:stateOf N R k=1
 ·rw [stepR,if_pos hst,hst]
  cases hi:insAt N k (R.w k) with
  | none=>simp [stateOf,hi] at hst
  | some i=>
   obtain ⟨op,ia,ib,ic⟩:=i
   have hi':(codeOf N k)[(R.w k).place]? = some ⟨op,ia,ib,ic⟩:=hi
   have hval:=valid_ins h.ok hk (List.mem_of_getElem? hi')
   have hop:=valid_op hval
   dsimp only at hop
   have hia:op≠9→ia=0∨ia=1∨ia=2∨ia=3:=fun ho=>by
    have:=valid_reg hval ho
    dsimp only at this
    omega
   rcases (show op=1∨op=2∨op=3∨op=4∨op=5∨op=6∨op=7∨op=8∨op=9 by omega) with rfl | rfl | rfl | rfl | rfl | rfl | rfl | rfl | rfl
   ·by_cases hre:(R.s ib.toNat).read=(R.s ib.toNat).words.length
    ·exact refStep_end h k hk hst hco ia ib ic hi' hre
    ·exact refStep_read h k hk hst hco ia ib ic hi' (by
      have hb:=valid_stream hval (Or.inl rfl)
      dsimp only at hb
      have:=h.le ib.toNat (by omega)
      omega)
   ·exact refStep_write h k hk hst hco ia ib ic hi' hsm
   ·rcases hia (by decide) with rfl | rfl | rfl | rfl
    ·exact refStep_set0 h k hk hst hco ib ic hi'
    ·exact refStep_set1 h k hk hst hco ib ic hi'
    ·exact refStep_set2 h k hk hst hco ib ic hi'
    ·exact refStep_set3 h k hk hst hco ib ic hi'
   ·exact refStep_alu4 h k hk hst hco ia ib ic hi'
   ·exact refStep_alu5 h k hk hst hco ia ib ic hi'
   ·exact refStep_alu6 h k hk hst hco ia ib ic hi'
   ·exact refStep_alu7 h k hk hst hco ia ib ic hi'
   ·rcases hia (by decide) with rfl | rfl | rfl | rfl
    ·by_cases hx:(R.w k).r 0=0
     ·exact refStep_no0 h k hk hst hco ib ic hx hi'
     ·exact refStep_yes0 h k hk hst hco ib ic hx hi'
    ·by_cases hx:(R.w k).r 1=0
     ·exact refStep_no1 h k hk hst hco ib ic hx hi'
     ·exact refStep_yes1 h k hk hst hco ib ic hx hi'
    ·by_cases hx:(R.w k).r 2=0
     ·exact refStep_no2 h k hk hst hco ib ic hx hi'
     ·exact refStep_yes2 h k hk hst hco ib ic hx hi'
    ·by_cases hx:(R.w k).r 3=0
     ·exact refStep_no3 h k hk hst hco ib ic hx hi'
     ·exact refStep_yes3 h k hk hst hco ib ic hx hi'
   ·exact refStep_goto h k hk hst hco ia ib ic hi'
 ·rw [stepR,if_neg hst]
  exact (refStep_no h k hk hst).mono fun e w' ⟨h1,h2⟩=>⟨h1,RStep.of_below h h2⟩
theorem RHas.codes {wz:World} {A:Nat→Prop} {L:RLay} {w:World} {N:Net} (h3:∀ b,RFoot L N b→¬ A b) (h4:∀ k,k<N.workers.length→CodeAt wz (L.VC k) (codeOf N k)) (hz:Below wz.heap.size wz w) (hA:∀ b,b<wz.heap.size→A b):RCodes L w N:=fun wx hf j hj=>
 (h4 j hj).below (hz.trans ⟨hf.os,hf.tape,hf.output,hf.size,fun b hb=>hf.block b (by have:=hz.size;omega) (fun e=>h3 b e (hA b hb))⟩)
theorem RHas.went {wz:World} {A:Nat→Prop} {L:RLay} {N:Net} {S:Rc} {w w':World} (h3:∀ b,RFoot L N b→¬ A b) (h4:∀ k,k<N.workers.length→CodeAt wz (L.VC k) (codeOf N k)) (hlt:∀ b,A b→b<w.heap.size) (h:RStep L w N S w'):RHas wz A L.p N S w'∧Keeps A w w':=by
 obtain ⟨L',h5,h6,h7,h8,h9⟩:=h.ex
 refine ⟨⟨⟨L',h6,h5,fun b hb hAb=>?_,fun k hk=>by rw [h8];exact h4 k hk⟩,fun b hAb=>Nat.lt_of_lt_of_le (hlt b hAb) h.fr.size⟩,h.fr.mono fun b _ hb=>h3 b hb⟩
 rcases h9 b hb with h1 | h1
 ·exact h3 b h1 hAb
 ·have:=hlt b hAb;omega
theorem rhas_step {wz:World} {A:Nat→Prop} {p:Nat} {N:Net} {R:Rc} {w:World} (h:RHas wz A p N R w) (k:Nat) (hk:k<N.workers.length) (hsm:SmallR N R) (hz:Below wz.heap.size wz w) (hA:∀ b,b<wz.heap.size→A b) :
  Calls Tryz.prog 61 #[.pointer (some ⟨p,0,none⟩),.int .i64 k] w fun e w'=>e=.returned (.int .i64 (stateOf N R k))∧RHas wz A p N (stepR N R k) w'∧Keeps A w w':=by
 obtain ⟨L,rfl,h2,h3,h4⟩:=h.ex
 exact (refStep_calls h2 k hk (RHas.codes h3 h4 hz hA) hsm).mono fun e w' ⟨q1,q2⟩=>⟨q1,RHas.went h3 h4 h.lt q2⟩
theorem rhas_state {wz:World} {A:Nat→Prop} {p:Nat} {N:Net} {R:Rc} {w:World} (h:RHas wz A p N R w) (k:Nat) (hk:k<N.workers.length) :
  Calls Tryz.prog 63 #[.pointer (some ⟨p,0,none⟩),.int .i64 k] w fun e w'=>e=.returned (.int .i64 (stateOf N R k))∧Below w.heap.size w w':=by
 obtain ⟨L,rfl,h2,h3,h4⟩:=h.ex
 exact refState_calls h2 k hk
theorem RStep.grow {L:RLay} {w w':World} {N:Net} {R:Rc} (h:RefAt L w N R) (hc:RCodes L w N) {s:Nat} (hs:s<N.streams.length) {ds:List Value} (hd:w.heap[L.gS]? = some (.cells ds.toArray 88 (0,0)))
  (hd2:∀ s,s<N.streams.length→∀ j,j<5→ds[s*5+j]? = (sCells N (R.s s) s (L.VW s))[j]?) (hf:Fr (fun b=>b=L.gS) w w') (hg:w'.heap[L.gS]? = some (.cells (ds.set (s*5+4) (.int .i64 (((R.s s).room+1:Nat):Int))).toArray 88 (0,0))) :
  RStep L w N (growS R s) w':=by
 have hfr:Fr (RFoot L N) w w':=hf.mono fun b _ e=>by subst e;exact Or.inr (Or.inl rfl)
 have hl:s*5+4<ds.length:=by
  have:=hd2 s hs 4 (by decide)
  exact (List.getElem?_eq_some_iff.1 (this.trans rfl)).1
 have hblk:∀ b,RFoot L N b→b≠L.gS→w'.heap[b]? = w.heap[b]? := fun b hb hne=>hf.block b (h.foot_lt hb) hne
 have hle:=h.le s hs
 refine ⟨⟨_,h.stream hs (L.VW s) { R.s s with room:=(R.s s).room+1} _ (fun b hb hne _=>hblk b hb hne) hg (fun t ht j hj=>?_) ?_ (fun t ht hne g hg=>h.inj s t hs ht (fun e=>hne e.symm) g hg) hle (fun j hj=>hc w' hfr j hj),rfl,rfl,rfl,fun b hb=>Or.inl ?_⟩,hfr⟩
 ·rw [set5_get (by decide) hl t j hj]
  by_cases e:t=s
  ·subst e
   rw [if_pos rfl]
   rcases (show j=0∨j=1∨j=2∨j=3∨j=4 by omega) with rfl | rfl | rfl | rfl | rfl
   ·rw [if_neg (by omega),hd2 t ht 0 (by decide)];rfl
   ·rw [if_neg (by omega),hd2 t ht 1 (by decide)];rfl
   ·rw [if_neg (by omega),hd2 t ht 2 (by decide)];rfl
   ·rw [if_neg (by omega),hd2 t ht 3 (by decide)];rfl
   ·rw [if_pos ⟨rfl,rfl⟩];rfl
  ·rw [if_neg (fun x=>e x.1),if_neg e];exact hd2 t ht j hj
 ·exact own_of_blockB (h.words s hs) fun g hg=>hblk g (Or.inr (Or.inr (Or.inr ⟨s,hs,hg⟩))) fun e=>own_ne_type (h.words s hs) hd (by decide) (e ▸ hg)
 ·rcases hb with rfl | rfl | rfl | ⟨t,ht,hb⟩
  ·exact Or.inl rfl
  ·exact Or.inr (Or.inl rfl)
  ·exact Or.inr (Or.inr (Or.inl rfl))
  ·refine Or.inr (Or.inr (Or.inr ⟨t,ht,?_⟩))
   by_cases e:t=s
   ·subst e;simpa using hb
   ·simpa [e] using hb
def LeastAt (N:Net) (R:Rc) (k:Nat):Option Nat→Prop
 | none=>∀ s:Nat,needsB N R s k=false
 | some t=>needsB N R t k=true∧∀ s:Nat,needsB N R s k=true→(R.s t).room<(R.s s).room∨((R.s t).room=(R.s s).room∧t≤s)
theorem needs_succ (N:Net) (R:Rc) (s:Nat) (k:Nat):needsB N R s (k+1)=(needsB N R s k || wantsB N R s k):=range_any_succ _ _
theorem wants_not {N:Net} {R:Rc} {k:Nat} (h:stateOf N R k≠3) (s:Int):wantsB N R s k=false:=by simp [wantsB,h]
theorem state3_ins {N:Net} {R:Rc} {k:Nat} (hv:validB N=true) (hk:k<N.workers.length) (h:stateOf N R k=3):∃ (i:Ins) (s:Nat),(codeOf N k)[(R.w k).place]? = some i∧i.b=s∧s<N.streams.length∧∀ u:Nat,wantsB N R u k=decide (u=s):=by
 cases hi:insAt N k (R.w k) with
 | none=>simp [stateOf,hi] at h
 | some i=>
  have h3:=h
  simp only [stateOf,hi] at h
  have h2:i.op=2:=by
   split at h
   ·cases h
   ·split at h
    ·rename_i ho;exact ho.1
    ·cases h
  have hm:i∈codeOf N k:=List.mem_of_getElem? hi
  have hvs:=valid_stream (valid_ins hv hk hm) (Or.inr h2)
  refine ⟨i,i.b.toNat,hi,by omega,by omega,fun u=>?_⟩
  simp only [wantsB,h3,hi,beq_self_eq_true,Bool.true_and]
  by_cases e:u=i.b.toNat
  ·have h1:(i.b == (u:Int))=true:=by rw [beq_iff_eq];omega
   rw [h1,decide_eq_true e]
  ·have h1:(i.b == (u:Int))=false:=by rw [beq_eq_false_iff_ne];omega
   rw [h1,decide_eq_false e]
theorem LeastAt.skip {N:Net} {R:Rc} {k:Nat} {o:Option Nat} (h:LeastAt N R k o) (hs:stateOf N R k≠3):LeastAt N R (k+1) o:=by
 have e:∀ s:Nat,needsB N R s (k+1)=needsB N R s k:=fun s=>by rw [needs_succ,wants_not hs,Bool.or_false]
 cases o with
 | none=>intro s;rw [e];exact h s
 | some t=>exact ⟨by rw [e];exact h.1,fun s hs'=>h.2 s (by rw [← e];exact hs')⟩
theorem LeastAt.take {N:Net} {R:Rc} {k s:Nat} {o:Option Nat} (h:LeastAt N R k o) (hw:∀ u:Nat,wantsB N R u k=decide (u=s)) (hb:∀ t,o=some t→(R.s s).room<(R.s t).room∨((R.s s).room=(R.s t).room∧s<t)):LeastAt N R (k+1) (some s):=by
 refine ⟨by rw [needs_succ,hw];simp,fun u hu=>?_⟩
 rw [needs_succ,hw,Bool.or_eq_true,decide_eq_true_eq] at hu
 rcases hu with hu | rfl
 ·cases o with
  | none=>rw [h u] at hu;cases hu
  | some t=>
   have h1:=h.2 u hu
   have h2:=hb t rfl
   omega
 ·exact Or.inr ⟨rfl,Nat.le_refl _⟩
theorem LeastAt.stay {N:Net} {R:Rc} {k s t:Nat} (h:LeastAt N R k (some t)) (hw:∀ u:Nat,wantsB N R u k=decide (u=s)) (hb:¬ ((R.s s).room<(R.s t).room∨((R.s s).room=(R.s t).room∧s<t))):LeastAt N R (k+1) (some t):=by
 refine ⟨by rw [needs_succ,h.1];rfl,fun u hu=>?_⟩
 rw [needs_succ,hw,Bool.or_eq_true,decide_eq_true_eq] at hu
 rcases hu with hu | rfl
 ·exact h.2 u hu
 ·omega
theorem LeastAt.lt {N:Net} {R:Rc} {k t:Nat} (h:LeastAt N R k (some t)) (hv:validB N=true) (hk:k≤N.workers.length):t<N.streams.length:=by
 obtain ⟨j,hj,hp⟩:=List.any_eq_true.1 h.1
 have hj':=List.mem_range.1 hj
 refine (needs_stream (R:=R) (s:=t) hv ?_).1
 exact List.any_eq_true.2 ⟨j,List.mem_range.2 (by omega),hp⟩
theorem LeastAt.tight {N:Net} {R:Rc} {t:Nat} (h:LeastAt N R N.workers.length (some t)) (hv:validB N=true):TightIn N R N.streams.length t:=⟨h.lt hv (Nat.le_refl _),h.1,fun s _ hs=>h.2 s hs⟩
theorem goes_succ (N:Net) (R:Rc) (k:Nat):goesB N R (k+1)=(goesB N R k || stateOf N R k == 1):=range_any_succ _ _
end Go.Proofs.YthfdgdfnflilfaaGreatDoor

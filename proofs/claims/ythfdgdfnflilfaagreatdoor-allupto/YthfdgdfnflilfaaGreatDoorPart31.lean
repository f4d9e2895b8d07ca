/- Part 31: RefS10. -/
import Derived.Deep.RegionHeld3
import Derived.Test.YthfdgdfnflilfaaGreatDoorPart27
namespace Go.Proofs.YthfdgdfnflilfaaGreatDoor
open Go.RowKit Go.Conc
theorem Rc.set_self {N:Net} {R:Rc} {s:Nat} (hl:R.S.length=N.streams.length) (hs:s<N.streams.length):R.S.set s (R.s s)=R.S:=by
 have h:s<R.S.length:=by omega
 have:R.s s=R.S[s]:=by simp [Rc.s,List.getD,h]
 rw [this,List.set_getElem_self]
theorem RStep.read {L:RLay} {w w':World} {N:Net} {R:Rc} (h:RefAt L w N R) (hc:RCodes L w N) {s:Nat} (hs:s<N.streams.length) (hlt:(R.s s).read<(R.s s).words.length) {ds:List Value} (hd:w.heap[L.gS]? = some (.cells ds.toArray 88 (0,0)))
  (hd2:∀ s,s<N.streams.length→∀ j,j<5→ds[s*5+j]? = (sCells N (R.s s) s (L.VW s))[j]?) (hf:Fr (fun b=>b=L.gS) w w') (hg:w'.heap[L.gS]? = some (.cells (ds.set (s*5+3) (.int .i64 (((R.s s).read+1:Nat):Int))).toArray 88 (0,0))) :
  RStep L w N ⟨R.W,R.S.set s { R.s s with read:=(R.s s).read+1}⟩ w':=by
 have hfr:Fr (RFoot L N) w w':=hf.mono fun b _ e=>by subst e;exact Or.inr (Or.inl rfl)
 have hl:s*5+3<ds.length:=by
  have:=hd2 s hs 3 (by decide)
  exact (List.getElem?_eq_some_iff.1 (this.trans rfl)).1
 have hblk:∀ b,RFoot L N b→b≠L.gS→w'.heap[b]? = w.heap[b]? := fun b hb hne=>hf.block b (h.foot_lt hb) hne
 refine ⟨⟨_,h.stream hs (L.VW s) { R.s s with read:=(R.s s).read+1} _ (fun b hb hne _=>hblk b hb hne) hg (fun t ht j hj=>?_) ?_ (fun t ht hne g hg=>h.inj s t hs ht (fun e=>hne e.symm) g hg) (by show (R.s s).read+1≤(R.s s).words.length;omega) (fun j hj=>hc w' hfr j hj),rfl,rfl,rfl,fun b hb=>Or.inl ?_⟩,hfr⟩
 ·rw [set5_get (by decide) hl t j hj]
  by_cases e:t=s
  ·subst e
   rw [if_pos rfl]
   rcases (show j=0∨j=1∨j=2∨j=3∨j=4 by omega) with rfl | rfl | rfl | rfl | rfl
   ·rw [if_neg (by omega),hd2 t ht 0 (by decide)];rfl
   ·rw [if_neg (by omega),hd2 t ht 1 (by decide)];rfl
   ·rw [if_neg (by omega),hd2 t ht 2 (by decide)];rfl
   ·rw [if_pos ⟨rfl,rfl⟩];rfl
   ·rw [if_neg (by omega),hd2 t ht 4 (by decide)];rfl
  ·rw [if_neg (fun x=>e x.1),if_neg e];exact hd2 t ht j hj
 ·exact own_of_blockB (h.words s hs) fun g hg=>hblk g (Or.inr (Or.inr (Or.inr ⟨s,hs,hg⟩))) fun e=>own_ne_type (h.words s hs) hd (by decide) (e ▸ hg)
 ·rcases hb with rfl | rfl | rfl | ⟨t,ht,hb⟩
  ·exact Or.inl rfl
  ·exact Or.inr (Or.inl rfl)
  ·exact Or.inr (Or.inr (Or.inl rfl))
  ·refine Or.inr (Or.inr (Or.inr ⟨t,ht,?_⟩))
   by_cases e:t=s
   ·subst e;simpa using hb
   ·simpa [e] using hb
theorem RStep.write {L:RLay} {w w':World} {N:Net} {R:Rc} (h:RefAt L w N R) (hc:RCodes L w N) {s:Nat} (hs:s<N.streams.length) {g cap:Nat} {v:Int} {ds:List Value} 
  (hd2:∀ s,s<N.streams.length→∀ j,j<5→ds[s*5+j]? = (sCells N (R.s s) s (L.VW s))[j]?) (hf:Fr (fun b=>b=L.gS∨(L.VW s).ownBlock=some b) w w') (hg:w'.heap[L.gS]? = some (.cells (ds.set (s*5+2) (.slice (some ⟨g,0,none⟩) ((R.s s).words.length+1) cap)).toArray 88 (0,0)))
  (ho:w'.ownsRow 0 3 1 (.slice (some ⟨g,0,none⟩) ((R.s s).words.length+1) cap) ((R.s s).words.length+1) (intRow (R.s s).words++[.int .i64 v])) (hgw:(L.VW s).ownBlock=some g∨w.heap.size≤g) :
  RStep L w N ⟨R.W,R.S.set s { R.s s with words:=(R.s s).words++[v]}⟩ w':=by
 have hfr:Fr (RFoot L N) w w':=hf.mono fun b _ e=>by
  rcases e with rfl | e
  ·exact Or.inr (Or.inl rfl)
  ·exact Or.inr (Or.inr (Or.inr ⟨s,hs,e⟩))
 have hl:s*5+2<ds.length:=by
  have:=hd2 s hs 2 (by decide)
  exact (List.getElem?_eq_some_iff.1 (this.trans rfl)).1
 have hlen:((R.s s).words++[v]).length=(R.s s).words.length+1:=by simp
 have hrow:intRow ((R.s s).words++[v])=intRow (R.s s).words++[.int .i64 v]:=by simp [intRow]
 have hle:=h.le s hs
 refine ⟨⟨_,h.stream hs (.slice (some ⟨g,0,none⟩) ((R.s s).words.length+1) cap) { R.s s with words:=(R.s s).words++[v]} _ (fun b hb hne ho=>hf.block b (h.foot_lt hb) (fun e=>e.elim hne ho)) hg (fun t ht j hj=>?_) (by dsimp only;rw [hlen,hrow];exact ho) (fun t ht hne g' hg' e=>?_) (by dsimp only;rw [hlen];omega) (fun j hj=>hc w' hfr j hj),rfl,rfl,rfl,fun b hb=>?_⟩,hfr⟩
 ·rw [set5_get (by decide) hl t j hj]
  by_cases e:t=s
  ·subst e
   rw [if_pos rfl]
   rcases (show j=0∨j=1∨j=2∨j=3∨j=4 by omega) with rfl | rfl | rfl | rfl | rfl
   ·rw [if_neg (by omega),hd2 t ht 0 (by decide)];rfl
   ·rw [if_neg (by omega),hd2 t ht 1 (by decide)];rfl
   ·rw [if_pos ⟨rfl,rfl⟩];rfl
   ·rw [if_neg (by omega),hd2 t ht 3 (by decide)];rfl
   ·rw [if_neg (by omega),hd2 t ht 4 (by decide)];rfl
  ·rw [if_neg (fun x=>e x.1),if_neg e];exact hd2 t ht j hj
 ·have eg:g=g':=by simpa [Value.ownBlock] using hg'
  subst eg
  rcases hgw with h1 | h1
  ·exact h.inj s t hs ht (fun x=>hne x.symm) g h1 e
  ·have:=((h.words t ht).lt g e).2;omega
 ·rcases hb with rfl | rfl | rfl | ⟨t,ht,hb⟩
  ·exact Or.inl (Or.inl rfl)
  ·exact Or.inl (Or.inr (Or.inl rfl))
  ·exact Or.inl (Or.inr (Or.inr (Or.inl rfl)))
  ·by_cases e:t=s
   ·subst e
    have eg:g=b:=by simpa [Value.ownBlock] using hb
    subst eg
    rcases hgw with h1 | h1
    ·exact Or.inl (Or.inr (Or.inr (Or.inr ⟨t,ht,h1⟩)))
    ·exact Or.inr h1
   ·exact Or.inl (Or.inr (Or.inr (Or.inr ⟨t,ht,by simpa [e] using hb⟩)))
set_option maxRecDepth 100000 in
set_option maxHeartbeats 4000000 in
theorem refStep_end {L:RLay} {w:World} {N:Net} {R:Rc} (h:RefAt L w N R) (k:Nat) (hk:k<N.workers.length) (hst:stateOf N R k=1) (hco:RCodes L w N) (ia ib ic:Int) (hi:(codeOf N k)[(R.w k).place]? = some ⟨1,ia,ib,ic⟩) (hre:(R.s ib.toNat).read=(R.s ib.toNat).words.length) :
  Calls Tryz.prog 61 #[.pointer (some ⟨L.p,0,none⟩),.int .i64 k] w fun e w'=>e=.returned (.int .i64 1)∧RStep L w N (doStep N R k) w':=by
 have hval:=valid_ins h.ok hk (List.mem_of_getElem? hi)
 obtain ⟨hc0,hc1⟩:=valid_place hval (Or.inl rfl)
 obtain ⟨hb0,hb1⟩:=valid_stream hval (Or.inl rfl)
 dsimp only at hc0 hc1 hb0 hb1
 obtain ⟨ic,rfl⟩:=Int.eq_ofNat_of_zero_le hc0
 obtain ⟨s,rfl⟩:=Int.eq_ofNat_of_zero_le hb0
 rw [show ((s:Int)).toNat=s from Int.toNat_natCast s] at hre
 have hs:s<N.streams.length:=by omega
 have HDo:Hid (doStep N R k=⟨R.W.set k ⟨ic,(R.w k).r,wrap64 ((R.w k).steps+1)⟩,R.S⟩):=by
  show doStep N R k=_
  unfold doStep insAt
  rw [hi]
  have e1:(R.s s).words[(R.s s).read]? = none:=List.getElem?_eq_none (by omega)
  have e2:¬ (R.s s).read<(R.s s).words.length:=by omega
  have e3:({ R.s s with read:=(R.s s).read}:Sm)=R.s s:=rfl
  simp only [nextW,nextS,Int.toNat_natCast,e1,if_true,if_neg e2,e3,Rc.set_self h.lenS hs]
 have HPut:Hid (∀ w5,Below w.heap.size w w5→RStep L w N (doStep N R k) (putW w5 L.gW k (L.VC k) ⟨ic,(R.w k).r,wrap64 ((R.w k).steps+1)⟩).drew):=fun w5 hb=>by
  rw [HDo.out]
  exact ((RStep.of_below h hb).put hco hk ⟨ic,(R.w k).r,wrap64 ((R.w k).steps+1)⟩ (by show ic≤_;omega)).drew
 have q:(((R.s s).read:Int) == ((R.s s).words.length:Int))=true:=by simp [hre]
 clear HDo hco hval hc0 hc1 hb0 hb1 hre
 have HS:=hide (refState_calls h k hk)
 rw [hst] at HS
 have HH:Hid (∀ wx,Below w.heap.size w wx→RefAt L wx N R):=fun wx hx=>h.below hx
 clear h
 go_enter Tryz.func61,Tryz.ntmps61
 go_wp2_with fail
 refine (unhide HS).mono ?_
 rintro e w1 ⟨rfl,hb⟩
 have HR:=hide (HH.out w1 hb)
 have HB:=hide hb
 clear hb HS hst
 obtain ⟨p0, -⟩:=blk_cell (l:=[_,_]) HR.out.blk 0 _ rfl
 obtain ⟨p1, -⟩:=blk_cell (l:=[_,_]) HR.out.blk 1 _ rfl
 have x0:w1.cell? ⟨L.gW,k*7,none⟩=some (L.VC k):=HR.out.wc hk 0 _ (by decide) rfl
 have x1:=HR.out.wc hk 1 _ (by decide) rfl
 have x2:=HR.out.wc hk 2 _ (by decide) rfl
 have x3:=HR.out.wc hk 3 _ (by decide) rfl
 have x4:=HR.out.wc hk 4 _ (by decide) rfl
 have x5:=HR.out.wc hk 5 _ (by decide) rfl
 have x6:=HR.out.wc hk 6 _ (by decide) rfl
 obtain ⟨ca,cc,hvc,hc63,hccap,hcells⟩:=(HR.out.code k hk).openD
 have HV:=hide hvc
 rw [hvc] at x0
 have hpl:(R.w k).place<(codeOf N k).length:=(List.getElem?_eq_some_iff.1 hi).1
 have hgi:(codeOf N k).getD (R.w k).place ⟨0,0,0,0⟩=⟨1,ia,s,ic⟩:=by rw [getD_eq _ _ _ hpl];exact (List.getElem?_eq_some_iff.1 hi).2
 obtain ⟨cb,co,rfl,hcb,hcell⟩:=hcells _ hpl
 obtain ⟨d0,d1,d2,d3⟩:=hcell w1 (Below.refl _ _)
 rw [hgi] at d0 d1 d2 d3
 dsimp only at d0 d1 d2 d3
 have hk0:(0:Int)≤(k:Int):=by omega
 have hk1:(k:Int)<(N.workers.length:Int):=by omega
 have hp0:(0:Int)≤((R.w k).place:Int):=by omega
 have hp1:((R.w k).place:Int)<((codeOf N k).length:Int):=by omega
 have z0:=lt_of_cell p0
 have z1:=lt_of_cell x0
 clear hcells hcell hgi hvc hi
 go_upto_region 9 with fail
 have hbx:((w1.alloc (.cells #[.slice (some ⟨cb,co,none⟩) (codeOf N k).length cc,.int .i64 ((R.w k).place:Int),.int .i64 ((R.w k).r 0),.int .i64 ((R.w k).r 1),.int .i64 ((R.w k).r 2),.int .i64 ((R.w k).r 3),.int .i64 ((R.w k).steps)] 92)).alloc (.cells #[.int .i64 1,.int .i64 ia,.int .i64 s,.int .i64 ic] 44)).heap[w1.heap.size]? = some (.cells #[.slice (some ⟨cb,co,none⟩) (codeOf N k).length cc,.int .i64 ((R.w k).place:Int),.int .i64 ((R.w k).r 0),.int .i64 ((R.w k).r 1),.int .i64 ((R.w k).r 2),.int .i64 ((R.w k).r 3),.int .i64 ((R.w k).steps)] 92 (0,0)):=heapOld (by simp) (heapNew rfl)
 have hbi:((w1.alloc (.cells #[.slice (some ⟨cb,co,none⟩) (codeOf N k).length cc,.int .i64 ((R.w k).place:Int),.int .i64 ((R.w k).r 0),.int .i64 ((R.w k).r 1),.int .i64 ((R.w k).r 2),.int .i64 ((R.w k).r 3),.int .i64 ((R.w k).steps)] 92)).alloc (.cells #[.int .i64 1,.int .i64 ia,.int .i64 s,.int .i64 ic] 44)).heap[w1.heap.size+1]? = some (.cells #[.int .i64 1,.int .i64 ia,.int .i64 s,.int .i64 ic] 44 (0,0)):=heapNew (by simp)
 have hbl:Below w1.heap.size w1 ((w1.alloc (.cells #[.slice (some ⟨cb,co,none⟩) (codeOf N k).length cc,.int .i64 ((R.w k).place:Int),.int .i64 ((R.w k).r 0),.int .i64 ((R.w k).r 1),.int .i64 ((R.w k).r 2),.int .i64 ((R.w k).r 3),.int .i64 ((R.w k).steps)] 92)).alloc (.cells #[.int .i64 1,.int .i64 ia,.int .i64 s,.int .i64 ic] 44)):=((Below.refl _ _).alloc (Nat.le_refl _) _).alloc (by simp) _
 have hR4:=HR.out.below hbl
 have HB4:Hid (Below w.heap.size w ((w1.alloc (.cells #[.slice (some ⟨cb,co,none⟩) (codeOf N k).length cc,.int .i64 ((R.w k).place:Int),.int .i64 ((R.w k).r 0),.int .i64 ((R.w k).r 1),.int .i64 ((R.w k).r 2),.int .i64 ((R.w k).r 3),.int .i64 ((R.w k).steps)] 92)).alloc (.cells #[.int .i64 1,.int .i64 ia,.int .i64 s,.int .i64 ic] 44))):=HB.out.trans (hbl.mono HB.out.size)
 generalize (w1.alloc (.cells #[.slice (some ⟨cb,co,none⟩) (codeOf N k).length cc,.int .i64 ((R.w k).place:Int),.int .i64 ((R.w k).r 0),.int .i64 ((R.w k).r 1),.int .i64 ((R.w k).r 2),.int .i64 ((R.w k).r 3),.int .i64 ((R.w k).steps)] 92)).alloc (.cells #[.int .i64 1,.int .i64 ia,.int .i64 s,.int .i64 ic] 44)=w4 at *
 have HSx:Hid (w.heap.size≤w1.heap.size):=HB.out.size
 clear hbl p0 p1 x0 x1 x2 x3 x4 x5 x6 d0 d1 d2 d3 z0 z1 HB HR
 obtain ⟨p0, -⟩:=blk_cell (l:=[_,_]) hR4.blk 0 _ rfl
 obtain ⟨i1, -⟩:=blk_cell (l:=[_,_,_,_]) hbi 1 _ rfl
 obtain ⟨i2, -⟩:=blk_cell (l:=[_,_,_,_]) hbi 2 _ rfl
 obtain ⟨i3, -⟩:=blk_cell (l:=[_,_,_,_]) hbi 3 _ rfl
 obtain ⟨av,cv,hv⟩:=own_slice (hR4.words s hs)
 have c0:w4.cell? ⟨L.gS,s*5,none⟩=some (.bool (srcd N s)):=hR4.sc hs 0 _ (by decide) rfl
 have c1:=hR4.sc hs 1 _ (by decide) rfl
 have c2:=hR4.sc hs 2 _ (by decide) rfl
 have c3:=hR4.sc hs 3 _ (by decide) rfl
 have c4:=hR4.sc hs 4 _ (by decide) rfl
 rw [hv] at c2
 have hs0:(0:Int)≤(s:Int):=by omega
 have hs1:(s:Int)<(N.streams.length:Int):=by omega
 have HVs:=hide hv
 have H4:=hide hR4
 have HBx:=hide hbx
 have HBi:=hide hbi
 clear hv hR4 hbx hbi
 have n0:=World.new_ne w4 _ p0
 have n1:=World.new_ne w4 _ i2
 have n2:=World.new_ne w4 _ c0
 go_region_held3 (fun w'=>w'.cell? ⟨L.p,0,none⟩=some (.slice (some ⟨L.gS,0,none⟩) N.streams.length L.cS)∧w'.cell? ⟨w1.heap.size+1,2,none⟩=some (.int .i64 (s:Int))∧w'.cell? ⟨L.gS,s*5,none⟩=some (.bool (srcd N s))∧w'.cell? ⟨L.gS,s*5+1,none⟩=some (.bool (used N s))∧w'.cell? ⟨L.gS,s*5+2,none⟩=some (.slice av (R.s s).words.length cv)∧w'.cell? ⟨L.gS,s*5+3,none⟩=some (.int .i64 ((R.s s).read:Int))∧w'.cell? ⟨L.gS,s*5+4,none⟩=some (.int .i64 ((R.s s).room:Int))) (go_keep) (fail)
 have hbx6:((w4.alloc (.cells #[.bool (srcd N s),.bool (used N s),.slice av (R.s s).words.length cv,.int .i64 ((R.s s).read:Int),.int .i64 ((R.s s).room:Int)] 88)).drew).heap[w1.heap.size]? = some (.cells #[.slice (some ⟨cb,co,none⟩) (codeOf N k).length cc,.int .i64 ((R.w k).place:Int),.int .i64 ((R.w k).r 0),.int .i64 ((R.w k).r 1),.int .i64 ((R.w k).r 2),.int .i64 ((R.w k).r 3),.int .i64 ((R.w k).steps)] 92 (0,0)):=heapOld (lt_of_blk HBx.out) HBx.out
 have hbs6:((w4.alloc (.cells #[.bool (srcd N s),.bool (used N s),.slice av (R.s s).words.length cv,.int .i64 ((R.s s).read:Int),.int .i64 ((R.s s).room:Int)] 88)).drew).heap[w4.heap.size]? = some (.cells #[.bool (srcd N s),.bool (used N s),.slice av (R.s s).words.length cv,.int .i64 ((R.s s).read:Int),.int .i64 ((R.s s).room:Int)] 88 (0,0)):=heapNew rfl
 have hbi6:((w4.alloc (.cells #[.bool (srcd N s),.bool (used N s),.slice av (R.s s).words.length cv,.int .i64 ((R.s s).read:Int),.int .i64 ((R.s s).room:Int)] 88)).drew).heap[w1.heap.size+1]? = some (.cells #[.int .i64 1,.int .i64 ia,.int .i64 s,.int .i64 ic] 44 (0,0)):=heapOld (lt_of_blk HBi.out) HBi.out
 have hb46:Below w4.heap.size w4 ((w4.alloc (.cells #[.bool (srcd N s),.bool (used N s),.slice av (R.s s).words.length cv,.int .i64 ((R.s s).read:Int),.int .i64 ((R.s s).room:Int)] 88)).drew):=((Below.refl _ _).alloc (Nat.le_refl _) _).drew
 have HB6:Hid (Below w.heap.size w ((w4.alloc (.cells #[.bool (srcd N s),.bool (used N s),.slice av (R.s s).words.length cv,.int .i64 ((R.s s).read:Int),.int .i64 ((R.s s).room:Int)] 88)).drew)):=HB4.out.trans (hb46.mono HB4.out.size)
 have HR6:=hide (H4.out.below hb46)
 have HS4:Hid (w.heap.size≤w4.heap.size):=HB4.out.size
 generalize (w4.alloc (.cells #[.bool (srcd N s),.bool (used N s),.slice av (R.s s).words.length cv,.int .i64 ((R.s s).read:Int),.int .i64 ((R.s s).room:Int)] 88)).drew=w6 at *
 generalize w4.heap.size=sb at *
 clear p0 i1 i2 i3 c0 c1 c2 c3 c4 n0 n1 n2 HBx HBi H4 HB4 hb46
 obtain ⟨t0, -⟩:=blk_cell (l:=[_,_,_,_,_]) hbs6 0 _ rfl
 obtain ⟨t1, -⟩:=blk_cell (l:=[_,_,_,_,_]) hbs6 1 _ rfl
 obtain ⟨t2, -⟩:=blk_cell (l:=[_,_,_,_,_]) hbs6 2 _ rfl
 obtain ⟨t3, -⟩:=blk_cell (l:=[_,_,_,_,_]) hbs6 3 _ rfl
 obtain ⟨t4, -⟩:=blk_cell (l:=[_,_,_,_,_]) hbs6 4 _ rfl
 obtain ⟨j1, -⟩:=blk_cell (l:=[_,_,_,_]) hbi6 1 _ rfl
 obtain ⟨j2, -⟩:=blk_cell (l:=[_,_,_,_]) hbi6 2 _ rfl
 obtain ⟨j3, -⟩:=blk_cell (l:=[_,_,_,_]) hbi6 3 _ rfl
 obtain ⟨y0, -⟩:=blk_cell (l:=[_,_,_,_,_,_,_]) hbx6 0 _ rfl
 obtain ⟨y1, -⟩:=blk_cell (l:=[_,_,_,_,_,_,_]) hbx6 1 _ rfl
 obtain ⟨y2, -⟩:=blk_cell (l:=[_,_,_,_,_,_,_]) hbx6 2 _ rfl
 obtain ⟨y3, -⟩:=blk_cell (l:=[_,_,_,_,_,_,_]) hbx6 3 _ rfl
 obtain ⟨y4, -⟩:=blk_cell (l:=[_,_,_,_,_,_,_]) hbx6 4 _ rfl
 obtain ⟨y5, -⟩:=blk_cell (l:=[_,_,_,_,_,_,_]) hbx6 5 _ rfl
 obtain ⟨y6, -⟩:=blk_cell (l:=[_,_,_,_,_,_,_]) hbx6 6 _ rfl
 have u1:=row_frozen hbx6 1
 have u6:=row_frozen hbx6 6
 have HX6:=hide hbx6
 clear hbx6 hbs6 hbi6
 go_upto_region 33 with fail
 have hbx7:((w6.setCell ⟨w1.heap.size,1,none⟩ (.int .i64 ((ic:Int)))).setCell ⟨w1.heap.size,6,none⟩ (.int .i64 (wrap64 ((R.w k).steps+1)))).heap[w1.heap.size]? = some (.cells #[.slice (some ⟨cb,co,none⟩) (codeOf N k).length cc,.int .i64 ((ic:Int)),.int .i64 ((R.w k).r 0),.int .i64 ((R.w k).r 1),.int .i64 ((R.w k).r 2),.int .i64 ((R.w k).r 3),.int .i64 (wrap64 ((R.w k).steps+1))] 92 (0,0)):=by
  have h1:=blk_set (w:=w6) HX6.out 1 (.int .i64 ((ic:Int)))
  have h2:=blk_set h1 6 (.int .i64 (wrap64 ((R.w k).steps+1)))
  exact h2
 have hfx:Fr (fun b=>b=w1.heap.size) w6 ((w6.setCell ⟨w1.heap.size,1,none⟩ (.int .i64 ((ic:Int)))).setCell ⟨w1.heap.size,6,none⟩ (.int .i64 (wrap64 ((R.w k).steps+1)))):=Fr.setCell (S:=fun b=>b=w1.heap.size) (Fr.setCell (S:=fun b=>b=w1.heap.size) (Fr.refl _ w6) (p:=⟨w1.heap.size,1,none⟩) (Or.inr rfl) _) (p:=⟨w1.heap.size,6,none⟩) (Or.inr rfl) _
 have HB7:Below w.heap.size w ((w6.setCell ⟨w1.heap.size,1,none⟩ (.int .i64 ((ic:Int)))).setCell ⟨w1.heap.size,6,none⟩ (.int .i64 (wrap64 ((R.w k).steps+1)))):=HB6.out.trans ⟨hfx.os,hfx.tape,hfx.output,hfx.size,fun b hb=>hfx.block b (Nat.lt_of_lt_of_le hb HB6.out.size) (fun e=>by have:=HSx.out;omega)⟩
 have hR7:=HH.out _ HB7
 have HEnd:=hide (HPut.out _ HB7)
 generalize (w6.setCell ⟨w1.heap.size,1,none⟩ (.int .i64 ((ic:Int)))).setCell ⟨w1.heap.size,6,none⟩ (.int .i64 (wrap64 ((R.w k).steps+1)))=w7 at *
 generalize w1.heap.size=xb at *
 clear hfx HX6 y0 y1 y2 y3 y4 y5 y6 u1 u6 t0 t1 t2 t3 t4 j1 j2 j3 HB7
 obtain ⟨p1, -⟩:=blk_cell (l:=[_,_]) hR7.blk 1 _ rfl
 obtain ⟨y0, -⟩:=blk_cell (l:=[_,_,_,_,_,_,_]) hbx7 0 _ rfl
 obtain ⟨y1, -⟩:=blk_cell (l:=[_,_,_,_,_,_,_]) hbx7 1 _ rfl
 obtain ⟨y2, -⟩:=blk_cell (l:=[_,_,_,_,_,_,_]) hbx7 2 _ rfl
 obtain ⟨y3, -⟩:=blk_cell (l:=[_,_,_,_,_,_,_]) hbx7 3 _ rfl
 obtain ⟨y4, -⟩:=blk_cell (l:=[_,_,_,_,_,_,_]) hbx7 4 _ rfl
 obtain ⟨y5, -⟩:=blk_cell (l:=[_,_,_,_,_,_,_]) hbx7 5 _ rfl
 obtain ⟨y6, -⟩:=blk_cell (l:=[_,_,_,_,_,_,_]) hbx7 6 _ rfl
 have x0:w7.cell? ⟨L.gW,k*7,none⟩=some (L.VC k):=hR7.wc hk 0 _ (by decide) rfl
 have x1:w7.cell? ⟨L.gW,k*7+1,none⟩=some (.int .i64 ((R.w k).place:Int)):=hR7.wc hk 1 _ (by decide) rfl
 have x2:w7.cell? ⟨L.gW,k*7+2,none⟩=some (.int .i64 ((R.w k).r 0)):=hR7.wc hk 2 _ (by decide) rfl
 have x3:w7.cell? ⟨L.gW,k*7+3,none⟩=some (.int .i64 ((R.w k).r 1)):=hR7.wc hk 3 _ (by decide) rfl
 have x4:w7.cell? ⟨L.gW,k*7+4,none⟩=some (.int .i64 ((R.w k).r 2)):=hR7.wc hk 4 _ (by decide) rfl
 have x5:w7.cell? ⟨L.gW,k*7+5,none⟩=some (.int .i64 ((R.w k).r 3)):=hR7.wc hk 5 _ (by decide) rfl
 have x6:w7.cell? ⟨L.gW,k*7+6,none⟩=some (.int .i64 ((R.w k).steps)):=hR7.wc hk 6 _ (by decide) rfl
 obtain ⟨cs,hbW, -⟩:=hR7.rowW
 have f0:w7.frozen? ⟨L.gW,k*7,none⟩=false:=row_frozen hbW _
 have f1:w7.frozen? ⟨L.gW,k*7+1,none⟩=false:=row_frozen hbW _
 have f2:w7.frozen? ⟨L.gW,k*7+2,none⟩=false:=row_frozen hbW _
 have f3:w7.frozen? ⟨L.gW,k*7+3,none⟩=false:=row_frozen hbW _
 have f4:w7.frozen? ⟨L.gW,k*7+4,none⟩=false:=row_frozen hbW _
 have f5:w7.frozen? ⟨L.gW,k*7+5,none⟩=false:=row_frozen hbW _
 have f6:w7.frozen? ⟨L.gW,k*7+6,none⟩=false:=row_frozen hbW _
 clear hbW hR7 hbx7
 refine wp_region_still_tail 7 Tryz.mixed (by kernel_rfl) ?_
 simp only [List.take_succ_cons,List.take_zero,List.drop_succ_cons,List.drop_zero]
 iterate 7 still_step
 refine wpStill_nil ?_
 show wpList _ _ _ _ _ w7.drew
 go_wp2
 go_ret
 refine ⟨rfl,?_⟩
 have:=HEnd.out
 rw [HV.out] at this
 exact this
set_option maxRecDepth 100000 in
set_option maxHeartbeats 4000000 in
theorem refStep_read {L:RLay} {w:World} {N:Net} {R:Rc} (h:RefAt L w N R) (k:Nat) (hk:k<N.workers.length) (hst:stateOf N R k=1) (hco:RCodes L w N) (ia ib ic:Int) (hi:(codeOf N k)[(R.w k).place]? = some ⟨1,ia,ib,ic⟩) (hre:(R.s ib.toNat).read<(R.s ib.toNat).words.length) :
  Calls Tryz.prog 61 #[.pointer (some ⟨L.p,0,none⟩),.int .i64 k] w fun e w'=>e=.returned (.int .i64 1)∧RStep L w N (doStep N R k) w':=by
 have hval:=valid_ins h.ok hk (List.mem_of_getElem? hi)
 obtain ⟨hb0,hb1⟩:=valid_stream hval (Or.inl rfl)
 obtain ⟨hr0,hr1⟩:=valid_reg hval (by dsimp only;omega)
 dsimp only at hb0 hb1 hr0 hr1
 obtain ⟨ka,rfl⟩:=Int.eq_ofNat_of_zero_le hr0
 obtain ⟨s,rfl⟩:=Int.eq_ofNat_of_zero_le hb0
 rw [show ((s:Int)).toNat=s from Int.toNat_natCast s] at hre
 have hs:s<N.streams.length:=by omega
 have hka:ka<4:=by omega
 obtain ⟨v,hve⟩:∃ v,v=(R.s s).words[(R.s s).read]:=⟨_,rfl⟩
 have HDo:Hid (doStep N R k=⟨(R.W.set k ⟨(R.w k).place+1,upd (R.w k).r ka v,wrap64 ((R.w k).steps+1)⟩),R.S.set s { R.s s with read:=(R.s s).read+1}⟩):=by
  show doStep N R k=_
  unfold doStep insAt
  rw [hi]
  have e1:(R.s s).words[(R.s s).read]? = some v:=by rw [List.getElem?_eq_getElem hre,hve]
  simp only [nextW,nextS,Int.toNat_natCast,e1,if_true,if_pos hre]
 obtain ⟨ds,hd,hd2⟩:=h.rowS
 have hdl:s*5+3<ds.length:=(List.getElem?_eq_some_iff.1 ((hd2 s hs 3 (by decide)).trans rfl)).1
 have HPut:Hid (∀ w5,Fr (fun b=>b=L.gS) w w5→w5.heap[L.gS]? = some (.cells (ds.set (s*5+3) (.int .i64 (((R.s s).read:Int)+1))).toArray 88 (0,0))→RStep L w N (doStep N R k) (putW w5 L.gW k (L.VC k) ⟨(R.w k).place+1,upd (R.w k).r ka v,wrap64 ((R.w k).steps+1)⟩).drew∧∃ L' R',RefAt L' w5 N R'∧L'.p=L.p∧L'.gW=L.gW∧L'.VC=L.VC∧R'.W=R.W):=fun w5 hf hg=>by
  rw [HDo.out]
  have h1:=RStep.read h hco hs hre hd hd2 hf (by rw [hg];simp)
  refine ⟨(h1.put hco hk ⟨(R.w k).place+1,upd (R.w k).r ka v,wrap64 ((R.w k).steps+1)⟩ (by show (R.w k).place+1≤_;have:=(List.getElem?_eq_some_iff.1 hi).1;omega)).drew,?_⟩
  obtain ⟨L',q1,q2,q3,q4, -⟩:=h1.ex
  exact ⟨L',_,q1,q2,q3,q4,rfl⟩
 have HDs:Hid (w.heap[L.gS]? = some (.cells ds.toArray 88 (0,0))∧ds[s*5+3]? = some (.int .i64 ((R.s s).read:Int))):=⟨hd,(hd2 s hs 3 (by decide)).trans rfl⟩
 have hq:(((R.s s).read:Int) == ((R.s s).words.length:Int))=false:=by simp;omega
 have hln:(R.s s).words.length≤maxLen:=by
  rcases (h.words s hs).2 with ⟨-,h2⟩ | ⟨g,cap,cur, -, -, -,h2,h3, -⟩
  ·rw [h2];exact Nat.zero_le _
  ·exact Nat.le_trans h2 h3
 unfold maxLen at hln
 have wr1:IntKind.i64.wrap (((R.s s).read:Int)+1)=((R.s s).read:Int)+1:=by rw [IntKind.wrap_i64];omega
 have hgW:L.gW≠L.gS:=by
  obtain ⟨es,he, -⟩:=h.rowW
  exact ne_of_types he hd (by decide)
 clear HDo hco hval hb0 hb1 hr0 hr1 hd hd2
 have HS:=hide (refState_calls h k hk)
 rw [hst] at HS
 have HH:Hid (∀ wx,Below w.heap.size w wx→RefAt L wx N R):=fun wx hx=>h.below hx
 clear h
 go_enter Tryz.func61,Tryz.ntmps61
 go_wp2_with fail
 refine (unhide HS).mono ?_
 rintro e w1 ⟨rfl,hb⟩
 have HR:=hide (HH.out w1 hb)
 have HB:=hide hb
 clear hb HS hst
 obtain ⟨p0, -⟩:=blk_cell (l:=[_,_]) HR.out.blk 0 _ rfl
 obtain ⟨p1, -⟩:=blk_cell (l:=[_,_]) HR.out.blk 1 _ rfl
 have x0:w1.cell? ⟨L.gW,k*7,none⟩=some (L.VC k):=HR.out.wc hk 0 _ (by decide) rfl
 have x1:=HR.out.wc hk 1 _ (by decide) rfl
 have x2:=HR.out.wc hk 2 _ (by decide) rfl
 have x3:=HR.out.wc hk 3 _ (by decide) rfl
 have x4:=HR.out.wc hk 4 _ (by decide) rfl
 have x5:=HR.out.wc hk 5 _ (by decide) rfl
 have x6:=HR.out.wc hk 6 _ (by decide) rfl
 obtain ⟨ca,cc,hvc,hc63,hccap,hcells⟩:=(HR.out.code k hk).openD
 have HV:=hide hvc
 rw [hvc] at x0
 have hpl:(R.w k).place<(codeOf N k).length:=(List.getElem?_eq_some_iff.1 hi).1
 have hgi:(codeOf N k).getD (R.w k).place ⟨0,0,0,0⟩=⟨1,ka,s,ic⟩:=by rw [getD_eq _ _ _ hpl];exact (List.getElem?_eq_some_iff.1 hi).2
 obtain ⟨cb,co,rfl,hcb,hcell⟩:=hcells _ hpl
 obtain ⟨d0,d1,d2,d3⟩:=hcell w1 (Below.refl _ _)
 rw [hgi] at d0 d1 d2 d3
 dsimp only at d0 d1 d2 d3
 have hk0:(0:Int)≤(k:Int):=by omega
 have hk1:(k:Int)<(N.workers.length:Int):=by omega
 have hp0:(0:Int)≤((R.w k).place:Int):=by omega
 have hp1:((R.w k).place:Int)<((codeOf N k).length:Int):=by omega
 have z0:=lt_of_cell p0
 have z1:=lt_of_cell x0
 clear hcells hcell hgi hvc hi
 go_upto_region 9 with fail
 have hbx:((w1.alloc (.cells #[.slice (some ⟨cb,co,none⟩) (codeOf N k).length cc,.int .i64 ((R.w k).place:Int),.int .i64 ((R.w k).r 0),.int .i64 ((R.w k).r 1),.int .i64 ((R.w k).r 2),.int .i64 ((R.w k).r 3),.int .i64 ((R.w k).steps)] 92)).alloc (.cells #[.int .i64 1,.int .i64 ka,.int .i64 s,.int .i64 ic] 44)).heap[w1.heap.size]? = some (.cells #[.slice (some ⟨cb,co,none⟩) (codeOf N k).length cc,.int .i64 ((R.w k).place:Int),.int .i64 ((R.w k).r 0),.int .i64 ((R.w k).r 1),.int .i64 ((R.w k).r 2),.int .i64 ((R.w k).r 3),.int .i64 ((R.w k).steps)] 92 (0,0)):=heapOld (by simp) (heapNew rfl)
 have hbi:((w1.alloc (.cells #[.slice (some ⟨cb,co,none⟩) (codeOf N k).length cc,.int .i64 ((R.w k).place:Int),.int .i64 ((R.w k).r 0),.int .i64 ((R.w k).r 1),.int .i64 ((R.w k).r 2),.int .i64 ((R.w k).r 3),.int .i64 ((R.w k).steps)] 92)).alloc (.cells #[.int .i64 1,.int .i64 ka,.int .i64 s,.int .i64 ic] 44)).heap[w1.heap.size+1]? = some (.cells #[.int .i64 1,.int .i64 ka,.int .i64 s,.int .i64 ic] 44 (0,0)):=heapNew (by simp)
 have hbl:Below w1.heap.size w1 ((w1.alloc (.cells #[.slice (some ⟨cb,co,none⟩) (codeOf N k).length cc,.int .i64 ((R.w k).place:Int),.int .i64 ((R.w k).r 0),.int .i64 ((R.w k).r 1),.int .i64 ((R.w k).r 2),.int .i64 ((R.w k).r 3),.int .i64 ((R.w k).steps)] 92)).alloc (.cells #[.int .i64 1,.int .i64 ka,.int .i64 s,.int .i64 ic] 44)):=((Below.refl _ _).alloc (Nat.le_refl _) _).alloc (by simp) _
 have hR4:=HR.out.below hbl
 have HB4:Hid (Below w.heap.size w ((w1.alloc (.cells #[.slice (some ⟨cb,co,none⟩) (codeOf N k).length cc,.int .i64 ((R.w k).place:Int),.int .i64 ((R.w k).r 0),.int .i64 ((R.w k).r 1),.int .i64 ((R.w k).r 2),.int .i64 ((R.w k).r 3),.int .i64 ((R.w k).steps)] 92)).alloc (.cells #[.int .i64 1,.int .i64 ka,.int .i64 s,.int .i64 ic] 44))):=HB.out.trans (hbl.mono HB.out.size)
 generalize (w1.alloc (.cells #[.slice (some ⟨cb,co,none⟩) (codeOf N k).length cc,.int .i64 ((R.w k).place:Int),.int .i64 ((R.w k).r 0),.int .i64 ((R.w k).r 1),.int .i64 ((R.w k).r 2),.int .i64 ((R.w k).r 3),.int .i64 ((R.w k).steps)] 92)).alloc (.cells #[.int .i64 1,.int .i64 ka,.int .i64 s,.int .i64 ic] 44)=w4 at *
 have HSx:Hid (w.heap.size≤w1.heap.size):=HB.out.size
 clear hbl p0 p1 x0 x1 x2 x3 x4 x5 x6 d0 d1 d2 d3 z0 z1 HB HR
 obtain ⟨p0, -⟩:=blk_cell (l:=[_,_]) hR4.blk 0 _ rfl
 obtain ⟨i1, -⟩:=blk_cell (l:=[_,_,_,_]) hbi 1 _ rfl
 obtain ⟨i2, -⟩:=blk_cell (l:=[_,_,_,_]) hbi 2 _ rfl
 obtain ⟨i3, -⟩:=blk_cell (l:=[_,_,_,_]) hbi 3 _ rfl
 obtain ⟨av,cv,hv⟩:=own_slice (hR4.words s hs)
 have c0:w4.cell? ⟨L.gS,s*5,none⟩=some (.bool (srcd N s)):=hR4.sc hs 0 _ (by decide) rfl
 have c1:=hR4.sc hs 1 _ (by decide) rfl
 have c2:=hR4.sc hs 2 _ (by decide) rfl
 have c3:=hR4.sc hs 3 _ (by decide) rfl
 have c4:=hR4.sc hs 4 _ (by decide) rfl
 rw [hv] at c2
 have hs0:(0:Int)≤(s:Int):=by omega
 have hs1:(s:Int)<(N.streams.length:Int):=by omega
 have HVs:=hide hv
 have H4:=hide hR4
 have HBx:=hide hbx
 have HBi:=hide hbi
 clear hv hR4 hbx hbi
 have n0:=World.new_ne w4 _ p0
 have n1:=World.new_ne w4 _ i2
 have n2:=World.new_ne w4 _ c0
 go_region_held3 (fun w'=>w'.cell? ⟨L.p,0,none⟩=some (.slice (some ⟨L.gS,0,none⟩) N.streams.length L.cS)∧w'.cell? ⟨w1.heap.size+1,2,none⟩=some (.int .i64 (s:Int))∧w'.cell? ⟨L.gS,s*5,none⟩=some (.bool (srcd N s))∧w'.cell? ⟨L.gS,s*5+1,none⟩=some (.bool (used N s))∧w'.cell? ⟨L.gS,s*5+2,none⟩=some (.slice av (R.s s).words.length cv)∧w'.cell? ⟨L.gS,s*5+3,none⟩=some (.int .i64 ((R.s s).read:Int))∧w'.cell? ⟨L.gS,s*5+4,none⟩=some (.int .i64 ((R.s s).room:Int))) (go_keep) (fail)
 have hbx6:((w4.alloc (.cells #[.bool (srcd N s),.bool (used N s),.slice av (R.s s).words.length cv,.int .i64 ((R.s s).read:Int),.int .i64 ((R.s s).room:Int)] 88)).drew).heap[w1.heap.size]? = some (.cells #[.slice (some ⟨cb,co,none⟩) (codeOf N k).length cc,.int .i64 ((R.w k).place:Int),.int .i64 ((R.w k).r 0),.int .i64 ((R.w k).r 1),.int .i64 ((R.w k).r 2),.int .i64 ((R.w k).r 3),.int .i64 ((R.w k).steps)] 92 (0,0)):=heapOld (lt_of_blk HBx.out) HBx.out
 have hbs6:((w4.alloc (.cells #[.bool (srcd N s),.bool (used N s),.slice av (R.s s).words.length cv,.int .i64 ((R.s s).read:Int),.int .i64 ((R.s s).room:Int)] 88)).drew).heap[w4.heap.size]? = some (.cells #[.bool (srcd N s),.bool (used N s),.slice av (R.s s).words.length cv,.int .i64 ((R.s s).read:Int),.int .i64 ((R.s s).room:Int)] 88 (0,0)):=heapNew rfl
 have hbi6:((w4.alloc (.cells #[.bool (srcd N s),.bool (used N s),.slice av (R.s s).words.length cv,.int .i64 ((R.s s).read:Int),.int .i64 ((R.s s).room:Int)] 88)).drew).heap[w1.heap.size+1]? = some (.cells #[.int .i64 1,.int .i64 ka,.int .i64 s,.int .i64 ic] 44 (0,0)):=heapOld (lt_of_blk HBi.out) HBi.out
 have hb46:Below w4.heap.size w4 ((w4.alloc (.cells #[.bool (srcd N s),.bool (used N s),.slice av (R.s s).words.length cv,.int .i64 ((R.s s).read:Int),.int .i64 ((R.s s).room:Int)] 88)).drew):=((Below.refl _ _).alloc (Nat.le_refl _) _).drew
 have HB6:Hid (Below w.heap.size w ((w4.alloc (.cells #[.bool (srcd N s),.bool (used N s),.slice av (R.s s).words.length cv,.int .i64 ((R.s s).read:Int),.int .i64 ((R.s s).room:Int)] 88)).drew)):=HB4.out.trans (hb46.mono HB4.out.size)
 have HR6:=hide (H4.out.below hb46)
 have HS4:Hid (w.heap.size≤w4.heap.size):=HB4.out.size
 generalize (w4.alloc (.cells #[.bool (srcd N s),.bool (used N s),.slice av (R.s s).words.length cv,.int .i64 ((R.s s).read:Int),.int .i64 ((R.s s).room:Int)] 88)).drew=w6 at *
 generalize w4.heap.size=sb at *
 clear p0 i1 i2 i3 c0 c1 c2 c3 c4 n0 n1 n2 HBx HBi H4 HB4 hb46
 obtain ⟨t0, -⟩:=blk_cell (l:=[_,_,_,_,_]) hbs6 0 _ rfl
 obtain ⟨t1, -⟩:=blk_cell (l:=[_,_,_,_,_]) hbs6 1 _ rfl
 obtain ⟨t2, -⟩:=blk_cell (l:=[_,_,_,_,_]) hbs6 2 _ rfl
 obtain ⟨t3, -⟩:=blk_cell (l:=[_,_,_,_,_]) hbs6 3 _ rfl
 obtain ⟨t4, -⟩:=blk_cell (l:=[_,_,_,_,_]) hbs6 4 _ rfl
 obtain ⟨j1, -⟩:=blk_cell (l:=[_,_,_,_]) hbi6 1 _ rfl
 obtain ⟨j2, -⟩:=blk_cell (l:=[_,_,_,_]) hbi6 2 _ rfl
 obtain ⟨j3, -⟩:=blk_cell (l:=[_,_,_,_]) hbi6 3 _ rfl
 obtain ⟨y0, -⟩:=blk_cell (l:=[_,_,_,_,_,_,_]) hbx6 0 _ rfl
 obtain ⟨y1, -⟩:=blk_cell (l:=[_,_,_,_,_,_,_]) hbx6 1 _ rfl
 obtain ⟨y2, -⟩:=blk_cell (l:=[_,_,_,_,_,_,_]) hbx6 2 _ rfl
 obtain ⟨y3, -⟩:=blk_cell (l:=[_,_,_,_,_,_,_]) hbx6 3 _ rfl
 obtain ⟨y4, -⟩:=blk_cell (l:=[_,_,_,_,_,_,_]) hbx6 4 _ rfl
 obtain ⟨y5, -⟩:=blk_cell (l:=[_,_,_,_,_,_,_]) hbx6 5 _ rfl
 obtain ⟨y6, -⟩:=blk_cell (l:=[_,_,_,_,_,_,_]) hbx6 6 _ rfl
 have u1:=row_frozen hbx6 1
 have u6:=row_frozen hbx6 6
 obtain ⟨av',cv',hv',hcv,hget⟩:=own_row_get (HR6.out.words s hs)
 obtain ⟨gw,hgw,dd⟩:=hget (R.s s).read (by rw [intRow_length];exact hre)
 have hvv:Value.slice av (R.s s).words.length cv=.slice av' (R.s s).words.length cv':=HVs.out.symm.trans hv'
 simp only [Value.slice.injEq] at hvv
 obtain ⟨rfl, -,rfl⟩:=hvv
 subst hgw
 have d0:w6.cell? ⟨gw,(R.s s).read,none⟩=some (.int .i64 v):=by rw [dd,hve];simp [intRow]
 have rd0:(0:Int)≤((R.s s).read:Int):=by omega
 have rd1:((R.s s).read:Int)<((R.s s).words.length:Int):=by omega
 have ka0:(0:Int)≤(ka:Int):=by omega
 have ka1:(ka:Int)<4:=by omega
 have ya:w6.cell? ⟨w1.heap.size,2+ka,none⟩=some (.int .i64 ((R.w k).r ka)):=by
  rcases (show ka=0∨ka=1∨ka=2∨ka=3 by omega) with rfl | rfl | rfl | rfl
  ·exact row_cell hbx6 rfl
  ·exact row_cell hbx6 rfl
  ·exact row_cell hbx6 rfl
  ·exact row_cell hbx6 rfl
 have fa:=row_frozen hbx6 (2+ka)
 clear hget hv' hve dd
 go_upto_region 12 with fail
 refine wp_region_still_tail 10 Tryz.mixed (by kernel_rfl) ?_
 simp only [List.take_succ_cons,List.take_zero,List.drop_succ_cons,List.drop_zero]
 iterate 10 still_step
 refine wpStill_nil ?_
 show wpList _ _ _ _ _ w6.drew
 go_upto_region 13 with fail
 have hbx8:((w6.setCell ⟨w1.heap.size,2+ka,none⟩ (.int .i64 v)).drew).heap[w1.heap.size]? = some (.cells #[.slice (some ⟨cb,co,none⟩) (codeOf N k).length cc,.int .i64 ((R.w k).place:Int),.int .i64 (upd (R.w k).r ka v 0),.int .i64 (upd (R.w k).r ka v 1),.int .i64 (upd (R.w k).r ka v 2),.int .i64 (upd (R.w k).r ka v 3),.int .i64 ((R.w k).steps)] 92 (0,0)):=by
  have h1:=blk_set (w:=w6) hbx6 (2+ka) (.int .i64 v)
  refine h1.trans ?_
  congr 2
  rcases (show ka=0∨ka=1∨ka=2∨ka=3 by omega) with rfl | rfl | rfl | rfl<;>simp [upd]
 have hot:∀ b,b≠w1.heap.size→((w6.setCell ⟨w1.heap.size,2+ka,none⟩ (.int .i64 v)).drew).heap[b]? = w6.heap[b]? := fun b hb=>heap_setCell_other _ _ _ _ hb
 have hbi8:=(hot _ (ne_of_types hbi6 hbx6 (by decide))).trans hbi6
 have hbs8:=(hot _ (ne_of_types hbs6 hbx6 (by decide))).trans hbs6
 have hp8:=(hot _ (ne_of_types HR6.out.blk hbx6 (by decide))).trans HR6.out.blk
 have hgl:L.gS<w.heap.size:=lt_of_blk HDs.out.1
 have hgx:L.gS≠w1.heap.size:=by have:=HSx.out;omega
 have hg8:=((hot _ hgx).trans (HB6.out.block _ hgl)).trans HDs.out.1
 have HF8:Hid (Fr (fun b=>b=L.gS) w ((w6.setCell ⟨w1.heap.size,2+ka,none⟩ (.int .i64 v)).drew)):=(Fr.setCell (S:=fun b=>b=L.gS) (Fr.of_below HB6.out) (p:=⟨w1.heap.size,2+ka,none⟩) (Or.inl HSx.out) _).drewN 1
 generalize (w6.setCell ⟨w1.heap.size,2+ka,none⟩ (.int .i64 v)).drew=w8 at *
 clear hot ya fa d0 t0 t1 t2 t3 t4 j1 j2 j3 y0 y1 y2 y3 y4 y5 y6 u1 u6 hbx6 hbi6 hbs6 HB6 HR6
 obtain ⟨t3, -⟩:=blk_cell (l:=[_,_,_,_,_]) hbs8 3 _ rfl
 obtain ⟨j2, -⟩:=blk_cell (l:=[_,_,_,_]) hbi8 2 _ rfl
 obtain ⟨p0, -⟩:=blk_cell (l:=[_,_]) hp8 0 _ rfl
 have c3:w8.cell? ⟨L.gS,s*5+3,none⟩=some (.int .i64 ((R.s s).read:Int)):=row_cell hg8 HDs.out.2
 have g3:=row_frozen hg8 (s*5+3)
 have HX8:=hide hbx8
 have HG8:=hide hg8
 clear hbx8 hbs8 hbi8 hp8 hg8
 refine wp_region_still_tail 11 Tryz.mixed (by kernel_rfl) ?_
 simp only [List.take_succ_cons,List.take_zero,List.drop_succ_cons,List.drop_zero]
 iterate 11 still_step
 refine wpStill_nil ?_
 show wpList _ _ _ _ _ w8.drew
 go_upto_region 31 with fail
 have hot:∀ b,b≠L.gS→((w8.setCell ⟨L.gS,s*5+3,none⟩ (.int .i64 (((R.s s).read:Int)+1))).drew).heap[b]? = w8.heap[b]? := fun b hb=>heap_setCell_other _ _ _ _ hb
 have hx9:=(hot _ (fun e=>hgx e.symm)).trans HX8.out
 have HG9:Hid (((w8.setCell ⟨L.gS,s*5+3,none⟩ (.int .i64 (((R.s s).read:Int)+1))).drew).heap[L.gS]? = some (.cells (ds.set (s*5+3) (.int .i64 (((R.s s).read:Int)+1))).toArray 88 (0,0))):=blk_set (w:=w8) HG8.out _ _
 have HF9:Hid (Fr (fun b=>b=L.gS) w ((w8.setCell ⟨L.gS,s*5+3,none⟩ (.int .i64 (((R.s s).read:Int)+1))).drew)):=(Fr.setCell (S:=fun b=>b=L.gS) HF8.out (p:=⟨L.gS,s*5+3,none⟩) (Or.inr rfl) _).drewN 1
 generalize (w8.setCell ⟨L.gS,s*5+3,none⟩ (.int .i64 (((R.s s).read:Int)+1))).drew=w9 at *
 clear hot c3 g3 t3 j2 p0 HX8 HG8 HF8
 obtain ⟨y1, -⟩:=blk_cell (l:=[_,_,_,_,_,_,_]) hx9 1 _ rfl
 obtain ⟨y6, -⟩:=blk_cell (l:=[_,_,_,_,_,_,_]) hx9 6 _ rfl
 have u1:=row_frozen hx9 1
 have u6:=row_frozen hx9 6
 have HX6:=hide hx9
 clear hx9
 go_upto_region 33 with fail
 have hbx7:((w9.setCell ⟨w1.heap.size,1,none⟩ (.int .i64 (((R.w k).place:Int)+1))).setCell ⟨w1.heap.size,6,none⟩ (.int .i64 (wrap64 ((R.w k).steps+1)))).heap[w1.heap.size]? = some (.cells #[.slice (some ⟨cb,co,none⟩) (codeOf N k).length cc,.int .i64 (((R.w k).place:Int)+1),.int .i64 (upd (R.w k).r ka v 0),.int .i64 (upd (R.w k).r ka v 1),.int .i64 (upd (R.w k).r ka v 2),.int .i64 (upd (R.w k).r ka v 3),.int .i64 (wrap64 ((R.w k).steps+1))] 92 (0,0)):=by
  have h1:=blk_set (w:=w9) HX6.out 1 (.int .i64 (((R.w k).place:Int)+1))
  have h2:=blk_set h1 6 (.int .i64 (wrap64 ((R.w k).steps+1)))
  exact h2
 have hfx:Fr (fun b=>b=w1.heap.size) w9 ((w9.setCell ⟨w1.heap.size,1,none⟩ (.int .i64 (((R.w k).place:Int)+1))).setCell ⟨w1.heap.size,6,none⟩ (.int .i64 (wrap64 ((R.w k).steps+1)))):=Fr.setCell (S:=fun b=>b=w1.heap.size) (Fr.setCell (S:=fun b=>b=w1.heap.size) (Fr.refl _ w9) (p:=⟨w1.heap.size,1,none⟩) (Or.inr rfl) _) (p:=⟨w1.heap.size,6,none⟩) (Or.inr rfl) _
 have HF7:Fr (fun b=>b=L.gS) w ((w9.setCell ⟨w1.heap.size,1,none⟩ (.int .i64 (((R.w k).place:Int)+1))).setCell ⟨w1.heap.size,6,none⟩ (.int .i64 (wrap64 ((R.w k).steps+1)))):=HF9.out.trans (hfx.mono fun b _ e=>e) (fun b hb e=>absurd e (by have:=HSx.out;omega))
 have HG7:=(hfx.block _ (lt_of_blk HG9.out) hgx).trans HG9.out
 obtain ⟨hend,L',R',hR7,e1,e2,e3,e4⟩:=HPut.out _ HF7 HG7
 have HEnd:=hide hend
 obtain ⟨lp,lgS,lgW,lcS,lcW,lVW,lVC⟩:=L'
 obtain ⟨rW,rS⟩:=R'
 dsimp only at e1 e2 e3 e4
 subst e1 e2 e3 e4
 generalize (w9.setCell ⟨w1.heap.size,1,none⟩ (.int .i64 (((R.w k).place:Int)+1))).setCell ⟨w1.heap.size,6,none⟩ (.int .i64 (wrap64 ((R.w k).steps+1)))=w7 at *
 generalize w1.heap.size=xb at *
 clear hfx HX6 y1 y6 u1 u6 HF7 HG7 hend
 obtain ⟨p1, -⟩:=blk_cell (l:=[_,_]) hR7.blk 1 _ rfl
 obtain ⟨y0, -⟩:=blk_cell (l:=[_,_,_,_,_,_,_]) hbx7 0 _ rfl
 obtain ⟨y1, -⟩:=blk_cell (l:=[_,_,_,_,_,_,_]) hbx7 1 _ rfl
 obtain ⟨y2, -⟩:=blk_cell (l:=[_,_,_,_,_,_,_]) hbx7 2 _ rfl
 obtain ⟨y3, -⟩:=blk_cell (l:=[_,_,_,_,_,_,_]) hbx7 3 _ rfl
 obtain ⟨y4, -⟩:=blk_cell (l:=[_,_,_,_,_,_,_]) hbx7 4 _ rfl
 obtain ⟨y5, -⟩:=blk_cell (l:=[_,_,_,_,_,_,_]) hbx7 5 _ rfl
 obtain ⟨y6, -⟩:=blk_cell (l:=[_,_,_,_,_,_,_]) hbx7 6 _ rfl
 have x0:w7.cell? ⟨L.gW,k*7,none⟩=some (L.VC k):=hR7.wc hk 0 _ (by decide) rfl
 have x1:w7.cell? ⟨L.gW,k*7+1,none⟩=some (.int .i64 ((R.w k).place:Int)):=hR7.wc hk 1 _ (by decide) rfl
 have x2:w7.cell? ⟨L.gW,k*7+2,none⟩=some (.int .i64 ((R.w k).r 0)):=hR7.wc hk 2 _ (by decide) rfl
 have x3:w7.cell? ⟨L.gW,k*7+3,none⟩=some (.int .i64 ((R.w k).r 1)):=hR7.wc hk 3 _ (by decide) rfl
 have x4:w7.cell? ⟨L.gW,k*7+4,none⟩=some (.int .i64 ((R.w k).r 2)):=hR7.wc hk 4 _ (by decide) rfl
 have x5:w7.cell? ⟨L.gW,k*7+5,none⟩=some (.int .i64 ((R.w k).r 3)):=hR7.wc hk 5 _ (by decide) rfl
 have x6:w7.cell? ⟨L.gW,k*7+6,none⟩=some (.int .i64 ((R.w k).steps)):=hR7.wc hk 6 _ (by decide) rfl
 obtain ⟨cs,hbW, -⟩:=hR7.rowW
 have f0:w7.frozen? ⟨L.gW,k*7,none⟩=false:=row_frozen hbW _
 have f1:w7.frozen? ⟨L.gW,k*7+1,none⟩=false:=row_frozen hbW _
 have f2:w7.frozen? ⟨L.gW,k*7+2,none⟩=false:=row_frozen hbW _
 have f3:w7.frozen? ⟨L.gW,k*7+3,none⟩=false:=row_frozen hbW _
 have f4:w7.frozen? ⟨L.gW,k*7+4,none⟩=false:=row_frozen hbW _
 have f5:w7.frozen? ⟨L.gW,k*7+5,none⟩=false:=row_frozen hbW _
 have f6:w7.frozen? ⟨L.gW,k*7+6,none⟩=false:=row_frozen hbW _
 clear hbW hR7 hbx7
 refine wp_region_still_tail 7 Tryz.mixed (by kernel_rfl) ?_
 simp only [List.take_succ_cons,List.take_zero,List.drop_succ_cons,List.drop_zero]
 iterate 7 still_step
 refine wpStill_nil ?_
 show wpList _ _ _ _ _ w7.drew
 go_wp2
 go_ret
 refine ⟨rfl,?_⟩
 have:=HEnd.out
 rw [HV.out] at this
 exact this
end Go.Proofs.YthfdgdfnflilfaaGreatDoor

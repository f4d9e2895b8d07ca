/- Part 19: Race3, Race4, Race5, Race6, Race7, Race8. -/
import Derived.Test.YthfdgdfnflilfaaGreatDoorPart7
import Derived.Test.YthfdgdfnflilfaaGreatDoorPart13
import Derived.Test.YthfdgdfnflilfaaGreatDoorPart14
import Derived.Test.YthfdgdfnflilfaaGreatDoorPart15
namespace Go.Proofs.YthfdgdfnflilfaaGreatDoor
open Go.RowKit Go.Conc
set_option maxRecDepth 100000 in
set_option maxHeartbeats 1000000 in
theorem wstep_done {w:World} {b:Nat} {vc va:Value} {code:List Ins} {x:Wk} {n:Nat} {st:Nat→Nat} (hw:WkAt w b vc code x) (ha:Along w va st n) (hi:code[x.place]? = none) :
  Calls Tryz.prog 48 #[.pointer (some ⟨b,0,none⟩),va] w fun e w'=>e=.returned (.int .i64 4)∧Below w.heap.size w w':=by
 obtain ⟨c0,c1, -, -, -, -, -, -⟩:=hw.cells
 obtain ⟨a,cap,hvc,hcap,hcode⟩:=code_form hw.own
 have hle:=hw.le
 have hsm:=hw.small
 have hge:code.length≤x.place:=by
  rcases Nat.lt_or_ge x.place code.length with h | h
  ·rw [List.getElem?_eq_getElem h] at hi;cases hi
  ·exact h
 obtain ⟨ga,gcap,rfl, -, -⟩:=along_at ha
 have hd0:decide ((code.length:Int)≤(x.place:Int))=true:=by simp;omega
 rw [hvc] at c0
 clear hcode hi hw ha hvc
 go_enter Tryz.func48,Tryz.ntmps48
 go_wp2
 refine wp_scope_ahead 0 ?_
 generalize hJ:jumpQ Tryz.prog _ _ 0=J
 have HJ:=hide hJ
 clear hJ
 go_wp2
 go_quiet (fail)
 go_wp2
 rw [← HJ.out]
 refine jumpQ_ret ?_
 go_ret
 exact ⟨rfl,below_drewN (Below.refl _ _) _⟩
def Grew (L:Lay) (N:Net) (w:World) (L':Lay):Prop:=(L'.p=L.p∧L'.vS=L.vS∧L'.vW=L.vW∧L'.wb=L.wb∧L'.st=L.st)∧(∀ b,Foot L' N b→Foot L N b∨w.heap.size≤b)
theorem Grew.refl (L:Lay) (N:Net) (w:World):Grew L N w L:=⟨⟨rfl,rfl,rfl,rfl,rfl⟩,fun _ h=>Or.inl h⟩
theorem grew_vw {L:Lay} {N:Net} {w:World} {s:Nat} {vw':Value} (hs:s<N.streams.length) (hvw:∀ g,vw'.ownBlock=some g→(L.VW s).ownBlock=some g∨w.heap.size≤g):Grew L N w { L with VW:=fun t=>if t=s then vw' else L.VW t}:=by
 refine ⟨⟨rfl,rfl,rfl,rfl,rfl⟩,fun b h=>?_⟩
 rcases h with h | h | h | ⟨t,ht,h⟩ | h
 ·exact Or.inl (Or.inl h)
 ·exact Or.inl (Or.inr (Or.inl h))
 ·exact Or.inl (Or.inr (Or.inr (Or.inl h)))
 ·rcases h with h | h | h
  ·exact Or.inl (Or.inr (Or.inr (Or.inr (Or.inl ⟨t,ht,Or.inl h⟩))))
  ·dsimp only at h
   by_cases e:t=s
   ·subst e
    rw [if_pos rfl] at h
    rcases hvw b h with h1 | h1
    ·exact Or.inl (Or.inr (Or.inr (Or.inr (Or.inl ⟨t,ht,Or.inr (Or.inl h1)⟩))))
    ·exact Or.inr h1
   ·rw [if_neg e] at h
    exact Or.inl (Or.inr (Or.inr (Or.inr (Or.inl ⟨t,ht,Or.inr (Or.inl h)⟩))))
  ·exact Or.inl (Or.inr (Or.inr (Or.inr (Or.inl ⟨t,ht,Or.inr (Or.inr h)⟩))))
 ·exact Or.inl (Or.inr (Or.inr (Or.inr (Or.inr h))))
def Steps1 (L:Lay) (w:World) (N:Net) (R:Rc) (k:Nat) (w':World):Prop:=
 (stateOf N R k≠1∧Below w.heap.size w w')∨(stateOf N R k=1∧∃ L',RaceAt L' w' N (doStep N R k)∧Grew L N w L'∧Fr (Foot L N) w w')
theorem state_of_ins {N:Net} {R:Rc} {k:Nat} {i:Ins} (hi:insAt N k (R.w k)=some i) (h1:i.op≠1) (h2:i.op≠2):stateOf N R k=1:=by
 simp only [stateOf,hi]
 rw [if_neg (fun e=>h1 e.1),if_neg (fun e=>h2 e.1)]
theorem wstep_race {L:Lay} {w:World} {N:Net} {R:Rc} (h:RaceAt L w N R) {k:Nat} (hk:k<N.workers.length) (hsm:∀ s,s<N.streams.length→(R.s s).words.length<4398046511104) :
  Calls Tryz.prog 48 #[.pointer (some ⟨L.wb k,0,none⟩),L.vS] w fun e w'=>e=.returned (.int .i64 (stateOf N R k))∧Steps1 L w N R k w':=by
 have hw:=h.wk k hk
 have hfk:∀ x,x=L.wb k→Foot L N x:=fun x hx=>Or.inr (Or.inr (Or.inr (Or.inr ⟨k,hk,Or.inl hx⟩)))
 cases hi:insAt N k (R.w k) with
 | none=>
  refine (wstep_done hw h.env.along hi).mono fun e w' hh=>?_
  have:stateOf N R k=4:=by simp [stateOf,hi]
  exact ⟨by rw [hh.1,this];rfl,Or.inl ⟨by omega,hh.2⟩⟩
 | some i=>
  have hm:i∈codeOf N k:=List.mem_of_getElem? hi
  have hv:=valid_ins h.ok hk hm
  have hop:=valid_op hv
  have hds:=doStep_some hi
  have al:i.op≠1→i.op≠2→∀ e w',Alone w (L.wb k) (L.VC k) (codeOf N k) (nextW (R.w k) i none) e w'→e=.returned (.int .i64 (stateOf N R k))∧Steps1 L w N R k w':=by
   intro o1 o2 e w' hh
   have hs1:=state_of_ins hi o1 o2
   refine ⟨by rw [hh.1,hs1];rfl,Or.inr ⟨hs1,L,?_,Grew.refl _ _ _,hh.2.2.mono fun x _ hx=>hfk x hx⟩⟩
   rw [hds,nextW_congr _ _ _ none o1]
   have e2:nextS R (R.w k) i=R.S:=by simp [nextS,o1,o2]
   rw [e2]
   exact h.alone hk hh.2.1 hh.2.2
  by_cases o1:i.op=1
  ·have hb:=valid_stream hv (Or.inl o1)
   have hs:i.b.toNat<N.streams.length:=by omega
   refine (wstep_read hw h.env i hi hv o1 ((h.codeOk hk).rd i hm o1)).mono fun e w' hh=>?_
   rcases hh with ⟨h1,h2,h3,h4⟩ | ⟨h1,h2,h3,h4,h5⟩
   ·have:stateOf N R k=2:=by simp only [stateOf,hi];rw [if_pos ⟨o1,h2,h3⟩]
    exact ⟨by rw [h1,this];rfl,Or.inl ⟨by omega,h4⟩⟩
   ·have hs1:stateOf N R k=1:=by
     simp only [stateOf,hi];rw [if_neg (fun e=>h2 e.2),if_neg (fun e=>by omega)]
    refine ⟨by rw [h1,hs1];rfl,Or.inr ⟨hs1,_,?_,grew_vw hs (fun g hg=>Or.inl hg),?_⟩⟩
    ·rw [hds]
     have e2:nextS R (R.w k) i=R.S.set i.b.toNat { R.s i.b.toNat with read:=if (R.s i.b.toNat).read<(R.s i.b.toNat).words.length then (R.s i.b.toNat).read+1 else (R.s i.b.toNat).read}:=by simp [nextS,o1]
     rw [e2]
     refine h.upd hk hs h3 h4 (fun g hg=>Or.inl hg) (h5.mono fun x _ hx=>?_)
     rcases hx with hx | hx | hx
     ·exact Or.inl hx
     ·exact Or.inr (Or.inl hx)
     ·exact Or.inr (Or.inr (Or.inr hx))
    ·refine h5.mono fun x _ hx=>?_
     rcases hx with hx | hx | hx
     ·exact hfk x hx
     ·exact Or.inr (Or.inr (Or.inr (Or.inl ⟨_,hs,Or.inl hx⟩)))
     ·exact Or.inr (Or.inr (Or.inr (Or.inl ⟨_,hs,Or.inr (Or.inr hx)⟩)))
  by_cases o2:i.op=2
  ·have hb:=valid_stream hv (Or.inr o2)
   have hs:i.b.toNat<N.streams.length:=by omega
   have hq:=(h.codeOk hk).wr i hm o2
   have hue:=h.ch _ hs hq
   have fin:∀ e w',StepWrite w (L.wb k) (L.VC k) (codeOf N k) (R.w k) i L.st L.VW L.CH R.s e w'→e=.returned (.int .i64 (stateOf N R k))∧Steps1 L w N R k w':=by
    intro e w' hh
    rcases hh with ⟨h1,h2,h3,h4⟩ | ⟨h1,h2,h3,vw',h4,h5,h6⟩
    ·have hu:used N i.b.toNat=true:=hue.1 (by cases hc:L.CH i.b.toNat with | none=>exact absurd hc h2 | some c=>rfl)
     have:stateOf N R k=3:=by simp only [stateOf,hi];rw [if_neg (fun e=>by omega),if_pos ⟨o2,hu,h3⟩]
     exact ⟨by rw [h1,this];rfl,Or.inl ⟨by omega,h4⟩⟩
    ·have hs1:stateOf N R k=1:=by
      simp only [stateOf,hi]
      rw [if_neg (fun e=>by omega),if_neg]
      rintro ⟨_,e1,e2⟩
      refine h2 ⟨fun hc=>?_,e2⟩
      have:=hue.2 e1
      rw [hc] at this;cases this
     refine ⟨by rw [h1,hs1];rfl,Or.inr ⟨hs1,_,?_,grew_vw hs h4,?_⟩⟩
     ·rw [hds,nextW_congr _ _ _ none o1]
      have e2:nextS R (R.w k) i=R.S.set i.b.toNat { R.s i.b.toNat with words:=(R.s i.b.toNat).words++[(R.w k).r i.a.toNat]}:=by simp [nextS,o2]
      rw [e2]
      rw [← hq] at h5
      exact h.upd hk hs h3 h5 h4 h6
     ·refine h6.mono fun x _ hx=>?_
      rcases hx with hx | hx | hx | hx
      ·exact hfk x hx
      ·exact Or.inr (Or.inr (Or.inr (Or.inl ⟨_,hs,Or.inl hx⟩)))
      ·exact Or.inr (Or.inr (Or.inr (Or.inl ⟨_,hs,Or.inr (Or.inl hx)⟩)))
      ·exact Or.inr (Or.inr (Or.inr (Or.inl ⟨_,hs,Or.inr (Or.inr hx)⟩)))
   by_cases hf:L.CH i.b.toNat≠none∧(R.s i.b.toNat).room≤(R.s i.b.toNat).words.length-(R.s i.b.toNat).read
   ·exact (wstep_write_no hw h.env i hi hv o2 hq (hsm _ hs) hf).mono fin
   ·exact (wstep_write_yes hw h.env i hi hv o2 hq (hsm _ hs) hf).mono fin
  by_cases o3:i.op=3
  ·exact (wstep_set hw h.env.along i hi hv o3).mono (al o1 o2)
  by_cases o8:i.op=8
  ·by_cases hz:(R.w k).r i.a.toNat=0
   ·exact (wstep_if_no hw h.env.along i hi hv o8 hz).mono (al o1 o2)
   ·exact (wstep_if_yes hw h.env.along i hi hv o8 hz).mono (al o1 o2)
  by_cases o9:i.op=9
  ·exact (wstep_goto hw h.env.along i hi hv o9).mono (al o1 o2)
  ·exact (wstep_alu hw h.env.along i hi hv (by omega)).mono (al o1 o2)
theorem RaceAt.forms {L:Lay} {w:World} {N:Net} {R:Rc} (h:RaceAt L w N R):∃ ga ca gw cw,L.vS=.slice (some ⟨ga,0,none⟩) N.streams.length ca∧L.vW=.slice (some ⟨gw,0,none⟩) N.workers.length cw ∧
  ∀ wr,Below w.heap.size w wr→wr.cell? ⟨L.p,0,none⟩=some L.vS∧wr.cell? ⟨L.p,1,none⟩=some L.vW∧(∀ s,s<N.streams.length→wr.cell? ⟨ga,s,none⟩=some (.pointer (some ⟨L.st s,0,none⟩)))∧(∀ k,k<N.workers.length→wr.cell? ⟨gw,k,none⟩=some (.pointer (some ⟨L.wb k,0,none⟩))):=by
 obtain ⟨ga,ca,hva, -,hal⟩:=along_at h.env.along
 obtain ⟨gw,cw,hvw,cs,hg,hcs⟩:=h.rowW
 refine ⟨ga,ca,gw,cw,hva,hvw,fun wr hb=>⟨(h.below hb).cells.1,(h.below hb).cells.2,fun s hs=>hal wr hb s hs,fun k hk=>?_⟩⟩
 rw [hb.cell (p:=⟨gw,k,none⟩) (lt_of_blk hg)]
 exact row_cell hg (hcs k hk)
set_option maxHeartbeats 400000 in
theorem hasWorker_calls {L:Lay} {w:World} {N:Net} {R:Rc} (h:RaceAt L w N R) (k:Int) :
  Calls Tryz.prog 47 #[.pointer (some ⟨L.p,0,none⟩),.int .i64 k] w fun e w'=>e=.returned (.bool (inB k N.workers.length))∧w'=w:=by
 obtain ⟨ga,ca,gw,cw,hva,hvw,hc⟩:=h.forms
 obtain ⟨c0,c1, -, -⟩:=hc w (Below.refl _ _)
 rw [hvw] at c1
 rw [hva] at c0
 clear hc h
 by_cases h0:0≤k
 ·go_enter Tryz.func47,Tryz.ntmps47
  go_wp2
  go_ret
  exact ⟨ret_bool (by simp [inB,h0]),rfl⟩
 ·have h0':decide (0≤k)=false:=by simpa using h0
  go_enter Tryz.func47,Tryz.ntmps47
  go_wp2
  go_ret
  exact ⟨ret_bool (by simp [inB];omega),rfl⟩
set_option maxHeartbeats 400000 in
theorem hasStream_calls {L:Lay} {w:World} {N:Net} {R:Rc} (h:RaceAt L w N R) (k:Int) :
  Calls Tryz.prog 20 #[.pointer (some ⟨L.p,0,none⟩),.int .i64 k] w fun e w'=>e=.returned (.bool (inB k N.streams.length))∧w'=w:=by
 obtain ⟨ga,ca,gw,cw,hva,hvw,hc⟩:=h.forms
 obtain ⟨c0,c1, -, -⟩:=hc w (Below.refl _ _)
 rw [hvw] at c1
 rw [hva] at c0
 clear hc h
 by_cases h0:0≤k
 ·go_enter Tryz.func20,Tryz.ntmps20
  go_wp2
  go_ret
  exact ⟨ret_bool (by simp [inB,h0]),rfl⟩
 ·have h0':decide (0≤k)=false:=by simpa using h0
  go_enter Tryz.func20,Tryz.ntmps20
  go_wp2
  go_ret
  exact ⟨ret_bool (by simp [inB];omega),rfl⟩
theorem Steps1.after {L:Lay} {w w1 w':World} {N:Net} {R:Rc} {k:Nat} (hb:Below w.heap.size w w1) (h:Steps1 L w1 N R k w'):Steps1 L w N R k w':=by
 rcases h with ⟨h1,h2⟩ | ⟨h1,L',h2,h3,h4⟩
 ·exact Or.inl ⟨h1,hb.trans (h2.mono hb.size)⟩
 ·exact Or.inr ⟨h1,L',h2,⟨h3.1,fun b hb'=>(h3.2 b hb').imp id (Nat.le_trans hb.size)⟩,(Fr.of_below hb).trans h4 (fun _ _ hx=>hx)⟩
def SmallR (N:Net) (R:Rc):Prop:=∀ s,s<N.streams.length→(R.s s).words.length<4398046511104
set_option maxHeartbeats 1000000 in
theorem rstep_out {L:Lay} {w:World} {N:Net} {R:Rc} (h:RaceAt L w N R) (k:Int) (hk:inB k N.workers.length=false) :
  Calls Tryz.prog 19 #[.pointer (some ⟨L.p,0,none⟩),.int .i64 k] w fun e w'=>e=.returned (.tuple #[.int .i64 0,.int .i64 2])∧w'=w:=by
 have HH:=hide (hasWorker_calls h k)
 rw [hk] at HH
 go_enter Tryz.func19,Tryz.ntmps19
 go_wp2_with fail
 refine (unhide HH).mono ?_
 rintro e w1 ⟨rfl,rfl⟩
 go_wp2
 go_ret2
 exact ⟨rfl,rfl⟩
set_option maxHeartbeats 1000000 in
theorem rstep_calls {L:Lay} {w:World} {N:Net} {R:Rc} (h:RaceAt L w N R) (k:Nat) (hk:k<N.workers.length) (hsm:SmallR N R) :
  Calls Tryz.prog 19 #[.pointer (some ⟨L.p,0,none⟩),.int .i64 k] w fun e w'=>e=.returned (.tuple #[.int .i64 (stateOf N R k),.int .i64 0])∧Steps1 L w N R k w':=by
 have hin:inB (k:Int) N.workers.length=true:=by simp [inB];omega
 have HH:=hide (hasWorker_calls h k)
 rw [hin] at HH
 have hlen:=(valid_counts h.ok).2.2.2
 obtain ⟨ga,ca,gw,cw,hva,hvw,hc⟩:=h.forms
 obtain ⟨c0,c1, -,c3⟩:=hc w (Below.refl _ _)
 have d0:=c3 k hk
 have HP:Hid (∀ wx,(∃ q,wx=w.drewN q)→Calls Tryz.prog 48 #[.pointer (some ⟨L.wb k,0,none⟩),.slice (some ⟨ga,0,none⟩) N.streams.length ca] wx fun e w'=>e=.returned (.int .i64 (stateOf N R k))∧(w'.cell? ⟨L.p,0,none⟩=some (.slice (some ⟨ga,0,none⟩) N.streams.length ca)∧w'.cell? ⟨L.p,1,none⟩=some (.slice (some ⟨gw,0,none⟩) N.workers.length cw)∧w'.cell? ⟨gw,k,none⟩=some (.pointer (some ⟨L.wb k,0,none⟩)))∧Steps1 L w N R k w'):=by
  rintro wx ⟨q,rfl⟩
  have hx:Below w.heap.size w (w.drewN q):=below_drewN (Below.refl _ _) q
  rw [← hva]
  refine (wstep_race (h.below hx) hk hsm).mono fun e w' hh=>⟨hh.1,?_,hh.2.after hx⟩
  obtain ⟨L',hr,hg⟩:∃ L',(∃ R',RaceAt L' w' N R')∧Grew L N w L':=by
   rcases hh.2 with ⟨_,h2⟩ | ⟨_,L',h2,h3,_⟩
   ·exact ⟨L,⟨R,(h.below hx).below h2⟩,Grew.refl _ _ _⟩
   ·exact ⟨L',⟨_,h2⟩,h3⟩
  obtain ⟨R',hr⟩:=hr
  obtain ⟨⟨g1,g2,g3,g4,g5⟩, -⟩:=hg
  obtain ⟨ga',ca',gw',cw',hva',hvw',hc'⟩:=hr.forms
  obtain ⟨x0,x1, -,x3⟩:=hc' w' (Below.refl _ _)
  rw [g1,g2] at x0
  rw [g1,g3] at x1
  have x3:=x3 k hk
  rw [g4] at x3
  rw [g3,hvw] at hvw'
  cases hvw'
  exact ⟨x0,by rw [x1,hvw],x3⟩
 rw [hva] at c0
 rw [hvw] at c1
 have hk0:(0:Int)≤(k:Int):=by omega
 have hk1:(k:Int)<(N.workers.length:Int):=by omega
 clear hc c3 hin h hsm hva hvw
 generalize stateOf N R k=sv at *
 generalize N.streams.length=sl at *
 generalize N.workers.length=wl at *
 go_enter Tryz.func19,Tryz.ntmps19
 go_wp2_with fail
 refine (unhide HH).mono ?_
 rintro e w1 ⟨rfl,rfl⟩
 go_wp2
 go_region_held3 (fun w'=>w'.cell? ⟨L.p,0,none⟩=some (.slice (some ⟨ga,0,none⟩) sl ca)∧w'.cell? ⟨L.p,1,none⟩=some (.slice (some ⟨gw,0,none⟩) wl cw)∧w'.cell? ⟨gw,k,none⟩=some (.pointer (some ⟨L.wb k,0,none⟩))) (go_keep)
  ((go_at_call 48;refine (unhide HP _ ⟨1,rfl⟩).mono ?_;rintro e w3 ⟨rfl,⟨s1,s2,s3⟩,hst⟩))
 go_wp2
 go_ret2
 exact ⟨rfl,hst⟩
set_option maxHeartbeats 1000000 in
theorem rroom_calls {L:Lay} {w:World} {N:Net} {R:Rc} (h:RaceAt L w N R) (s:Nat) (hs:s<N.streams.length) :
  Calls Tryz.prog 66 #[.pointer (some ⟨L.p,0,none⟩),.int .i64 s] w fun e w'=>e=.returned (.tuple #[.int .i64 (if (L.CH s).isSome then ((R.s s).room:Int) else 0),.int .i64 (if (L.CH s).isSome then (((R.s s).words.length-(R.s s).read:Nat):Int) else 0),.int .i64 0])∧Below w.heap.size w w':=by
 have hin:inB (s:Int) N.streams.length=true:=by simp [inB];omega
 have HH:=hide (hasStream_calls h s)
 rw [hin] at HH
 have hlen:=(valid_counts h.ok).2.1
 obtain ⟨ga,ca,gw,cw,hva,hvw,hc⟩:=h.forms
 obtain ⟨c0,c1,c2, -⟩:=hc w (Below.refl _ _)
 have d0:=c2 s hs
 have HP:=hide (sroom_calls (h.env.at' s hs))
 rw [hva] at c0
 rw [hvw] at c1
 have hk0:(0:Int)≤(s:Int):=by omega
 have hk1:(s:Int)<(N.streams.length:Int):=by omega
 clear hc c2 hin h hva hvw
 generalize (if (L.CH s).isSome then ((R.s s).room:Int) else 0)=v0 at *
 generalize (if (L.CH s).isSome then (((R.s s).words.length-(R.s s).read:Nat):Int) else 0)=v1 at *
 generalize N.streams.length=sl at *
 generalize N.workers.length=wl at *
 go_enter Tryz.func66,Tryz.ntmps66
 go_wp2_with fail
 refine (unhide HH).mono ?_
 rintro e w1 ⟨rfl,rfl⟩
 go_wp2_with fail
 refine (unhide HP).mono ?_
 rintro e w2 ⟨rfl,q,rfl⟩
 go_wp2
 go_ret3
 exact ⟨rfl,below_drewN (Below.refl _ _) q⟩
set_option maxRecDepth 100000 in
set_option maxHeartbeats 1000000 in
theorem rlook_calls {L:Lay} {w:World} {N:Net} {R:Rc} (h:RaceAt L w N R) (k:Nat) (hk:k<N.workers.length) :
  Calls Tryz.prog 62 #[.pointer (some ⟨L.p,0,none⟩),.int .i64 k] w fun e w'=>e=.returned (.tuple #[lookVal (R.w k) (stateOf N R k),.int .i64 0])∧Below w.heap.size w w':=by
 have hin:inB (k:Int) N.workers.length=true:=by simp [inB];omega
 have hlen:=(valid_counts h.ok).2.2.2
 obtain ⟨ga,ca,gw,cw,hva,hvw,hc⟩:=h.forms
 have HH:Hid (∀ wx,Below w.heap.size w wx→Calls Tryz.prog 47 #[.pointer (some ⟨L.p,0,none⟩),.int .i64 k] wx fun e w'=>e=.returned (.bool true)∧w'=wx):=fun wx hx=>by
  have:=hasWorker_calls (h.below hx) k;rw [hin] at this;exact this
 have HS:Hid (∀ wx,Below (w.heap.size+1) (w.alloc (.cells #[.int .i64 0,.int .i64 0,.int .i64 0,.int .i64 0,.int .i64 0,.int .i64 0,.int .i64 0] 123)) wx→Calls Tryz.prog 85 #[.pointer (some ⟨L.wb k,0,none⟩),.slice (some ⟨ga,0,none⟩) N.streams.length ca] wx fun e w'=>e=.returned (lookVal (R.w k) (stateOf N R k)) ∧
   (w'.cell? ⟨L.p,0,none⟩=some (.slice (some ⟨ga,0,none⟩) N.streams.length ca)∧w'.cell? ⟨L.p,1,none⟩=some (.slice (some ⟨gw,0,none⟩) N.workers.length cw)∧w'.cell? ⟨gw,k,none⟩=some (.pointer (some ⟨L.wb k,0,none⟩))) ∧
   w'.heap[w.heap.size]? = some (.cells #[.int .i64 0,.int .i64 0,.int .i64 0,.int .i64 0,.int .i64 0,.int .i64 0,.int .i64 0] 123 (0,0)) ∧
   Below w.heap.size w w'):=fun wx hx=>by
  have hr:=h.below (below_box hx)
  rw [← hva]
  refine (wlook_calls (hr.wk k hk) hr.env (hr.codeOk hk)).mono fun e w' hh=>?_
  have hx':=hx.trans (hh.2.mono (by have:=hx.size;simpa using this))
  obtain ⟨x0,x1, -,x3⟩:=hc w' (below_box hx')
  refine ⟨by rw [hh.1,hr.state hk],⟨by rw [x0],by rw [x1,hvw],x3 k hk⟩,?_,below_box hx'⟩
  rw [hx'.block _ (by omega)]
  exact heap_alloc_new _ _
 obtain ⟨c0,c1, -,c3⟩:=hc w (Below.refl _ _)
 have d0:=c3 k hk
 rw [hva] at c0
 rw [hvw] at c1
 have hk0:(0:Int)≤(k:Int):=by omega
 have hk1:(k:Int)<(N.workers.length:Int):=by omega
 have hb1:Below w.heap.size w (w.alloc (.cells #[.int .i64 0,.int .i64 0,.int .i64 0,.int .i64 0,.int .i64 0,.int .i64 0,.int .i64 0] 123)):=(Below.refl _ _).alloc (Nat.le_refl _) _
 have HB1:=hide hb1
 have n0:=World.new_ne w _ c0
 have n1:=World.new_ne w _ d0
 clear hc c3 hin h hva hvw hb1
 simp only [lookVal] at HS ⊢
 generalize (stateOf N R k:Int)=sv at *
 generalize ((R.w k).place:Int)=pl at *
 generalize (R.w k).r 0=r0 at *
 generalize (R.w k).r 1=r1 at *
 generalize (R.w k).r 2=r2 at *
 generalize (R.w k).r 3=r3 at *
 generalize (R.w k).steps=sp at *
 generalize N.streams.length=sl at *
 generalize N.workers.length=wl at *
 go_enter Tryz.func62,Tryz.ntmps62
 go_wp2_with fail
 refine (unhide HH _ HB1.out).mono ?_
 rintro e w1 ⟨rfl,rfl⟩
 go_wp2
 have hb0:Below (w.heap.size+1) (w.alloc (.cells #[.int .i64 0,.int .i64 0,.int .i64 0,.int .i64 0,.int .i64 0,.int .i64 0,.int .i64 0] 123)) (w.alloc (.cells #[.int .i64 0,.int .i64 0,.int .i64 0,.int .i64 0,.int .i64 0,.int .i64 0,.int .i64 0] 123)):=Below.refl _ _
 go_region_held3 (fun w'=>w'.cell? ⟨L.p,0,none⟩=some (.slice (some ⟨ga,0,none⟩) sl ca)∧w'.cell? ⟨L.p,1,none⟩=some (.slice (some ⟨gw,0,none⟩) wl cw)∧w'.cell? ⟨gw,k,none⟩=some (.pointer (some ⟨L.wb k,0,none⟩))) (go_keep)
  ((go_at_call 85;refine (unhide HS _ ?_).mono ?_; (repeat (first | exact hb0 | apply Below.drew | apply below_drewN));rintro e w1 ⟨rfl,⟨s1,s2,s3⟩,t0,hb1⟩;have z0:=blk_cell t0 0 _ rfl;have z1:=blk_cell t0 1 _ rfl;have z2:=blk_cell t0 2 _ rfl;have z3:=blk_cell t0 3 _ rfl;have z4:=blk_cell t0 4 _ rfl;have z5:=blk_cell t0 5 _ rfl;have z6:=blk_cell t0 6 _ rfl))
 go_wp2
 refine bodyPost_ret (v:=.tuple #[.agg #[.int .i64 pl,.int .i64 r0,.int .i64 r1,.int .i64 r2,.int .i64 r3,.int .i64 sp,.int .i64 sv],.int .i64 0]) ?_ rfl ⟨rfl,?_⟩
 ·simp [results,Tryz.results62,go_sem,z0,z1,z2,z3,z4,z5,z6]
 ·exact below_set7 hb1 _ _ _ _ _ _ _
def goesB (N:Net) (R:Rc) (n:Nat):Bool:=(List.range n).any fun k=>stateOf N R k == 1
theorem range_any_succ (p:Nat→Bool) (k:Nat):(List.range (k+1)).any p=((List.range k).any p || p k):=by
 rw [List.range_succ,List.any_append];simp
theorem range_any_of {p:Nat→Bool} {n k:Nat} (h:k<n) (hp:p k=true):(List.range n).any p=true:=List.any_eq_true.2 ⟨k,List.mem_range.2 h,hp⟩
set_option maxHeartbeats 1000000 in
theorem canGoOn_calls {L:Lay} {w:World} {N:Net} {R:Rc} (h:RaceAt L w N R) :
  Calls Tryz.prog 68 #[.pointer (some ⟨L.p,0,none⟩)] w fun e w'=>e=.returned (.bool (goesB N R N.workers.length))∧Below w.heap.size w w':=by
 have hlen:=(valid_counts h.ok).2.2.2
 obtain ⟨ga,ca,gw,cw,hva,hvw,hc⟩:=h.forms
 have HS:Hid (∀ wx,Below w.heap.size w wx→∀ k,k<N.workers.length→Calls Tryz.prog 87 #[.pointer (some ⟨L.wb k,0,none⟩),.slice (some ⟨ga,0,none⟩) N.streams.length ca] wx fun e w'=>e=.returned (.int .i64 (stateOf N R k))∧Below w.heap.size w w'):=fun wx hx k hk=>by
  have hr:=h.below hx
  rw [← hva]
  refine (wstate_calls (hr.wk k hk) hr.env (hr.codeOk hk)).mono fun e w' hh=>?_
  exact ⟨by rw [hh.1,hr.state hk],hx.trans (hh.2.mono hx.size)⟩
 have HC:Hid (∀ wx,Below w.heap.size w wx→wx.cell? ⟨L.p,0,none⟩=some (.slice (some ⟨ga,0,none⟩) N.streams.length ca)∧wx.cell? ⟨L.p,1,none⟩=some (.slice (some ⟨gw,0,none⟩) N.workers.length cw)∧∀ k,k<N.workers.length→wx.cell? ⟨gw,k,none⟩=some (.pointer (some ⟨L.wb k,0,none⟩))):=fun wx hx=>by
  obtain ⟨x0,x1, -,x3⟩:=hc wx hx
  exact ⟨by rw [x0,hva],by rw [x1,hvw],x3⟩
 obtain ⟨c0,c1, -⟩:=HC.out w (Below.refl _ _)
 clear hc hva hvw h
 generalize N.streams.length=sl at *
 generalize N.workers.length=wl at *
 go_enter Tryz.func68,Tryz.ntmps68
 go_wp2
 go_loopw [10] (fun i wr=>∃ k:Nat,k≤wl∧i=.int .i64 k∧Below w.heap.size w wr∧goesB N R k=false) (fun i _=>wl-(intOf i).toNat)
 case atStart=>exact ⟨0,Nat.zero_le _,rfl,Below.refl _ _,rfl⟩
 case round=>
  obtain ⟨k,hk,rfl,hbl,hno⟩:=hrel
  have HNo:=hide hno
  clear hno
  by_cases hlt:k<wl
  ·obtain ⟨e0,e1,e2⟩:=HC.out wr hbl
   have e3:=e2 k hlt
   have HS1:=hide (HS.out wr hbl k hlt)
   have HG:Hid (goesB N R (k+1)=(goesB N R k || (stateOf N R k == 1))):=range_any_succ _ k
   have HH:Hid ((stateOf N R k == 1)=true→goesB N R wl=true):=fun hp=>range_any_of hlt hp
   clear e2 HS HC
   by_cases hy:stateOf N R k=1
   ·rw [hy] at HS1 HH
    have HH':=hide (HH.out rfl)
    clear HH HG
    go_wp2_with fail
    refine (unhide HS1).mono ?_
    rintro e w1 ⟨rfl,hb1⟩
    go_wp2
    go_ret
    exact ⟨ret_bool HH'.out.symm,hb1⟩
   ·have hz:((stateOf N R k:Int) == 1)=false:=by simp;omega
    have HG':Hid (goesB N R (k+1)=false):=by
     have:=HG.out;rw [HNo.out] at this;rw [this];show (stateOf N R k == 1)=false;simpa using hy
    clear HH HG
    generalize stateOf N R k=sv at *
    go_wp2_with fail
    refine (unhide HS1).mono ?_
    rintro e w1 ⟨rfl,hb1⟩
    go_wp2
    go_roundw
    case rel=>exact ⟨k+1,by omega,by go_num,hb1,HG'.out⟩
    case measure=>simp [intOf];omega
  ·go_wp2
   go_ret
   have e:k=wl:=by omega
   exact ⟨ret_bool (by have:=HNo.out;rw [e] at this;exact this.symm),hbl⟩
def wantsB (N:Net) (R:Rc) (s:Int) (k:Nat):Bool:=stateOf N R k == 3 && (match insAt N k (R.w k) with | some i=>i.b == s | none=>false)
def needsB (N:Net) (R:Rc) (s:Int) (n:Nat):Bool:=(List.range n).any (wantsB N R s)
set_option maxHeartbeats 1000000 in
theorem rneedsRoom_calls {L:Lay} {w:World} {N:Net} {R:Rc} (h:RaceAt L w N R) (s:Int) :
  Calls Tryz.prog 86 #[.pointer (some ⟨L.p,0,none⟩),.int .i64 s] w fun e w'=>e=.returned (.bool (needsB N R s N.workers.length))∧Below w.heap.size w w':=by
 have hlen:=(valid_counts h.ok).2.2.2
 obtain ⟨ga,ca,gw,cw,hva,hvw,hc⟩:=h.forms
 have HS:Hid (∀ wx,Below w.heap.size w wx→∀ k,k<N.workers.length→Calls Tryz.prog 95 #[.pointer (some ⟨L.wb k,0,none⟩),.slice (some ⟨ga,0,none⟩) N.streams.length ca] wx fun e w'=>((∃ b,e=.returned (.tuple #[.int .i64 b,.bool true])∧wantsB N R s k=(b == s))∨(e=.returned (.tuple #[.int .i64 0,.bool false])∧wantsB N R s k=false))∧Below w.heap.size w w'):=fun wx hx k hk=>by
  have hr:=h.below hx
  rw [← hva]
  refine (needsRoom_calls (hr.wk k hk) hr.env (hr.codeOk hk)).mono fun e w' hh=>?_
  refine ⟨?_,hx.trans (hh.2.mono hx.size)⟩
  rcases hh.1 with ⟨h3,i,hi,he⟩ | ⟨h3,he⟩
  ·rw [hr.state hk] at h3
   have hi':insAt N k (R.w k)=some i:=hi
   exact Or.inl ⟨i.b,he,by simp [wantsB,h3,hi']⟩
  ·rw [hr.state hk] at h3
   exact Or.inr ⟨he,by simp [wantsB,h3]⟩
 have HC:Hid (∀ wx,Below w.heap.size w wx→wx.cell? ⟨L.p,0,none⟩=some (.slice (some ⟨ga,0,none⟩) N.streams.length ca)∧wx.cell? ⟨L.p,1,none⟩=some (.slice (some ⟨gw,0,none⟩) N.workers.length cw)∧∀ k,k<N.workers.length→wx.cell? ⟨gw,k,none⟩=some (.pointer (some ⟨L.wb k,0,none⟩))):=fun wx hx=>by
  obtain ⟨x0,x1, -,x3⟩:=hc wx hx
  exact ⟨by rw [x0,hva],by rw [x1,hvw],x3⟩
 obtain ⟨c0,c1, -⟩:=HC.out w (Below.refl _ _)
 clear hc hva hvw h
 generalize N.streams.length=sl at *
 generalize N.workers.length=wl at *
 go_enter Tryz.func86,Tryz.ntmps86
 go_wp2
 go_loopw [14] (fun i wr=>∃ k:Nat,k≤wl∧i=.int .i64 k∧Below w.heap.size w wr∧needsB N R s k=false) (fun i _=>wl-(intOf i).toNat)
 case atStart=>exact ⟨0,Nat.zero_le _,rfl,Below.refl _ _,rfl⟩
 case round=>
  obtain ⟨k,hk,rfl,hbl,hno⟩:=hrel
  have HNo:=hide hno
  clear hno
  by_cases hlt:k<wl
  ·obtain ⟨e0,e1,e2⟩:=HC.out wr hbl
   have e3:=e2 k hlt
   have HS1:=hide (HS.out wr hbl k hlt)
   have HG:Hid (needsB N R s (k+1)=(needsB N R s k || wantsB N R s k)):=range_any_succ _ k
   have HH:Hid (wantsB N R s k=true→needsB N R s wl=true):=fun hp=>range_any_of hlt hp
   clear e2 HS HC
   generalize wantsB N R s k=wv at *
   go_wp2_with fail
   refine (unhide HS1).mono ?_
   rintro e w1 ⟨⟨b,rfl,hy⟩ | ⟨rfl,hy⟩,hb1⟩
   ·subst hy
    by_cases hbs:b=s
    ·subst hbs
     have HH':=hide (HH.out (by simp))
     clear HH HG
     go_wp2
     go_ret
     exact ⟨ret_bool HH'.out.symm,hb1⟩
    ·have hz:(b == s)=false:=by simpa using hbs
     have HG':Hid (needsB N R s (k+1)=false):=by
      have:=HG.out;rw [HNo.out,hz] at this;rw [this];rfl
     clear HH HG hbs
     go_wp2
     go_roundw
     case rel=>exact ⟨k+1,by omega,by go_num,hb1,HG'.out⟩
     case measure=>simp [intOf];omega
   ·subst hy
    have HG':Hid (needsB N R s (k+1)=false):=by
     have:=HG.out;rw [HNo.out] at this;rw [this];rfl
    clear HH HG
    go_wp2
    go_roundw
    case rel=>exact ⟨k+1,by omega,by go_num,hb1,HG'.out⟩
    case measure=>simp [intOf];omega
  ·go_wp2
   go_ret
   have e:k=wl:=by omega
   exact ⟨ret_bool (by have:=HNo.out;rw [e] at this;exact this.symm),hbl⟩
def firstGo (N:Net) (R:Rc) (n:Nat):Option Nat:=(List.range n).find? fun k=>stateOf N R k == 1
theorem firstGo_none {N:Net} {R:Rc} {n:Nat} (h:goesB N R n=false):firstGo N R n=none:=by
 simp only [firstGo,List.find?_eq_none,goesB] at *
 intro x hx hp
 have:=List.any_eq_false.1 h x hx
 exact this hp
theorem firstGo_some {N:Net} {R:Rc} {n k:Nat} (h:goesB N R k=false) (hk:k<n) (hp:stateOf N R k=1):firstGo N R n=some k:=by
 have e:List.range n=List.range k++(List.range (n-k)).map (k + ·):=by
  rw [← List.range_add];congr 1;omega
 have hn:=firstGo_none h
 unfold firstGo at hn ⊢
 rw [e,List.find?_append,hn]
 obtain ⟨m,hm⟩:∃ m,n-k=m+1:=⟨n-k-1,by omega⟩
 rw [hm,List.range_succ_eq_map]
 simp [hp]
def Firsts (L:Lay) (w:World) (N:Net) (R:Rc) (w':World):Prop:=
 (firstGo N R N.workers.length=none∧Below w.heap.size w w') ∨
 (∃ k,k<N.workers.length∧stateOf N R k=1∧firstGo N R N.workers.length=some k∧∃ L',RaceAt L' w' N (doStep N R k)∧Grew L N w L'∧Fr (Foot L N) w w')
set_option maxHeartbeats 1000000 in
theorem stepFirst_calls {L:Lay} {w:World} {N:Net} {R:Rc} (h:RaceAt L w N R) (hsm:SmallR N R) :
  Calls Tryz.prog 71 #[.pointer (some ⟨L.p,0,none⟩)] w fun e w'=>e=.returned (.bool (firstGo N R N.workers.length).isSome)∧Firsts L w N R w':=by
 have hlen:=(valid_counts h.ok).2.2.2
 obtain ⟨ga,ca,gw,cw,hva,hvw,hc⟩:=h.forms
 have HS:Hid (∀ wx,Below w.heap.size w wx→∀ k,k<N.workers.length→Calls Tryz.prog 48 #[.pointer (some ⟨L.wb k,0,none⟩),.slice (some ⟨ga,0,none⟩) N.streams.length ca] wx fun e w'=>e=.returned (.int .i64 (stateOf N R k))∧Steps1 L w N R k w'):=fun wx hx k hk=>by
  have hr:=h.below hx
  rw [← hva]
  refine (wstep_race hr hk hsm).mono fun e w' hh=>?_
  exact ⟨hh.1,hh.2.after hx⟩
 have HC:Hid (∀ wx,Below w.heap.size w wx→wx.cell? ⟨L.p,0,none⟩=some (.slice (some ⟨ga,0,none⟩) N.streams.length ca)∧wx.cell? ⟨L.p,1,none⟩=some (.slice (some ⟨gw,0,none⟩) N.workers.length cw)∧∀ k,k<N.workers.length→wx.cell? ⟨gw,k,none⟩=some (.pointer (some ⟨L.wb k,0,none⟩))):=fun wx hx=>by
  obtain ⟨x0,x1, -,x3⟩:=hc wx hx
  exact ⟨by rw [x0,hva],by rw [x1,hvw],x3⟩
 have HF:Hid (∀ w',(firstGo N R N.workers.length=none∧Below w.heap.size w w') ∨
  (∃ k,k<N.workers.length∧stateOf N R k=1∧firstGo N R N.workers.length=some k∧∃ L',RaceAt L' w' N (doStep N R k)∧Grew L N w L'∧Fr (Foot L N) w w')→Firsts L w N R w'):=fun _ hx=>hx
 generalize Firsts L w N R=Post at *
 obtain ⟨c0,c1, -⟩:=HC.out w (Below.refl _ _)
 clear hc hva hvw h hsm
 generalize N.streams.length=sl at *
 generalize N.workers.length=wl at *
 go_enter Tryz.func71,Tryz.ntmps71
 go_wp2
 go_loopw [10] (fun i wr=>∃ k:Nat,k≤wl∧i=.int .i64 k∧Below w.heap.size w wr∧goesB N R k=false) (fun i _=>wl-(intOf i).toNat)
 case atStart=>exact ⟨0,Nat.zero_le _,rfl,Below.refl _ _,rfl⟩
 case round=>
  obtain ⟨k,hk,rfl,hbl,hno⟩:=hrel
  have HNo:=hide hno
  clear hno
  by_cases hlt:k<wl
  ·obtain ⟨e0,e1,e2⟩:=HC.out wr hbl
   have e3:=e2 k hlt
   have HS1:=hide (HS.out wr hbl k hlt)
   have HG:Hid (goesB N R (k+1)=(goesB N R k || (stateOf N R k == 1))):=range_any_succ _ k
   clear e2 HS HC
   by_cases hy:stateOf N R k=1
   ·have HY:=hide hy
    rw [hy] at HS1
    clear HG hy
    go_wp2_with fail
    refine (unhide HS1).mono ?_
    rintro e w1 ⟨rfl,hst⟩
    go_wp2
    go_ret
    rcases hst with ⟨h1, -⟩ | ⟨-,h2⟩
    ·exact absurd HY.out h1
    ·exact ⟨ret_bool (by rw [firstGo_some HNo.out hlt HY.out];rfl),HF.out _ (Or.inr ⟨k,hlt,HY.out,firstGo_some HNo.out hlt HY.out,h2⟩)⟩
   ·have hz:((stateOf N R k:Int) == 1)=false:=by simp;omega
    have HG':Hid (goesB N R (k+1)=false):=by
     have:=HG.out;rw [HNo.out] at this;rw [this];show (stateOf N R k == 1)=false;simpa using hy
    have HST:Hid (∀ w1,Steps1 L w N R k w1→Below w.heap.size w w1):=fun w1 hs=>by
     rcases hs with ⟨-,hb⟩ | ⟨h1, -⟩
     ·exact hb
     ·exact absurd h1 hy
    clear HG
    generalize stateOf N R k=sv at *
    go_wp2_with fail
    refine (unhide HS1).mono ?_
    rintro e w1 ⟨rfl,hst⟩
    have hb1:=HST.out w1 hst
    go_wp2
    go_roundw
    case rel=>exact ⟨k+1,by omega,by go_num,hb1,HG'.out⟩
    case measure=>simp [intOf];omega
  ·go_wp2
   go_ret
   have e:k=wl:=by omega
   subst e
   exact ⟨ret_bool (by rw [firstGo_none HNo.out];rfl),HF.out _ (Or.inl ⟨firstGo_none HNo.out,hbl⟩)⟩
theorem RaceAt.grow {L:Lay} {w w':World} {N:Net} {R:Rc} (h:RaceAt L w N R) {s:Nat} (hs:s<N.streams.length) {c c':Nat} {m':Sm}
  (hc:L.CH s=some c) (hnew:w.heap.size≤c') (hst:StAt w' (L.st s) (L.VW s) (some c') (srcd N s) m')
  (hf:Fr (fun x=>x=L.st s∨x=c) w w') :
  RaceAt { L with CH:=fun t=>if t=s then some c' else L.CH t} w' N ⟨R.W,R.S.set s m'⟩:=by
 have hsA:=h.env.at' s hs
 have hsb:=hsA.blk
 obtain ⟨⟨ca,cr,hch⟩, -⟩:=hsA.chan c hc
 have kept:∀ z,z<w.heap.size→z≠L.st s→z≠c→w'.heap[z]? = w.heap[z]? := fun z hz e1 e2=>
  hf.block z hz (fun hh=>hh.elim e1 e2)
 have keptC:∀ (z:Nat) (c:Array Value) (t:TypeId) (f:Nat×Nat),w.heap[z]? = some (.cells c t f)→t≠111→w'.heap[z]? = w.heap[z]? := fun z c t f hz e2=>
  kept z (lt_of_blk hz) (ne_of_types hz hsb e2) (ne_of_chan hz hch)
 obtain ⟨⟨ga,gcap,hva,csa,hga,hcsa⟩,hsm⟩:=h.env.along
 obtain ⟨gw,wcap,hvw',csw,hgw,hcsw⟩:=h.rowW
 have other:∀ t,t<N.streams.length→t≠s→StAt w' (L.st t) (L.VW t) (L.CH t) (srcd N t) (R.s t):=fun t ht hne=>by
  have hT:=h.env.at' t ht
  obtain ⟨i1,i2,i3⟩:=h.injS t s ht hs hne
  refine hT.stays fun z hz=>?_
  rcases hz with rfl | hz | hz
  ·exact kept _ (lt_of_blk hT.blk) i1 (ne_of_chan hT.blk hch)
  ·obtain ⟨cur,hcur⟩:=own_block hT.own hz
   exact keptC _ _ _ _ hcur (by decide)
  ·obtain ⟨⟨a,r,h1⟩,_⟩:=hT.chan z hz
   exact kept _ (lt_of_blk h1) (chan_ne_cells h1 hsb) (fun e=>by subst e;exact i3 z hz hc)
 have hls:s<R.S.length:=by rw [h.lenS];exact hs
 refine ⟨?_,⟨⟨⟨ga,gcap,hva,csa,?_,hcsa⟩,hsm⟩,fun t ht=>?_⟩,⟨gw,wcap,hvw',csw,?_,hcsw⟩,fun j hj=>?_,fun t ht hq=>?_,fun t u ht hu hne=>?_,h.injW,h.lenW,by simp [h.lenS],h.ok⟩
 ·rw [keptC _ _ _ _ h.blk (by decide)];exact h.blk
 ·rw [keptC _ _ _ _ hga (by decide)];exact hga
 ·dsimp only
  by_cases e:t=s
  ·subst e
   rw [if_pos rfl]
   have:(⟨R.W,R.S.set t m'⟩:Rc).s t=m':=getD_set_self _ _ _ _ hls
   rw [this];exact hst
  ·rw [if_neg e]
   have:(⟨R.W,R.S.set s m'⟩:Rc).s t=R.s t:=getD_set_ne _ _ _ _ _ (fun e'=>e e'.symm)
   rw [this];exact other t ht e
 ·rw [keptC _ _ _ _ hgw (by decide)];exact hgw
 ·have:(⟨R.W,R.S.set s m'⟩:Rc).w j=R.w j:=rfl
  rw [this]
  have hJ:=h.wk j hj
  refine hJ.stays fun z hz=>?_
  rcases hz with rfl | hz
  ·exact keptC _ _ _ _ hJ.blk (by decide)
  ·obtain ⟨cur,hcur⟩:=own_block hJ.own hz
   exact keptC _ _ _ _ hcur (by decide)
 ·dsimp only
  by_cases e:t=s
  ·subst e
   rw [if_pos rfl]
   have:=h.ch t ht hq
   rw [hc] at this
   simpa using this
  ·rw [if_neg e];exact h.ch t ht hq
 ·obtain ⟨i1,i2,i3⟩:=h.injS t u ht hu hne
  refine ⟨i1,i2,fun g hg hg'=>?_⟩
  dsimp only at hg hg'
  by_cases e:t=s
  ·subst e
   rw [if_pos rfl] at hg
   rw [if_neg (fun e'=>hne e'.symm)] at hg'
   cases hg
   obtain ⟨⟨a,r,h1⟩,_⟩:=(h.env.at' u hu).chan _ hg'
   have:=lt_of_blk h1;omega
  ·rw [if_neg e] at hg
   by_cases e2:u=s
   ·subst e2
    rw [if_pos rfl] at hg'
    cases hg'
    obtain ⟨⟨a,r,h1⟩,_⟩:=(h.env.at' t ht).chan _ hg
    have:=lt_of_blk h1;omega
   ·rw [if_neg e2] at hg'
    exact i3 g hg hg'
theorem grew_ch {L:Lay} {N:Net} {w:World} {s c':Nat} (hnew:w.heap.size≤c'):Grew L N w { L with CH:=fun t=>if t=s then some c' else L.CH t}:=by
 refine ⟨⟨rfl,rfl,rfl,rfl,rfl⟩,fun b h=>?_⟩
 rcases h with h | h | h | ⟨t,ht,h⟩ | h
 ·exact Or.inl (Or.inl h)
 ·exact Or.inl (Or.inr (Or.inl h))
 ·exact Or.inl (Or.inr (Or.inr (Or.inl h)))
 ·rcases h with h | h | h
  ·exact Or.inl (Or.inr (Or.inr (Or.inr (Or.inl ⟨t,ht,Or.inl h⟩))))
  ·exact Or.inl (Or.inr (Or.inr (Or.inr (Or.inl ⟨t,ht,Or.inr (Or.inl h)⟩))))
  ·dsimp only at h
   by_cases e:t=s
   ·subst e
    rw [if_pos rfl] at h
    cases h
    exact Or.inr hnew
   ·rw [if_neg e] at h
    exact Or.inl (Or.inr (Or.inr (Or.inr (Or.inl ⟨t,ht,Or.inr (Or.inr h)⟩))))
 ·exact Or.inl (Or.inr (Or.inr (Or.inr (Or.inr h))))
def TightIn (N:Net) (R:Rc) (n t:Nat):Prop:=
 t<n∧needsB N R t N.workers.length=true∧∀ s,s<n→needsB N R s N.workers.length=true→(R.s t).room<(R.s s).room∨((R.s t).room=(R.s s).room∧t≤s)
theorem TightIn.unique {N:Net} {R:Rc} {n t u:Nat} (h:TightIn N R n t) (h':TightIn N R n u):t=u:=by
 have h1:=h.2.2 u h'.1 h'.2.1
 have h2:=h'.2.2 t h.1 h.2.1
 omega
theorem needs_stream {N:Net} {R:Rc} (hv:validB N=true) {s:Nat} (h:needsB N R s N.workers.length=true):s<N.streams.length∧srcd N s=false∧used N s=true:=by
 obtain ⟨k,hk,hp⟩:=List.any_eq_true.1 h
 have hk':=List.mem_range.1 hk
 simp only [wantsB,Bool.and_eq_true,beq_iff_eq] at hp
 obtain ⟨h3,h4⟩:=hp
 cases hi:insAt N k (R.w k) with
 | none=>rw [hi] at h4;cases h4
 | some i=>
  rw [hi] at h4
  have hb:i.b=s:=by simpa using h4
  simp only [stateOf,hi] at h3
  split at h3
  ·cases h3
  ·split at h3
   ·rename_i ho
    have hbs:i.b.toNat=s:=by omega
    rw [hbs] at ho
    have hm:i∈codeOf N k:=List.mem_of_getElem? hi
    have hvs:=valid_stream (valid_ins hv hk' hm) (Or.inr ho.1)
    refine ⟨by omega,?_,ho.2.1⟩
    have hu:usesB (codeOf N k) 2 (s:Nat)=true:=List.any_eq_true.2 ⟨i,hm,by simp [ho.1,hb]⟩
    cases hq:srcd N s
    ·rfl
    ·rw [(valid_ok hv).src _ k hq] at hu;cases hu
   ·cases h3
set_option maxRecDepth 100000 in
set_option maxHeartbeats 1000000 in
theorem tightest_calls {L:Lay} {w:World} {N:Net} {R:Rc} (h:RaceAt L w N R) :
  Calls Tryz.prog 67 #[.pointer (some ⟨L.p,0,none⟩)] w fun e w'=>
   ((∃ t,TightIn N R N.streams.length t∧e=.returned (.tuple #[.int .i64 (t:Nat),.bool true]))∨((∀ s,s<N.streams.length→needsB N R s N.workers.length=false)∧e=.returned (.tuple #[.int .i64 0,.bool false])))∧Below w.heap.size w w':=by
 have hlen:=(valid_counts h.ok).2.1
 have hlw:=(valid_counts h.ok).2.2.2
 obtain ⟨ga,ca,gw,cw,hva,hvw,hc⟩:=h.forms
 have HR:Hid (∀ wx,Below w.heap.size w wx→∀ s,s<N.streams.length→Calls Tryz.prog 69 #[.pointer (some ⟨L.st s,0,none⟩)] wx fun e w'=>(∃ v1 v2:Int,e=.returned (.tuple #[.int .i64 v1,.int .i64 v2])∧(needsB N R s N.workers.length=true→v1=(R.s s).room))∧Below w.heap.size w w'):=fun wx hx s hs=>by
  have hr:=h.below hx
  refine (sroom_calls (hr.env.at' s hs)).mono fun e w' hh=>?_
  obtain ⟨h1,q,h2⟩:=hh
  refine ⟨⟨_,_,h1,fun hn=>?_⟩,by rw [h2];exact below_drewN hx q⟩
  obtain ⟨-,n2,n3⟩:=needs_stream h.ok hn
  rw [if_pos ((h.ch s hs n2).2 n3)]
 have HS:Hid (∀ wx,Below w.heap.size w wx→∀ s:Nat,Calls Tryz.prog 86 #[.pointer (some ⟨L.p,0,none⟩),.int .i64 (s:Int)] wx fun e w'=>e=.returned (.bool (needsB N R s N.workers.length))∧Below w.heap.size w w'):=fun wx hx s=>by
  have hr:=h.below hx
  refine (rneedsRoom_calls hr s).mono fun e w' hh=>?_
  exact ⟨hh.1,hx.trans (hh.2.mono hx.size)⟩
 have HC:Hid (∀ wx,Below w.heap.size w wx→wx.cell? ⟨L.p,0,none⟩=some (.slice (some ⟨ga,0,none⟩) N.streams.length ca)∧∀ k,k<N.streams.length→wx.cell? ⟨ga,k,none⟩=some (.pointer (some ⟨L.st k,0,none⟩))):=fun wx hx=>by
  obtain ⟨x0, -,x2, -⟩:=hc wx hx
  exact ⟨by rw [x0,hva],x2⟩
 obtain ⟨c0, -⟩:=HC.out w (Below.refl _ _)
 have HT:Hid (∀ n t,TightIn N R n t↔(t<n∧needsB N R t N.workers.length=true∧∀ s,s<n→needsB N R s N.workers.length=true→(R.s t).room<(R.s s).room∨((R.s t).room=(R.s s).room∧t≤s))):=fun _ _=>Iff.rfl
 clear hc hva hvw h
 generalize N.workers.length=wl at *
 generalize N.streams.length=sl at *
 go_enter Tryz.func67,Tryz.ntmps67
 go_wp2
 go_loopw [4,5,6,16] (fun t l f i wr=>∃ k:Nat,k≤sl∧i=.int .i64 k∧Below w.heap.size w wr∧((f=.bool false∧t=.int .i64 0∧l=.int .i64 0∧∀ s,s<k→needsB N R s wl=false)∨(∃ t':Nat,f=.bool true∧t=.int .i64 t'∧l=.int .i64 (R.s t').room∧TightIn N R k t'))) (fun _ _ _ i _=>sl-(intOf i).toNat)
 case atStart=>exact ⟨0,Nat.zero_le _,rfl,Below.refl _ _,Or.inl ⟨rfl,rfl,rfl,fun s hs=>by omega⟩⟩
 case round=>
  obtain ⟨k,hk,rfl,hbl,hno⟩:=hrel
  by_cases hlt:k<sl
  ·obtain ⟨e0,e2⟩:=HC.out wr hbl
   have e3:=e2 k hlt
   have HR1:=hide (HR.out wr hbl k hlt)
   have HS1:Hid (∀ wx,Below w.heap.size w wx→Calls Tryz.prog 86 #[.pointer (some ⟨L.p,0,none⟩),.int .i64 (k:Int)] wx fun e w'=>e=.returned (.bool (needsB N R k wl))∧Below w.heap.size w w'):=fun wx hx=>HS.out wx hx k
   clear e2 HS HC HR
   rcases hno with ⟨rfl,rfl,rfl,hno⟩ | ⟨t',rfl,rfl,rfl,hno⟩
   ·have HNo:=hide hno
    clear hno
    go_wp2_with fail
    refine (unhide HR1).mono ?_
    rintro e w1 ⟨⟨v1,v2,rfl,hv1⟩,hb1⟩
    have HV1:=hide hv1
    clear hv1
    go_wp2_with fail
    refine (unhide HS1 _ hb1).mono ?_
    rintro e w2 ⟨rfl,hb2⟩
    cases hy:needsB N R k wl
    ·have HNo':Hid (∀ s,s<k+1→needsB N R s wl=false):=fun s hs=>by
      by_cases e:s=k
      ·rw [e];exact hy
      ·exact HNo.out s (by omega)
     clear HV1
     go_wp2
     go_roundw
     case rel=>exact ⟨k+1,by omega,by go_num,hb2,Or.inl ⟨rfl,rfl,rfl,HNo'.out⟩⟩
     case measure=>simp [intOf];omega
    ·have hv1:=HV1.out hy
     subst hv1
     have HT':Hid (TightIn N R (k+1) k):=(HT.out _ _).2 ⟨by omega,hy,fun s hs hn=>by
      by_cases e:s=k
      ·subst e;exact Or.inr ⟨rfl,Nat.le_refl _⟩
      ·rw [HNo.out s (by omega)] at hn;cases hn⟩
     clear HV1
     go_wp2
     go_roundw
     case rel=>exact ⟨k+1,by omega,by go_num,hb2,Or.inr ⟨k,rfl,rfl,rfl,HT'.out⟩⟩
     case measure=>simp [intOf];omega
   ·have HNo:=hide ((HT.out _ _).1 hno)
    have HNk:=hide hno
    clear hno
    go_wp2_with fail
    refine (unhide HR1).mono ?_
    rintro e w1 ⟨⟨v1,v2,rfl,hv1⟩,hb1⟩
    have HV1:=hide hv1
    clear hv1
    go_wp2_with fail
    refine (unhide HS1 _ hb1).mono ?_
    rintro e w2 ⟨rfl,hb2⟩
    cases hy:needsB N R k wl
    ·have HT':Hid (TightIn N R (k+1) t'):=(HT.out _ _).2 ⟨by have:=HNo.out.1;omega,HNo.out.2.1,fun s hs hn=>by
      by_cases e:s=k
      ·subst e;rw [hy] at hn;cases hn
      ·exact HNo.out.2.2 s (by omega) hn⟩
     clear HV1 HNo HNk
     go_wp2
     go_roundw
     case rel=>exact ⟨k+1,by omega,by go_num,hb2,Or.inr ⟨t',rfl,rfl,rfl,HT'.out⟩⟩
     case measure=>simp [intOf];omega
    ·have hv1:=HV1.out hy
     subst hv1
     clear HV1
     by_cases hl:(R.s k).room<(R.s t').room
     ·have hl':((R.s k).room:Int)<((R.s t').room:Int):=by omega
      have HT':Hid (TightIn N R (k+1) k):=(HT.out _ _).2 ⟨by omega,hy,fun s hs hn=>by
       by_cases e:s=k
       ·subst e;exact Or.inr ⟨rfl,Nat.le_refl _⟩
       ·have:=HNo.out.2.2 s (by omega) hn
        omega⟩
      have HL:=hide hl
      clear hl HNo HNk
      go_wp2
      go_roundw
      case rel=>exact ⟨k+1,by omega,by go_num,hb2,Or.inr ⟨k,rfl,rfl,rfl,HT'.out⟩⟩
      case measure=>simp [intOf];omega
     ·have hl':¬ ((R.s k).room:Int)<((R.s t').room:Int):=by omega
      have HT':Hid (TightIn N R (k+1) t'):=(HT.out _ _).2 ⟨by have:=HNo.out.1;omega,HNo.out.2.1,fun s hs hn=>by
       by_cases e:s=k
       ·subst e;have:=HNo.out.1;omega
       ·exact HNo.out.2.2 s (by omega) hn⟩
      have HL:=hide hl
      clear hl HNo HNk
      go_wp2
      go_roundw
      case rel=>exact ⟨k+1,by omega,by go_num,hb2,Or.inr ⟨t',rfl,rfl,rfl,HT'.out⟩⟩
      case measure=>simp [intOf];omega
  ·have e:k=sl:=by omega
   subst e
   rcases hno with ⟨rfl,rfl,rfl,hno⟩ | ⟨t',rfl,rfl,rfl,hno⟩
   ·have HNo:=hide hno
    clear hno
    go_wp2
    go_ret2
    exact ⟨Or.inr ⟨HNo.out,rfl⟩,by first | exact hbl | exact below_drewN hbl _⟩
   ·have HNo:=hide hno
    clear hno
    go_wp2
    go_ret2
    exact ⟨Or.inl ⟨t',HNo.out,rfl⟩,by first | exact hbl | exact below_drewN hbl _⟩
def RoomR (N:Net) (R:Rc):Prop:=∀ s,s<N.streams.length→(R.s s).room≤40
inductive Grows (N:Net) (R:Rc):Int→Int→Option Nat→Prop
 | goes:goesB N R N.workers.length=true→Grows N R 0 3 none
 | none:(∀ s,s<N.streams.length→needsB N R s N.workers.length=false)→Grows N R 0 3 none
 | full {t:Nat}:goesB N R N.workers.length=false→TightIn N R N.streams.length t→(R.s t).room=40→Grows N R 0 4 none
 | grows {t:Nat}:goesB N R N.workers.length=false→TightIn N R N.streams.length t→(R.s t).room<40→Grows N R t 0 (some t)
def Grown (L:Lay) (w:World) (N:Net) (R:Rc) (o:Option Nat) (w':World):Prop:=
 match o with
 | none=>Below w.heap.size w w'
 | some t=>∃ L',RaceAt L' w' N (growS R t)∧Grew L N w L'∧Fr (Foot L N) w w'
set_option maxRecDepth 100000 in
set_option maxHeartbeats 1000000 in
theorem rgrow_calls {L:Lay} {w:World} {N:Net} {R:Rc} (h:RaceAt L w N R) (hro:RoomR N R) :
  Calls Tryz.prog 35 #[.pointer (some ⟨L.p,0,none⟩)] w fun e w'=>
   ∃ a b o,Grows N R a b o∧e=.returned (.tuple #[.int .i64 a,.int .i64 b])∧Grown L w N R o w':=by
 have hlen:=(valid_counts h.ok).2.1
 obtain ⟨ga,ca,gw,cw,hva,hvw,hc⟩:=h.forms
 have HT:=hide (tightest_calls h)
 have HG:Hid (∀ wx,Below w.heap.size w wx→Calls Tryz.prog 68 #[.pointer (some ⟨L.p,0,none⟩)] wx fun e w'=>e=.returned (.bool (goesB N R N.workers.length))∧Below w.heap.size w w'):=fun wx hx=>by
  refine (canGoOn_calls (h.below hx)).mono fun e w' hh=>⟨hh.1,hx.trans (hh.2.mono hx.size)⟩
 have HR:Hid (∀ wx,Below w.heap.size w wx→∀ s,TightIn N R N.streams.length s→Calls Tryz.prog 69 #[.pointer (some ⟨L.st s,0,none⟩)] wx fun e w'=>(∃ v2:Int,e=.returned (.tuple #[.int .i64 (R.s s).room,.int .i64 v2]))∧Below w.heap.size w w'):=fun wx hx s ht=>by
  have hr:=h.below hx
  refine (sroom_calls (hr.env.at' s ht.1)).mono fun e w' hh=>?_
  obtain ⟨h1,q,h2⟩:=hh
  obtain ⟨-,n2,n3⟩:=needs_stream h.ok ht.2.1
  rw [if_pos ((h.ch s ht.1 n2).2 n3)] at h1
  exact ⟨⟨_,h1⟩,by rw [h2];exact below_drewN hx q⟩
 have HW:Hid (∀ wx,Below w.heap.size w wx→∀ s,TightIn N R N.streams.length s→(R.s s).room<40→Calls Tryz.prog 70 #[.pointer (some ⟨L.st s,0,none⟩)] wx fun e w'=>e=.returned (.tuple #[])∧Grown L w N R (some s) w'):=fun wx hx s ht hlt=>by
  have hr:=h.below hx
  obtain ⟨-,n2,n3⟩:=needs_stream h.ok ht.2.1
  have hS:=hr.env.at' s ht.1
  have hsome:=(h.ch s ht.1 n2).2 n3
  obtain ⟨c,hcs⟩:=Option.isSome_iff_exists.1 hsome
  have hS':=hS
  rw [hcs,n2] at hS'
  refine (sgrow_calls hS' (by omega)).mono fun e w' hh=>?_
  obtain ⟨h1,h2,h3⟩:=hh
  refine ⟨h1,_,hr.grow ht.1 hcs (Nat.le_refl _) (by rw [n2];exact h2) h3,?_,?_⟩
  ·exact grew_ch hx.size
  ·refine (Fr.of_below hx).trans h3 fun x hx' hh=>?_
   rcases hh with rfl | rfl
   ·exact Or.inr (Or.inr (Or.inr (Or.inl ⟨s,ht.1,Or.inl rfl⟩)))
   ·exact Or.inr (Or.inr (Or.inr (Or.inl ⟨s,ht.1,Or.inr (Or.inr hcs)⟩)))
 have HC:Hid (∀ wx,Below w.heap.size w wx→wx.cell? ⟨L.p,0,none⟩=some (.slice (some ⟨ga,0,none⟩) N.streams.length ca)∧∀ k,k<N.streams.length→wx.cell? ⟨ga,k,none⟩=some (.pointer (some ⟨L.st k,0,none⟩))):=fun wx hx=>by
  obtain ⟨x0, -,x2, -⟩:=hc wx hx
  exact ⟨by rw [x0,hva],x2⟩
 have HP:Hid (∀ w',Below w.heap.size w w'→Grown L w N R none w'):=fun _ hx=>hx
 have HI:Hid (∀ t,TightIn N R N.streams.length t→t<N.streams.length∧(R.s t).room≤40):=fun t ht=>⟨ht.1,hro t ht.1⟩
 have q1:Hid (goesB N R N.workers.length=true→Grows N R 0 3 none):=.goes
 have q2:Hid ((∀ s,s<N.streams.length→needsB N R s N.workers.length=false)→Grows N R 0 3 none):=.none
 have q3:Hid (∀ t,goesB N R N.workers.length=false→TightIn N R N.streams.length t→(R.s t).room=40→Grows N R 0 4 none):=fun _=>.full
 have q4:Hid (∀ t:Nat,goesB N R N.workers.length=false→TightIn N R N.streams.length t→(R.s t).room<40→Grows N R t 0 (some t)):=fun _=>.grows
 clear hc hva hvw h hro
 generalize Grown L w N R=Gn at *
 generalize Grows N R=Gs at *
 generalize N.workers.length=wl at *
 generalize N.streams.length=sl at *
 go_enter Tryz.func35,Tryz.ntmps35
 go_wp2_with fail
 refine (unhide HT).mono ?_
 rintro e w1 ⟨⟨t,ht,rfl⟩ | ⟨hno,rfl⟩,hb1⟩
 ·have HTt:=hide ht
  clear ht
  go_wp2_with fail
  refine (unhide HG _ hb1).mono ?_
  rintro e w2 ⟨rfl,hb2⟩
  cases hy:goesB N R wl
  ·have HY:=hide hy
   clear hy
   obtain ⟨htl,hr40⟩:=HI.out t HTt.out
   obtain ⟨e0,e1⟩:=HC.out w2 hb2
   have e2:=e1 t htl
   have HR1:=hide (HR.out w2 hb2 t HTt.out)
   clear e1
   by_cases h40:(R.s t).room=40
   ·have HQ:=hide (q3.out t HY.out HTt.out h40)
    rw [h40] at HR1
    clear h40 hr40
    have hu0:(0:Int)≤(t:Int):=by omega
    have hu1:(t:Int)<(sl:Int):=by omega
    go_wp2_with fail
    refine (unhide HR1).mono ?_
    rintro e w3 ⟨⟨v2,rfl⟩,hb3⟩
    go_wp2
    go_ret2
    exact ⟨_,_,_,HQ.out,rfl,HP.out _ hb3⟩
   ·have hlt:(R.s t).room<40:=by omega
    have HQ:=hide (q4.out t HY.out HTt.out hlt)
    have HL:=hide hlt
    have hz:(((R.s t).room:Int) == 40)=false:=by simp;omega
    clear h40 hr40 hlt
    generalize hrm:(R.s t).room=rm at *
    have HRM:=hide hrm
    clear hrm
    have hu0:(0:Int)≤(t:Int):=by omega
    have hu1:(t:Int)<(sl:Int):=by omega
    go_wp2_with fail
    refine (unhide HR1).mono ?_
    rintro e w3 ⟨⟨v2,rfl⟩,hb3⟩
    obtain ⟨f0,f1⟩:=HC.out w3 hb3
    have f2:=f1 t htl
    clear f1
    have HW1:=hide (HW.out w3 hb3 t HTt.out (by rw [HRM.out];exact HL.out))
    go_wp2_with fail
    refine (unhide HW1).mono ?_
    rintro e w4 ⟨rfl,hg4⟩
    go_wp2
    go_ret2
    exact ⟨_,_,_,HQ.out,rfl,hg4⟩
  ·have HY:=hide (q1.out hy)
   clear hy
   go_wp2
   go_ret2
   exact ⟨_,_,_,HY.out,rfl,HP.out _ hb2⟩
 ·have HNo:=hide (q2.out hno)
  clear hno
  go_wp2
  go_ret2
  exact ⟨_,_,_,HNo.out,rfl,HP.out _ hb1⟩
end Go.Proofs.YthfdgdfnflilfaaGreatDoor

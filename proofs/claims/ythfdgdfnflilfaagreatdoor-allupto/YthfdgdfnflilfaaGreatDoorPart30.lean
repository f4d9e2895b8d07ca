/- Part 30: KeepG, Fine, Play0, KeepH, KeepI, KeepJ, Parse, RefL4. -/
import Derived.Deep.RegionHeld3
import Derived.Test.YthfdgdfnflilfaaGreatDoorPart15
import Derived.Test.YthfdgdfnflilfaaGreatDoorPart22
import Derived.Test.YthfdgdfnflilfaaGreatDoorPart26
import Derived.Test.YthfdgdfnflilfaaGreatDoorPart27
import Derived.Test.YthfdgdfnflilfaaGreatDoorPart28
import Derived.Test.YthfdgdfnflilfaaGreatDoorPart29
namespace Go.Proofs.YthfdgdfnflilfaaGreatDoor
open Go.RowKit Go.Conc
structure NetFits (N:Net):Prop where
 c:∀ k,k<N.workers.length→∀ i∈codeOf N k,Fits64 i.c
 words:∀ s∈N.sources,∀ x∈s.words,Fits64 x
structure FitsA (x:Wk):Prop where
 r:∀ i,Fits64 (x.r i)
 steps:Fits64 x.steps
structure Good (N:Net) (R:Rc) (c:Nat):Prop where
 run:∃ es,(grun N N.streams es).1=R∧∀ k,((grun N N.streams es).2 k).length≤c
 room:RoomR N R
 grew:∀ s,s<N.streams.length→if heldB N s=true then (N.streams.getD s 0).toNat≤(R.s s).room else (R.s s).room=(N.streams.getD s 0).toNat
 words:∀ s,s<N.streams.length→(R.s s).words.length≤50+c
 fitsW:∀ k,k<N.workers.length→FitsA (R.w k)
 fitsS:∀ s,s<N.streams.length→∀ x∈(R.s s).words,Fits64 x
theorem fits_zero:Fits64 0:=⟨by decide,by decide⟩
theorem fits_wrap (x:Int):Fits64 (wrap64 x):=by unfold Fits64 wrap64;omega
theorem fits_alu (op b c:Int):Fits64 (alu op b c):=by
 unfold alu
 repeat' split
 all_goals first | exact fits_wrap _ | exact ⟨by decide,by decide⟩
theorem srcWords_fits {N:Net} (h:NetFits N) (s:Nat):∀ x∈srcWords N s,Fits64 x:=by
 intro x hx
 unfold srcWords at hx
 cases hf:N.sources.find? fun y=>y.stream == (s:Int) with
 | none=>rw [hf] at hx;simp at hx
 | some y=>
  rw [hf] at hx
  exact h.words y (List.mem_of_find?_eq_some hf) x (by simpa using hx)
theorem initG_s {N:Net} (rooms:List Int) (s:Nat) (hs:s<N.streams.length):(initR N rooms).s s=⟨if srcd N s then srcWords N s else [],0,(rooms.getD s 0).toNat⟩:=by simp [Rc.s,initR,List.getD,hs]
theorem initG_w (N:Net) (rooms:List Int) (k:Nat):(initR N rooms).w k=⟨0,fun _=>0,0⟩:=by
 simp only [Rc.w,initR,List.getD]
 rw [List.getElem?_replicate]
 split<;>rfl
theorem Good.init {N:Net} (hv:validB N=true) (hf:NetFits N):Good N (initR N N.streams) 0:=by
 refine ⟨⟨[],rfl,fun _=>Nat.le_refl _⟩,init_roomR hv,fun s hs=>?_,fun s hs=>init_words hv s hs,fun k _=>?_,fun s hs=>?_⟩
 ·rw [initG_s _ _ hs];split
  ·exact Nat.le_refl _
  ·rfl
 ·rw [initG_w];exact ⟨fun _=>fits_zero,fits_zero⟩
 ·rw [initG_s _ _ hs]
  dsimp only
  split
  ·exact srcWords_fits hf s
  ·intro x hx;cases hx
theorem nextW_fits {x:Wk} {i:Ins} {inp:Option Int} (hx:FitsA x) (hc:Fits64 i.c) (hi:∀ v,inp=some v→Fits64 v):FitsA (nextW x i inp):=by
 have hu:∀ a v,Fits64 v→∀ j,Fits64 (upd x.r a v j):=fun a v hv j=>by
  unfold upd;split
  ·exact hv
  ·exact hx.r j
 unfold nextW
 split
 ·split
  ·rename_i v
   exact ⟨hu _ _ (hi v rfl),fits_wrap _⟩
  ·exact ⟨hx.r,fits_wrap _⟩
 ·split
  ·exact ⟨hx.r,fits_wrap _⟩
  ·split
   ·exact ⟨hu _ _ hc,fits_wrap _⟩
   ·split
    ·exact ⟨hx.r,fits_wrap _⟩
    ·split
     ·exact ⟨hx.r,fits_wrap _⟩
     ·exact ⟨hu _ _ (fits_alu _ _ _),fits_wrap _⟩
theorem unused_uses {N:Net} {s:Nat} (h:used N s=false):∀ k,usesB (codeOf N k) 1 s=false:=fun k=>by
 cases hu:usesB (codeOf N k) 1 s
 ·rfl
 ·have:=uses_pos hu
  simp [used] at h
  omega
structure Fine (N:Net) (R:Rc) (c:Nat):Prop where
 lenW:R.W.length=N.workers.length
 lenS:R.S.length=N.streams.length
 room:RoomR N R
 grew:∀ s,s<N.streams.length→if heldB N s=true then (N.streams.getD s 0).toNat≤(R.s s).room else (R.s s).room=(N.streams.getD s 0).toNat
 words:∀ s,s<N.streams.length→(R.s s).words.length≤500+c
 len:(saveNums N R).length≤500+c
 fitsW:∀ k,k<N.workers.length→FitsA (R.w k)
 fitsS:∀ s,s<N.streams.length→∀ x∈(R.s s).words,Fits64 x
 nord:∀ s,s<N.streams.length→used N s=false→srcd N s=false→(R.s s).read=0
 src:∀ s,s<N.streams.length→srcd N s=true→(R.s s).words=srcWords N s
theorem saveS_len {N:Net} {R S:Rc} (b:Nat) (h:∀ s,s<N.streams.length→(S.s s).words.length≤(R.s s).words.length+if s=b then 1 else 0):∀ t,t≤N.streams.length→(saveS N S t).length≤(saveS N R t).length+if b<t then 1 else 0
 | 0,_=>by simp [saveS]
 | t+1,ht=>by
  have ih:=saveS_len b h t (by omega)
  have h1:=h t (by omega)
  have h2:(stNums (srcd N t) (S.s t)).length≤(stNums (srcd N t) (R.s t)).length+if t=b then 1 else 0:=by
   unfold stNums
   split
   ·simp
   ·simp only [List.length_append,List.length_cons,List.length_nil];omega
  rw [saveS_succ,saveS_succ,List.length_append,List.length_append]
  by_cases e:b=t
  ·subst e;simp at ih h2 ⊢;omega
  ·by_cases e2:b<t
   ·rw [if_pos e2] at ih;rw [if_neg (fun e'=>e e'.symm)] at h2;rw [if_pos (by omega)];omega
   ·rw [if_neg e2] at ih;rw [if_neg (fun e'=>e e'.symm)] at h2;rw [if_neg (by omega)];omega
theorem saveNums_len {N:Net} {R S:Rc} (b:Nat) (h:∀ s,s<N.streams.length→(S.s s).words.length≤(R.s s).words.length+if s=b then 1 else 0):(saveNums N S).length≤(saveNums N R).length+if b<N.streams.length then 1 else 0:=by
 have:=saveS_len b h N.streams.length (Nat.le_refl _)
 rw [saveNums,saveNums,List.length_append,List.length_append,saveW_length,saveW_length]
 omega
theorem Fine.init {N:Net} (hv:validB N=true) (hf:NetFits N):Fine N (initR N N.streams) 0:=by
 have h:=Good.init hv hf
 obtain ⟨-,h8, -,h6⟩:=valid_counts hv
 refine ⟨by simp [initR],by simp [initR],h.room,h.grew,fun s hs=>by have:=h.words s hs;omega,?_,h.fitsW,h.fitsS,fun s hs _ _=>?_,fun s hs hq=>?_⟩
 ·rw [saveNums,List.length_append,saveW_length]
  have h1:=saveS_length N (initR N N.streams) N.streams.length 50 fun s hs=>h.words s hs
  have h2:N.streams.length*(3+50)≤8*(3+50):=Nat.mul_le_mul_right _ h8
  omega
 ·rw [initG_s _ _ hs]
 ·rw [initG_s _ _ hs];simp [hq]
theorem Fine.mono {N:Net} {R:Rc} {c d:Nat} (h:Fine N R c) (hd:c≤d):Fine N R d:=⟨h.lenW,h.lenS,h.room,h.grew,fun s hs=>by have:=h.words s hs;omega,by have:=h.len;omega,h.fitsW,h.fitsS,h.nord,h.src⟩
theorem Fine.step {N:Net} {R:Rc} {c k:Nat} (h:Fine N R c) (hv:validB N=true) (hf:NetFits N) (hk:k<N.workers.length):Fine N (doStep N R k) (c+1):=by
 have hlS:=h.lenS
 have hlW:=h.lenW
 have hs':∀ s,s<N.streams.length→_:=fun s hs=>doStep_s (N:=N) (R:=R) (k:=k) (s:=s) (by omega)
 cases hi:insAt N k (R.w k) with
 | none=>
  have:doStep N R k=R:=by simp [doStep,hi]
  rw [this];exact h.mono (by omega)
 | some i=>
  have hm:i∈codeOf N k:=List.mem_of_getElem? hi
  have hin:∀ v,(R.s i.b.toNat).words[(R.s i.b.toNat).read]? = some v→Fits64 v:=fun v hv'=>by
   rcases Nat.lt_or_ge i.b.toNat N.streams.length with hb | hb
   ·exact h.fitsS _ hb v (List.mem_of_getElem? hv')
   ·have:R.s i.b.toNat=⟨[],0,0⟩:=by simp only [Rc.s,List.getD];rw [List.getElem?_eq_none (by omega)];rfl
    rw [this] at hv';simp at hv'
  have hus:=uses_of_ins hi
  have hok:=(valid_ok hv).ins k hk i hm
  refine ⟨by rw [doStep_some hi];simpa using hlW,by rw [doStep_some hi];simpa [nextS_length] using hlS,fun s hs=>by rw [(hs' s hs).1];exact h.room s hs,fun s hs=>by rw [(hs' s hs).1];exact h.grew s hs,fun s hs=>by have:=(hs' s hs).2;have:=h.words s hs;omega,?_,fun j hj=>?_,fun s hs=>?_,fun s hs hu hr=>?_,fun s hs hq=>?_⟩
  ·have h1:=saveNums_len (N:=N) (R:=R) (S:=doStep N R k) i.b.toNat fun s hs=>by
    rw [doStep_some hi,step_s _ _ (by omega)]
    split
    ·simp
    ·split
     ·rename_i e;simp [e.2]
     ·simp
   have h2:=h.len
   split at h1<;>omega
  ·by_cases e:j=k
   ·subst e
    have:(doStep N R j).w j=nextW (R.w j) i (R.s i.b.toNat).words[(R.s i.b.toNat).read]? := by
     rw [doStep_some hi];exact getD_set_self _ _ _ _ (by omega)
    rw [this]
    exact nextW_fits (h.fitsW j hj) (hf.c j hj i hm) hin
   ·rw [doStep_w_ne N R k j e];exact h.fitsW j hj
  ·rw [doStep_some hi,step_s _ _ (by omega)]
   intro x hx
   split at hx
   ·exact h.fitsS s hs x hx
   ·split at hx
    ·rcases List.mem_append.1 hx with h1 | h1
     ·exact h.fitsS s hs x h1
     ·rw [List.mem_singleton.1 h1];exact (h.fitsW k hk).r _
    ·exact h.fitsS s hs x hx
  ·rw [doStep_some hi,step_s _ _ (by omega)]
   split
   ·rename_i e
    have h1:=unused_uses hu k
    have hb:=hok.2.2 (Or.inl e.1)
    have hbs:i.b=(s:Int):=by rw [e.2];omega
    rw [e.1,hbs] at hus
    rw [hus] at h1;cases h1
   ·split
    ·exact h.nord s hs hu hr
    ·exact h.nord s hs hu hr
  ·rw [doStep_some hi,step_s _ _ (by omega)]
   split
   ·exact h.src s hs hq
   ·split
    ·rename_i e
     have h1:=(valid_ok hv).src s k hq
     have hb:=hok.2.2 (Or.inr e.1)
     have hbs:i.b=(s:Int):=by rw [e.2];omega
     rw [e.1,hbs] at hus
     rw [hus] at h1;cases h1
    ·exact h.src s hs hq
theorem growS_read (R:Rc) (t s:Nat):((growS R t).s s).read=(R.s s).read:=by
 by_cases e:s=t
 ·subst e
  rcases Nat.lt_or_ge s R.S.length with h | h
  ·have:(growS R s).s s={ R.s s with room:=(R.s s).room+1}:=getD_set_self _ _ _ _ h
   rw [this]
  ·simp [growS,Rc.s,List.set_eq_of_length_le h]
 ·have:(growS R t).s s=R.s s:=getD_set_ne _ _ _ _ _ (fun e'=>e e'.symm)
  rw [this]
theorem Fine.grow {N:Net} {R:Rc} {c t:Nat} (h:Fine N R c) (hv:validB N=true) {a b:Int} (hg:Grows N R a b (some t)):Fine N (growS R t) c:=by
 obtain ⟨-, -,ht,hr⟩:=grows_ok hg
 have hlS:=h.lenS
 have hh:heldB N t=true:=by
  cases hg with
  | grows h1 h2 h3=>obtain ⟨-,q1,q2⟩:=needs_stream hv h2.2.1;simp [heldB,q1,q2]
 refine ⟨h.lenW,by simpa [growS] using hlS,fun s hs=>?_,fun s hs=>?_,fun s hs=>by rw [growS_words];exact h.words s hs,?_,h.fitsW,fun s hs=>by rw [growS_words];exact h.fitsS s hs,fun s hs hu hr=>by rw [growS_read];exact h.nord s hs hu hr,fun s hs hq=>by rw [growS_words];exact h.src s hs hq⟩
 rotate_left
 rotate_left
 ·have h1:=saveNums_len (N:=N) (R:=R) (S:=growS R t) N.streams.length fun s hs=>by rw [growS_words];omega
  have h2:=h.len
  rw [if_neg (Nat.lt_irrefl _)] at h1
  omega
 ·rw [growS_s _ _ _ (by omega)]
  have:=h.room s hs
  split
  ·rename_i e;subst e;omega
  ·omega
 ·have hq:=h.grew s hs
  rw [growS_s _ _ _ (by omega)]
  split
  ·rename_i hp;rw [if_pos hp] at hq;omega
  ·rename_i hp
   rw [if_neg hp] at hq
   by_cases e:s=t
   ·subst e;exact absurd hh hp
   ·rw [if_neg e];exact hq
theorem Fine.stepR {N:Net} {R:Rc} {c k:Nat} (h:Fine N R c) (hv:validB N=true) (hf:NetFits N) (hk:k<N.workers.length):Fine N (stepR N R k) (c+1):=by
 unfold Go.Proofs.YthfdgdfnflilfaaGreatDoor.stepR
 split
 ·exact h.step hv hf hk
 ·exact h.mono (by omega)
structure SideAt (wz:World) (col:Nat→Nat) (w:World) (sd cx cy x y:Nat) (n:Net) (vs vr vw:Value) (Rx Ry:Rc):Prop where
 blk:w.heap[sd]? = some (.cells #[.pointer (some ⟨x,0,none⟩),.pointer (some ⟨y,0,none⟩),vs,vr,vw] 49 (0,0))
 csd:col sd=25
 hx:Has (fun b=>b<w.heap.size∧col b≠cx) x n Rx w
 hy:RHas wz (fun b=>b<w.heap.size∧col b≠cy) y n Ry w
def newcol (col:Nat→Nat) (n q:Nat):Nat→Nat:=fun b=>if b<n then col b else q
theorem newcol_old {col:Nat→Nat} {n q b:Nat} (h:b<n):newcol col n q b=col b:=by simp [newcol,h]
theorem newcol_new {col:Nat→Nat} {n q b:Nat} (h:n≤b):newcol col n q b=q:=by
 have:¬ b<n:=by omega
 simp [newcol,this]
theorem SideAt.frame {wz:World} {col col':Nat→Nat} {w w':World} {sd cx cy x y:Nat} {n:Net} {vs vr vw:Value} {Rx Ry:Rc} (h:SideAt wz col w sd cx cy x y n vs vr vw Rx Ry)
  (hk:∀ b,b<w.heap.size→(b=sd∧col b=25)∨col b=cx∨col b=cy→w'.heap[b]? = w.heap[b]? ∧ col' b=col b) (hz:Below wz.heap.size wz w'):SideAt wz col' w' sd cx cy x y n vs vr vw Rx Ry:=by
 have hs:=hk sd (lt_of_blk h.blk) (Or.inl ⟨rfl,h.csd⟩)
 have k1:∀ b,b<w.heap.size→¬ (b<w.heap.size∧col b≠cx)→col b=cx:=fun b hb e=>Classical.byContradiction fun e'=>e ⟨hb,e'⟩
 have k2:∀ b,b<w.heap.size→¬ (b<w.heap.size∧col b≠cy)→col b=cy:=fun b hb e=>Classical.byContradiction fun e'=>e ⟨hb,e'⟩
 refine ⟨hs.1.trans h.blk,hs.2.trans h.csd,h.hx.turn (fun b hb e=>(hk b hb (Or.inr (Or.inl (k1 b hb e)))).1) (fun b hb e e'=>?_) (fun b hb=>hb.1),h.hy.turn (fun b hb e=>(hk b hb (Or.inr (Or.inr (k2 b hb e)))).1) (fun b hb e e'=>?_) (fun b hb=>hb.1) hz⟩
 ·exact e'.2 ((hk b hb (Or.inr (Or.inl (k1 b hb e)))).2.trans (k1 b hb e))
 ·exact e'.2 ((hk b hb (Or.inr (Or.inr (k2 b hb e)))).2.trans (k2 b hb e))
theorem SideAt.below {wz:World} {col:Nat→Nat} {w w':World} {sd cx cy x y:Nat} {n:Net} {vs vr vw:Value} {Rx Ry:Rc} (h:SideAt wz col w sd cx cy x y n vs vr vw Rx Ry) (hz:Below wz.heap.size wz w) (q:Nat) (hb:Below w.heap.size w w'):SideAt wz (newcol col w.heap.size q) w' sd cx cy x y n vs vr vw Rx Ry:=
 h.frame (fun b h' _=>⟨hb.block b h',newcol_old h'⟩) (hz.trans (hb.mono hz.size))
structure Did (base sd cx cy:Nat) (col:Nat→Nat) (w:World) (col':Nat→Nat) (w':World):Prop where
 fr:Fr (fun b=>base≤b∧(col b≤20∨col b=cx∨col b=cy∨b=sd)) w w'
 old:∀ b,b<w.heap.size→20<col b→col' b=col b
theorem Did.wz {base sd cx cy:Nat} {col col':Nat→Nat} {w w' wz:World} (h:Did base sd cx cy col w col' w') (hz:Below wz.heap.size wz w) (hzb:wz.heap.size≤base):Below wz.heap.size wz w':=
 hz.trans ⟨h.fr.os,h.fr.tape,h.fr.output,h.fr.size,fun b hb=>h.fr.block b (by have:=hz.size;omega) (fun e=>by have:=e.1;omega)⟩
theorem Did.trans {base sd cx cy:Nat} {col col1 col2:Nat→Nat} {w w1 w2:World} (h:Did base sd cx cy col w col1 w1) (k:Did base sd cx cy col1 w1 col2 w2):Did base sd cx cy col w col2 w2:=by
 have hsz:=h.fr.size
 refine ⟨h.fr.trans k.fr (fun b hb e=>?_),fun b hb h20=>?_⟩
 ·rcases Nat.lt_or_ge 20 (col b) with h20 | h20
  ·rw [← h.old b hb h20];exact e
  ·exact ⟨e.1,Or.inl h20⟩
 ·have e:=h.old b hb h20
  rw [k.old b (by omega) (by omega),e]
theorem Did.of_below {base sd cx cy q:Nat} {col:Nat→Nat} {w w':World} (hb:Below w.heap.size w w'):Did base sd cx cy col w (newcol col w.heap.size q) w':=
 ⟨Fr.of_below hb,fun _ h _=>newcol_old h⟩
theorem SideAt.did {base sd0 cx cy:Nat} {wz:World} {col col':Nat→Nat} {w w':World} {sd dx dy x y:Nat} {n:Net} {vs vr vw:Value} {Rx Ry:Rc} (h:SideAt wz col w sd dx dy x y n vs vr vw Rx Ry) (hd:Did base sd0 cx cy col w col' w') (hz:Below wz.heap.size wz w) (hzb:wz.heap.size≤base)
  (hcx:29<cx) (hcy:29<cy) (hdx:29<dx) (hdy:29<dy) (hne:sd≠sd0) (hc0:col sd0=25) (h1:dx≠cx) (h2:dx≠cy) (h3:dy≠cx) (h4:dy≠cy):SideAt wz col' w' sd dx dy x y n vs vr vw Rx Ry:=
 h.frame (fun b hb e=>⟨hd.fr.block b hb (fun e'=>by
  have hb0:b≠sd0:=fun e2=>by subst e2;omega
  have:=e'.2
  omega),hd.old b hb (by omega)⟩) (hd.wz hz hzb)
theorem Did.row {base sd cx cy:Nat} {col col':Nat→Nat} {w w':World} (hd:Did base sd cx cy col w col' w') {v0:Value} {vals:List Value} (hcx:29<cx) (hcy:29<cy) (hc0:col sd=25) (hrow:w.ownsRow base 50 1 v0 vals.length vals) (hv0:∀ g,v0.ownBlock=some g→col g=24) :
  w'.ownsRow base 50 1 v0 vals.length vals∧∀ g,v0.ownBlock=some g→col' g=24:=by
 have hlt:∀ g,v0.ownBlock=some g→g<w.heap.size:=fun g hg=>(hrow.lt g hg).2
 exact ⟨own_of_blockB hrow fun g hg=>hd.fr.block g (hlt g hg) (fun e=>by
  have h9:=hv0 g hg
  have hb0:g≠sd:=fun e2=>by subst e2;omega
  have:=e.2
  omega),fun g hg=>(hd.old g (hlt g hg) (by rw [hv0 g hg];omega)).trans (hv0 g hg)⟩
theorem keeps_wz {base q:Nat} {col:Nat→Nat} {w w' wz:World} (hlow:∀ b,b<base→90≤col b) (hq:q<90) (hz:Below wz.heap.size wz w) (hzb:wz.heap.size≤base) (hk:Keeps (fun b=>b<w.heap.size∧col b≠q) w w'):Below wz.heap.size wz w':=
 hz.trans ⟨hk.os,hk.tape,hk.output,hk.size,fun b hb=>hk.block b (by have:=hz.size;omega) (fun e=>e ⟨by have:=hz.size;omega,fun e'=>by have:=hlow b (by omega);omega⟩)⟩
theorem keeps_block {q:Nat} {col:Nat→Nat} {w w':World} (hk:Keeps (fun b=>b<w.heap.size∧col b≠q) w w') {b:Nat} (hb:b<w.heap.size) (hq:col b≠q):w'.heap[b]? = w.heap[b]? :=
 hk.block b hb (fun e=>e ⟨hb,hq⟩)
theorem keeps_did {base sd cx cy q:Nat} {col:Nat→Nat} {w w':World} (hlow:∀ b,b<base→90≤col b) (hq:q<90) (hqc:q=cx∨q=cy) (hk:Keeps (fun b=>b<w.heap.size∧col b≠q) w w'):Did base sd cx cy col w (newcol col w.heap.size q) w':=by
 refine ⟨⟨hk.os,hk.tape,hk.output,hk.size,fun b hb e=>?_⟩,fun b hb _=>newcol_old hb⟩
 refine keeps_block hk hb fun e'=>e ⟨?_,?_⟩
 ·rcases Nat.lt_or_ge b base with h | h
  ·have:=hlow b h;omega
  ·exact h
 ·rcases hqc with rfl | rfl
  ·exact Or.inr (Or.inl e')
  ·exact Or.inr (Or.inr (Or.inl e'))
theorem keeps_bk {base q:Nat} {col:Nat→Nat} {w w':World} {p:Nat} {v0:Value} {c:Nat} (hb:Bk base col w p v0 c) (hq:29<q) (hq9:q<90) (hz:base≤w.heap.size) (hk:Keeps (fun b=>b<w.heap.size∧col b≠q) w w'):Bk base (newcol col w.heap.size q) w' p v0 c:=
 hb.frame (fun b h h8=>keeps_block hk h (by omega)) (fun b h _=>newcol_old h) (fun b h=>by rw [newcol_old (by omega)];exact hb.low b h) hk.size (Nat.le_refl _)
theorem SideAt.callx {base:Nat} {wz:World} {col:Nat→Nat} {w w':World} {sd cx cy x y:Nat} {n:Net} {vs vr vw:Value} {Rx Ry Rx':Rc} (h:SideAt wz col w sd cx cy x y n vs vr vw Rx Ry) (hlow:∀ b,b<base→90≤col b) (hz:Below wz.heap.size wz w) (hzb:wz.heap.size≤base) (hcx:29<cx) (hcx9:cx<90) (hne:cx≠cy)
  (hx':Has (fun b=>b<w.heap.size∧col b≠cx) x n Rx' w') (hk:Keeps (fun b=>b<w.heap.size∧col b≠cx) w w'):SideAt wz (newcol col w.heap.size cx) w' sd cx cy x y n vs vr vw Rx' Ry:=by
 have hs:=lt_of_blk h.blk
 have k2:∀ b,b<w.heap.size→¬ (b<w.heap.size∧col b≠cy)→col b=cy:=fun b hb e=>Classical.byContradiction fun e'=>e ⟨hb,e'⟩
 refine ⟨(keeps_block hk hs (by rw [h.csd];omega)).trans h.blk,(newcol_old hs).trans h.csd,?_,h.hy.turn (fun b hb e=>keeps_block hk hb (by rw [k2 b hb e];omega)) (fun b hb e e'=>e'.2 ((newcol_old hb).trans (k2 b hb e))) (fun b hb=>hb.1) (keeps_wz hlow hcx9 hz hzb hk)⟩
 obtain ⟨L,h1,h2,h3⟩:=hx'.ex
 refine ⟨⟨L,h1,h2,fun b hf e=>?_⟩,fun b e=>e.1⟩
 rcases Nat.lt_or_ge b w.heap.size with hb | hb
 ·exact h3 b hf ⟨hb,by have:=e.2;rw [newcol_old hb] at this;exact this⟩
 ·exact e.2 (newcol_new hb)
theorem SideAt.cally {wz:World} {col:Nat→Nat} {w w':World} {sd cx cy x y:Nat} {n:Net} {vs vr vw:Value} {Rx Ry Ry':Rc} (h:SideAt wz col w sd cx cy x y n vs vr vw Rx Ry) (hcy:29<cy) (hne:cx≠cy)
  (hy':RHas wz (fun b=>b<w.heap.size∧col b≠cy) y n Ry' w') (hk:Keeps (fun b=>b<w.heap.size∧col b≠cy) w w'):SideAt wz (newcol col w.heap.size cy) w' sd cx cy x y n vs vr vw Rx Ry':=by
 have hs:=lt_of_blk h.blk
 have k2:∀ b,b<w.heap.size→¬ (b<w.heap.size∧col b≠cx)→col b=cx:=fun b hb e=>Classical.byContradiction fun e'=>e ⟨hb,e'⟩
 refine ⟨(keeps_block hk hs (by rw [h.csd];omega)).trans h.blk,(newcol_old hs).trans h.csd,h.hx.turn (fun b hb e=>keeps_block hk hb (by rw [k2 b hb e];exact hne)) (fun b hb e e'=>e'.2 ((newcol_old hb).trans (k2 b hb e))) (fun b hb=>hb.1),?_⟩
 obtain ⟨L,h1,h2,h3,h4⟩:=hy'.ex
 refine ⟨⟨L,h1,h2,fun b hf e=>?_,h4⟩,fun b e=>e.1⟩
 rcases Nat.lt_or_ge b w.heap.size with hb | hb
 ·exact h3 b hf ⟨hb,by have:=e.2;rw [newcol_old hb] at this;exact this⟩
 ·exact e.2 (newcol_new hb)
theorem has_save {A:Nat→Prop} {p:Nat} {N:Net} {R:Rc} {w:World} (h:Has A p N R w) (hs:Saves N R) :
  Calls Tryz.prog 40 #[.pointer (some ⟨p,0,none⟩)] w fun e w'=>∃ v',e=.returned v'∧SvAt w.heap.size w' v' (bytesOf (saveNums N R))∧Below w.heap.size w w':=by
 obtain ⟨L,rfl,h2,h3⟩:=h.ex
 exact rsave_calls h2 hs
theorem ints_own {B:Nat} {w:World} {v:Value} {l:List Int} (h:w.ownsRow B 3 1 v l.length (intRow l)) (hl:l.length≤140737488355328):IntsAt w v l:=by
 obtain ⟨a,cap,rfl⟩:=own_slice h
 rcases Nat.eq_zero_or_pos l.length with h0 | h0
 ·exact ⟨a,cap,rfl,hl,by
   rcases h with ⟨-,e | ⟨g,c,cur,e, -, -,hn, -⟩⟩
   ·omega
   ·cases e;exact hn,Or.inl h0⟩
 ·obtain ⟨g,rfl, -, -⟩:=own_get h 0 h0
  refine ⟨_,cap,rfl,hl,by
   rcases h with ⟨-,e | ⟨g',c,cur,e, -, -,hn, -⟩⟩
   ·cases e.1
   ·cases e;exact hn,Or.inr ⟨g,0,rfl,fun i hi j hj=>?_⟩⟩
  have hj0:j=0:=by omega
  subst hj0
  obtain ⟨g',e, -,d⟩:=own_get h i hi
  cases e
  simpa using d
def getW (cl:Nat):List Int→Option (Wk×List Int)
 | a::b::c::d::e::f::l=>if 0≤a∧a≤cl then some (⟨a.toNat,fun i=>if i=0 then b else if i=1 then c else if i=2 then d else if i=3 then e else 0,f⟩,l) else none
 | _=>none
def getS (sourced used:Bool) (m0:Sm) (l:List Int):Option (Sm×List Int):=
 if sourced then
  match l with
  | x::l=>if 0≤x∧x≤m0.words.length then some ({m0 with read:=x.toNat},l) else none
  | _=>none
 else
  match l with
  | a::b::c::l=>if (0≤c∧c≤l.length∧0≤b∧b≤c)∧(m0.room≤a∧a≤40)∧(used=false→a=m0.room∧b=0)∧(used=true→c-b≤a) then some (⟨l.take c.toNat,b.toNat,a.toNat⟩,l.drop c.toNat) else none
  | _=>none
def parseW (N:Net):Nat→Rc→List Int→Option (Rc×List Int)
 | 0,R,l=>some (R,l)
 | k+1,R,l=>(getW (codeOf N (N.workers.length-(k+1))).length l).bind fun p=>parseW N k ⟨R.W.set (N.workers.length-(k+1)) p.1,R.S⟩ p.2
def parseS (N:Net):Nat→Rc→List Int→Option (Rc×List Int)
 | 0,R,l=>some (R,l)
 | k+1,R,l=>(getS (srcd N (N.streams.length-(k+1))) (used N (N.streams.length-(k+1))) (R.s (N.streams.length-(k+1))) l).bind fun p=>parseS N k ⟨R.W,R.S.set (N.streams.length-(k+1)) p.1⟩ p.2
def loadR (N:Net) (l rs:List Int):Option Rc:=
 (parseW N N.workers.length (initR N N.streams) l).bind fun p=>(parseS N N.streams.length p.1 p.2).bind fun q=>if q.2=[]∧rs=[] then some q.1 else none
theorem parseW_at {N:Net} {k:Nat} (h:k<N.workers.length) (R:Rc) (l:List Int):parseW N (N.workers.length-k) R l=(getW (codeOf N k).length l).bind fun p=>parseW N (N.workers.length-(k+1)) ⟨R.W.set k p.1,R.S⟩ p.2:=by
 obtain ⟨m,hm⟩:∃ m,N.workers.length-k=m+1:=⟨N.workers.length-k-1,by omega⟩
 rw [hm,parseW,show N.workers.length-(m+1)=k by omega,show N.workers.length-(k+1)=m by omega]
theorem parseS_at {N:Net} {k:Nat} (h:k<N.streams.length) (R:Rc) (l:List Int):parseS N (N.streams.length-k) R l=(getS (srcd N k) (used N k) (R.s k) l).bind fun p=>parseS N (N.streams.length-(k+1)) ⟨R.W,R.S.set k p.1⟩ p.2:=by
 obtain ⟨m,hm⟩:∃ m,N.streams.length-k=m+1:=⟨N.streams.length-k-1,by omega⟩
 rw [hm,parseS,show N.streams.length-(m+1)=k by omega,show N.streams.length-(k+1)=m by omega]
theorem getW_some {cl:Nat} {l l':List Int} {y:Wk} (h:getW cl l=some (y,l')):l=wkNums y++l'∧y.place≤cl∧((∀ x∈l,Fits64 x)→FitsA y):=by
 unfold getW at h
 split at h
 ·split at h
  ·rename_i a b c d e f l0 hc
   cases h
   refine ⟨by simp [wkNums];omega,by dsimp only;omega,fun hf=>⟨fun i=>?_,hf _ (by simp)⟩⟩
   dsimp only
   split
   ·exact hf _ (by simp)
   ·split
    ·exact hf _ (by simp)
    ·split
     ·exact hf _ (by simp)
     ·split
      ·exact hf _ (by simp)
      ·exact ⟨by decide,by decide⟩
  ·cases h
 ·cases h
theorem getW_none {cl:Nat} {l:List Int} (h:getW cl l=none):l.length<6∨∃ a l1,l=a::l1∧(a<0∨(cl:Int)<a):=by
 unfold getW at h
 split at h
 ·split at h
  ·cases h
  ·exact Or.inr ⟨_,_,rfl,by omega⟩
 ·rename_i hne
  refine Or.inl (Nat.lt_of_not_le fun h6=>?_)
  match l,h6,hne with
  | a::b::c::d::e::f::l0,_,hne=>exact hne a b c d e f l0 rfl
theorem getS_some {sourced used:Bool} {m0 m:Sm} {l l':List Int} (h:getS sourced used m0 l=some (m,l')) :
  l=stNums sourced m++l'∧m.read≤m.words.length∧(sourced=true→m.words=m0.words∧m.room=m0.room)∧(sourced=false→(∀ x∈m.words,x∈l)∧m0.room≤m.room∧m.room≤40∧(used=false→m.room=m0.room∧m.read=0)∧(used=true→m.words.length-m.read≤m.room)):=by
 unfold getS at h
 cases sourced with
 | true=>
  simp only [if_true] at h
  split at h
  ·split at h
   ·cases h
    refine ⟨by simp [stNums];omega,by dsimp only;omega,fun _=>⟨rfl,rfl⟩,fun e=>by cases e⟩
   ·cases h
  ·cases h
 | false=>
  simp only [Bool.false_eq_true,if_false] at h
  split at h
  ·rename_i a b c l0
   split at h
   ·rename_i hc
    obtain ⟨⟨h1,h2,h3,h4⟩,⟨h5,h6⟩,h7,h8⟩:=hc
    cases h
    have hlen:(l0.take c.toNat).length=c.toNat:=by rw [List.length_take];omega
    refine ⟨?_,by dsimp only;rw [hlen];omega,fun e=>(by cases e),fun _=>⟨fun x hx=>?_,by dsimp only;omega,by dsimp only;omega,fun e=>?_,fun e=>?_⟩⟩
    ·simp only [stNums,Bool.false_eq_true,if_false,hlen]
     rw [List.append_assoc,List.take_append_drop]
     simp;omega
    ·exact List.mem_cons_of_mem _ (List.mem_cons_of_mem _ (List.mem_cons_of_mem _ (List.mem_of_mem_take hx)))
    ·have:=h7 e;dsimp only;omega
    ·have:=h8 e;dsimp only;rw [hlen];omega
   ·cases h
  ·cases h
structure Half (N:Net) (R:Rc):Prop where
 lenW:R.W.length=N.workers.length
 lenS:R.S.length=N.streams.length
 room:RoomR N R
 grew:∀ s,s<N.streams.length→if heldB N s=true then (N.streams.getD s 0).toNat≤(R.s s).room else (R.s s).room=(N.streams.getD s 0).toNat
 fitsW:∀ k,k<N.workers.length→FitsA (R.w k)
 fitsS:∀ s,s<N.streams.length→∀ x∈(R.s s).words,Fits64 x
 nord:∀ s,s<N.streams.length→used N s=false→srcd N s=false→(R.s s).read=0
 src:∀ s,s<N.streams.length→srcd N s=true→(R.s s).words=srcWords N s
theorem Fine.half {N:Net} {R:Rc} {c:Nat} (h:Fine N R c):Half N R:=⟨h.lenW,h.lenS,h.room,h.grew,h.fitsW,h.fitsS,h.nord,h.src⟩
theorem set_w {R:Rc} {k:Nat} {y:Wk} (hk:k<R.W.length) (j:Nat):(⟨R.W.set k y,R.S⟩:Rc).w j=if j=k then y else R.w j:=by
 split
 ·rename_i e;subst e;exact getD_set_self _ _ _ _ hk
 ·rename_i e;exact getD_set_ne _ _ _ _ _ (fun e'=>e e'.symm)
theorem set_s {R:Rc} {k:Nat} {m:Sm} (hk:k<R.S.length) (j:Nat):(⟨R.W,R.S.set k m⟩:Rc).s j=if j=k then m else R.s j:=by
 split
 ·rename_i e;subst e;exact getD_set_self _ _ _ _ hk
 ·rename_i e;exact getD_set_ne _ _ _ _ _ (fun e'=>e e'.symm)
theorem Half.setW {N:Net} {R:Rc} (h:Half N R) {k:Nat} (hk:k<N.workers.length) {y:Wk} (hy:FitsA y):Half N ⟨R.W.set k y,R.S⟩:=by
 refine ⟨by simpa using h.lenW,h.lenS,h.room,h.grew,fun j hj=>?_,h.fitsS,h.nord,h.src⟩
 rw [set_w (by rw [h.lenW];exact hk)]
 split
 ·exact hy
 ·exact h.fitsW j hj
theorem Half.setS {N:Net} {R:Rc} (h:Half N R) {k:Nat} (hk:k<N.streams.length) {m:Sm} {l l':List Int} (hf:∀ x∈l,Fits64 x) (hg:getS (srcd N k) (used N k) (R.s k) l=some (m,l')):Half N ⟨R.W,R.S.set k m⟩:=by
 obtain ⟨-, -,h1,h2⟩:=getS_some hg
 have hks:k<R.S.length:=by rw [h.lenS];exact hk
 have hro:=h.room k hk
 have hgr:=h.grew k hk
 refine ⟨h.lenW,by simpa using h.lenS,fun j hj=>?_,fun j hj=>?_,h.fitsW,fun j hj=>?_,fun j hj=>?_,fun j hj=>?_⟩
 all_goals rw [set_s hks]
 all_goals by_cases e:j=k
 all_goals first | rw [if_pos e] | rw [if_neg e]
 ·subst e
  cases hs:srcd N j with
  | true=>rw [(h1 hs).2];exact hro
  | false=>exact (h2 hs).2.2.1
 ·exact h.room j hj
 ·subst e
  cases hs:srcd N j with
  | true=>rw [(h1 hs).2];exact hgr
  | false=>
   obtain ⟨-,q1, -,q3, -⟩:=h2 hs
   cases hu:used N j with
   | true=>
    have hh:heldB N j=true:=by simp [heldB,hu,hs]
    rw [hh] at hgr ⊢
    simp only [if_true] at hgr ⊢
    omega
   | false=>
    have hh:heldB N j=false:=by simp [heldB,hu]
    rw [hh] at hgr ⊢
    simp only [Bool.false_eq_true,if_false] at hgr ⊢
    rw [(q3 hu).1];exact hgr
 ·exact h.grew j hj
 ·subst e
  cases hs:srcd N j with
  | true=>rw [(h1 hs).1];exact h.fitsS j hj
  | false=>exact fun x hx=>hf x ((h2 hs).1 x hx)
 ·exact h.fitsS j hj
 ·subst e
  intro hu hs
  exact ((h2 hs).2.2.2.1 hu).2
 ·exact h.nord j hj
 ·subst e
  intro hs
  rw [(h1 hs).1];exact h.src j hj hs
 ·exact h.src j hj
theorem parseW_half {N:Net}:∀ (k:Nat) {R R':Rc} {l l':List Int},k≤N.workers.length→Half N R→(∀ x∈l,Fits64 x)→parseW N k R l=some (R',l')→Half N R'∧(∀ x∈l',Fits64 x)∧R'.S=R.S∧l.length=6*k+l'.length
 | 0,R,R',l,l',_,h,hf,e=>by
  simp only [parseW,Option.some.injEq,Prod.mk.injEq] at e
  obtain ⟨rfl,rfl⟩:=e
  exact ⟨h,hf,rfl,by omega⟩
 | k+1,R,R',l,l',hk,h,hf,e=>by
  rw [parseW,Option.bind_eq_some_iff] at e
  obtain ⟨⟨y,l1⟩,e1,e2⟩:=e
  obtain ⟨q1,q2,q3⟩:=getW_some e1
  have hf1:∀ x∈l1,Fits64 x:=fun x hx=>hf x (by rw [q1];exact List.mem_append_right _ hx)
  obtain ⟨r1,r2,r3,r4⟩:=parseW_half k (by omega) (h.setW (by omega) (q3 hf)) hf1 e2
  refine ⟨r1,r2,r3,?_⟩
  rw [q1,List.length_append,r4]
  simp [wkNums];omega
theorem saveS_congr {N:Net} {R S:Rc}:∀ t,(∀ s,s<t→S.s s=R.s s)→saveS N S t=saveS N R t
 | 0,_=>rfl
 | t+1,h=>by rw [saveS_succ,saveS_succ,saveS_congr t fun s hs=>h s (by omega),h t (by omega)]
theorem parseS_half {N:Net}:∀ (k:Nat) {R R':Rc} {l l':List Int},k≤N.streams.length→Half N R→(∀ x∈l,Fits64 x)→parseS N k R l=some (R',l')→Half N R'∧R'.W=R.W∧(saveS N R' N.streams.length).length+l'.length=(saveS N R (N.streams.length-k)).length+l.length
 | 0,R,R',l,l',_,h,hf,e=>by
  simp only [parseS,Option.some.injEq,Prod.mk.injEq] at e
  obtain ⟨rfl,rfl⟩:=e
  exact ⟨h,rfl,by simp⟩
 | k+1,R,R',l,l',hk,h,hf,e=>by
  rw [parseS,Option.bind_eq_some_iff] at e
  obtain ⟨⟨m,l1⟩,e1,e2⟩:=e
  obtain ⟨q1, -⟩:=getS_some e1
  have hf1:∀ x∈l1,Fits64 x:=fun x hx=>hf x (by rw [q1];exact List.mem_append_right _ hx)
  obtain ⟨r1,r2,r3⟩:=parseS_half k (by omega) (h.setS (by omega) hf e1) hf1 e2
  refine ⟨r1,r2,?_⟩
  have hks:N.streams.length-(k+1)<R.S.length:=by rw [h.lenS];omega
  rw [r3,show N.streams.length-k=N.streams.length-(k+1)+1 by omega,saveS_succ,List.length_append,set_s hks,if_pos rfl,saveS_congr (R:=R) _ fun s hs=>by rw [set_s hks,if_neg (by omega)]]
  have:=congrArg List.length q1
  rw [List.length_append] at this
  omega
theorem srcWords_le {N:Net} (hv:validB N=true) {s:Nat} (hs:s<N.streams.length) (hq:srcd N s=true):(srcWords N s).length≤50:=by
 have:=init_words hv s hs
 rw [initG_s _ _ hs] at this
 simpa [hq] using this
theorem saveS_le' (N:Net) (R:Rc) {t:Nat} (h:t≤N.streams.length):(saveS N R t).length≤(saveS N R N.streams.length).length:=by
 obtain ⟨m,hm⟩:∃ m,N.streams.length=t+m:=⟨N.streams.length-t,by omega⟩
 rw [hm]
 clear hm h
 induction m with
 | zero=>exact Nat.le_refl _
 | succ m ih=>rw [← Nat.add_assoc,saveS_succ,List.length_append];omega
theorem loadR_fine {N:Net} {R:Rc} {l rs:List Int} {c:Nat} (hv:validB N=true) (hf:NetFits N) (hl:∀ x∈l,Fits64 x) (hc:l.length≤500+c) (h:loadR N l rs=some R):Fine N R c:=by
 unfold loadR at h
 rw [Option.bind_eq_some_iff] at h
 obtain ⟨⟨R1,l1⟩,e1,e2⟩:=h
 rw [Option.bind_eq_some_iff] at e2
 obtain ⟨⟨R2,l2⟩,e2,e3⟩:=e2
 dsimp only at e2 e3
 split at e3
 ·rename_i hq
  cases e3
  obtain ⟨h1,h2,h3,h4⟩:=parseW_half _ (Nat.le_refl _) (Fine.init hv hf).half hl e1
  obtain ⟨k1,k2,k3⟩:=parseS_half _ (Nat.le_refl _) h1 h2 e2
  have hlen:(saveNums N R).length=l.length:=by
   rw [saveNums,List.length_append,saveW_length]
   rw [hq.1,Nat.sub_self] at k3
   simp only [saveS,List.range_zero,List.flatMap_nil,List.length_nil] at k3 ⊢
   omega
  refine ⟨k1.lenW,k1.lenS,k1.room,k1.grew,fun s hs=>?_,by omega,k1.fitsW,k1.fitsS,k1.nord,k1.src⟩
  cases hs':srcd N s with
  | true=>have:=srcWords_le hv hs hs';rw [k1.src s hs hs'];omega
  | false=>
   have h5:=saveS_le' N R (t:=s+1) (by omega)
   rw [saveS_succ,List.length_append] at h5
   have h6:(R.s s).words.length≤(stNums (srcd N s) (R.s s)).length:=by rw [hs'];simp [stNums];omega
   rw [saveNums,List.length_append] at hlen
   omega
 ·cases e3
def firstL (f:Nat→Int) (n i:Nat):List Value:=(List.range n).map fun j=>.int .i64 (if j<i then f j else 0)
theorem firstL_get (f:Nat→Int) (n i j:Nat) (h:j<n):(firstL f n i)[j]? = some (.int .i64 (if j<i then f j else 0)):=by simp [firstL,h]
theorem firstL_set (f:Nat→Int) (n i:Nat):(firstL f n i).set i (.int .i64 (f i))=firstL f n (i+1):=by
 refine List.ext_getElem? fun j=>?_
 rcases Nat.lt_or_ge j n with hj | hj
 ·rw [firstL_get _ _ _ _ hj]
  by_cases e:i=j
  ·subst e
   rw [List.getElem?_set_self (by simp [firstL];exact hj),if_pos (by omega)]
  ·rw [List.getElem?_set_ne e,firstL_get _ _ _ _ hj]
   by_cases h1:j<i
   ·rw [if_pos h1,if_pos (by omega)]
   ·rw [if_neg h1,if_neg (by omega)]
 ·rw [List.getElem?_eq_none (by simp [firstL];exact hj),List.getElem?_eq_none (by simp [firstL];exact hj)]
structure LdW (L:RLay) (W0:World) (N:Net) (R:Rc) (k sb:Nat) (f:Nat→Int) (i j:Nat) (wr:World):Prop where
 six:wr.heap[sb]? = some (.cells (firstL f 6 i).toArray 148 (0,0))
 row:∃ cs:List Value,wr.heap[L.gW]? = some (.cells cs.toArray 92 (0,0))∧∀ a,a<N.workers.length→∀ b,b<7→cs[a*7+b]? = if a=k∧1≤b∧b≤j then some (.int .i64 (f (b-1))) else (wCells (L.VC a) (R.w a))[b]?
 fr:Fr (fun b=>b=L.gW) W0 wr
 sbn:W0.heap.size≤sb
section
variable {L:RLay} {W0 wr:World} {N:Net} {R:Rc} {k sb i j:Nat} {f:Nat→Int}
theorem LdW.start (h:RefAt L W0 N R):LdW L W0 N R k W0.heap.size f 0 0 (W0.alloc (.cells (firstL f 6 0).toArray 148)):=by
 obtain ⟨cs,h1,h2⟩:=h.rowW
 refine ⟨heap_alloc_new _ _,⟨cs,(Below.heap_alloc _ _ _ (lt_of_blk h1)).trans h1,fun a ha b hb=>?_⟩,(Fr.refl _ _).alloc _,Nat.le_refl _⟩
 rw [if_neg (by omega)];exact h2 a ha b hb
theorem LdW.ne (h:LdW L W0 N R k sb f i j wr) (hr:RefAt L W0 N R):sb≠L.gW∧sb≠L.p∧L.gW≠L.p:=by
 obtain ⟨cs,h1, -⟩:=hr.rowW
 have h2:=lt_of_blk h1
 have h3:=lt_of_blk hr.blk
 have h4:=h.sbn
 exact ⟨by omega,by omega,ne_of_types h1 hr.blk (by decide)⟩
theorem LdW.cells (h:LdW L W0 N R k sb f i j wr) (hr:RefAt L W0 N R) (hk:k<N.workers.length):wr.cell? ⟨L.p,0,none⟩=some (.slice (some ⟨L.gS,0,none⟩) N.streams.length L.cS)∧wr.cell? ⟨L.p,1,none⟩=some (.slice (some ⟨L.gW,0,none⟩) N.workers.length L.cW) ∧
  (∀ a,a<6→wr.cell? ⟨sb,a,none⟩=some (.int .i64 (if a<i then f a else 0))∧wr.frozen? ⟨sb,a,none⟩=false)∧(∀ b,b<7→∃ u,wr.cell? ⟨L.gW,k*7+b,none⟩=some u∧wr.frozen? ⟨L.gW,k*7+b,none⟩=false)∧wr.cell? ⟨L.gW,k*7,none⟩=some (L.VC k)∧(1≤j→wr.cell? ⟨L.gW,k*7+1,none⟩=some (.int .i64 (f 0))):=by
 obtain ⟨cs,h1,h2⟩:=h.row
 have hp:=(h.fr.block L.p (lt_of_blk hr.blk) (h.ne hr).2.2.symm).trans hr.blk
 refine ⟨(blk_cell (l:=[_,_]) hp 0 _ rfl).1,(blk_cell (l:=[_,_]) hp 1 _ rfl).1,fun a ha=>⟨row_cell h.six (firstL_get _ _ _ _ ha),row_frozen h.six a⟩,fun b hb=>?_,?_,fun hj=>?_⟩
 ·have e:=h2 k hk b hb
  have:∃ u,cs[k*7+b]? = some u:=by
   rw [e]
   split
   ·exact ⟨_,rfl⟩
   ·rcases (show b=0∨b=1∨b=2∨b=3∨b=4∨b=5∨b=6 by omega) with rfl | rfl | rfl | rfl | rfl | rfl | rfl<;>exact ⟨_,rfl⟩
  obtain ⟨u,hu⟩:=this
  exact ⟨u,row_cell h1 hu,row_frozen h1 _⟩
 ·have e:=h2 k hk 0 (by decide)
  rw [if_neg (by omega),Nat.add_zero] at e
  exact row_cell h1 (e.trans rfl)
 ·have e:=h2 k hk 1 (by decide)
  rw [if_pos ⟨rfl,by omega,hj⟩] at e
  exact row_cell h1 e
theorem LdW.six_set (h:LdW L W0 N R k sb f i j wr) (hr:RefAt L W0 N R):LdW L W0 N R k sb f (i+1) j (wr.setCell ⟨sb,i,none⟩ (.int .i64 (f i))):=by
 obtain ⟨cs,h1,h2⟩:=h.row
 have hne:=h.ne hr
 refine ⟨?_,⟨cs,(heap_setCell_other _ _ _ _ hne.1.symm).trans h1,h2⟩,h.fr.setCell (p:=⟨sb,i,none⟩) (Or.inl h.sbn) _,h.sbn⟩
 rw [blk_set h.six,firstL_set]
theorem LdW.put (h:LdW L W0 N R k sb f 6 j wr) (hr:RefAt L W0 N R) (hk:k<N.workers.length) (hj:j<6):LdW L W0 N R k sb f 6 (j+1) (wr.setCell ⟨L.gW,k*7+(j+1),none⟩ (.int .i64 (f j))):=by
 obtain ⟨cs,h1,h2⟩:=h.row
 have hne:=h.ne hr
 have hl:k*7+(j+1)<cs.length:=by
  have e:=h2 k hk (j+1) (by omega)
  rw [if_neg (by omega)] at e
  have:∃ u,cs[k*7+(j+1)]? = some u:=by
   rw [e]
   rcases (show j=0∨j=1∨j=2∨j=3∨j=4∨j=5 by omega) with rfl | rfl | rfl | rfl | rfl | rfl<;>exact ⟨_,rfl⟩
  obtain ⟨u,hu⟩:=this
  exact (List.getElem?_eq_some_iff.1 hu).1
 refine ⟨(heap_setCell_other _ _ _ _ hne.1).trans h.six,⟨cs.set (k*7+(j+1)) (.int .i64 (f j)),blk_set h1 _ _,fun a ha b hb=>?_⟩,h.fr.setCell (p:=⟨L.gW,k*7+(j+1),none⟩) (Or.inr rfl) _,h.sbn⟩
 by_cases e:k*7+(j+1)=a*7+b
 ·have e1:a=k:=by omega
  have e2:b=j+1:=by omega
  subst e1 e2
  rw [List.getElem?_set_self hl,if_pos ⟨rfl,by omega,by omega⟩]
  rfl
 ·rw [List.getElem?_set_ne e,h2 a ha b hb]
  by_cases e1:a=k∧1≤b∧b≤j
  ·rw [if_pos e1,if_pos ⟨e1.1,e1.2.1,by omega⟩]
  ·rw [if_neg e1,if_neg (fun e2=>e1 ⟨e2.1,e2.2.1,by
    rcases Nat.lt_or_ge j b with h3 | h3
    ·exfalso
     have:b=j+1:=by omega
     exact e (by rw [e2.1,this])
    ·exact h3⟩)]
theorem LdW.drewN (h:LdW L W0 N R k sb f i j wr) (q:Nat):LdW L W0 N R k sb f i j (wr.drewN q):=⟨h.six,h.row,h.fr.drewN q,h.sbn⟩
theorem LdW.done (h:LdW L W0 N R k sb f 6 6 wr) (hr:RefAt L W0 N R) (hk:k<N.workers.length) (hcode:∀ a,a<N.workers.length→CodeAt wr (L.VC a) (codeOf N a)) {y:Wk} (hpl:y.place≤(codeOf N k).length) (hy:wkNums y=[f 0,f 1,f 2,f 3,f 4,f 5]):RefAt L wr N ⟨R.W.set k y,R.S⟩:=by
 obtain ⟨cs,h1,h2⟩:=h.row
 obtain ⟨ds,hd,hd2⟩:=hr.rowS
 obtain ⟨es,he, -⟩:=hr.rowW
 have hkl:k<R.W.length:=by rw [hr.lenW];exact hk
 simp only [wkNums,List.cons.injEq,and_true] at hy
 obtain ⟨y0,y1,y2,y3,y4,y5⟩:=hy
 refine ⟨?_,⟨ds,?_,hd2⟩,⟨cs,h1,fun a ha b hb=>?_⟩,fun s hs=>?_,hr.inj,hcode,by simpa using hr.lenW,hr.lenS,hr.le,fun a ha=>?_,hr.ok⟩
 ·exact (h.fr.block _ (lt_of_blk hr.blk) (h.ne hr).2.2.symm).trans hr.blk
 ·exact (h.fr.block _ (lt_of_blk hd) (ne_of_types hd he (by decide))).trans hd
 ·rw [h2 a ha b hb,set_w hkl]
  by_cases e:a=k
  ·subst e
   rw [if_pos rfl]
   rcases (show b=0∨b=1∨b=2∨b=3∨b=4∨b=5∨b=6 by omega) with rfl | rfl | rfl | rfl | rfl | rfl | rfl<;>simp [wCells,y0,y1,y2,y3,y4,y5]
  ·rw [if_neg (fun e'=>e e'.1),if_neg e]
 ·refine own_of_blockB (hr.words s hs) fun g hg=>h.fr.block g ((hr.words s hs).lt g hg).2 fun e=>?_
  exact own_ne_type (hr.words s hs) he (by decide) (e ▸ hg)
 ·rw [set_w hkl]
  split
  ·rename_i e;subst e;exact hpl
  ·exact hr.place a ha
end
theorem drop6 {l:List Int} {pos:Nat} (h:pos+6≤l.length):l.drop pos=[l.getD pos 0,l.getD (pos+1) 0,l.getD (pos+2) 0,l.getD (pos+3) 0,l.getD (pos+4) 0,l.getD (pos+5) 0]++l.drop (pos+6):=by
 rw [List.drop_eq_getElem_cons (by omega),List.drop_eq_getElem_cons (by omega),List.drop_eq_getElem_cons (by omega),List.drop_eq_getElem_cons (by omega),List.drop_eq_getElem_cons (by omega),List.drop_eq_getElem_cons (by omega)]
 rw [getD_eq _ _ _ (by omega),getD_eq _ _ _ (by omega),getD_eq _ _ _ (by omega),getD_eq _ _ _ (by omega),getD_eq _ _ _ (by omega),getD_eq _ _ _ (by omega)]
 rfl
theorem getW_drop {l:List Int} {pos cl:Nat} {f:Nat→Int} (hf:∀ i,f i=l.getD (pos+i) 0) (h:pos+6≤l.length) (h0:0≤f 0) (h1:f 0≤cl):∃ y,getW cl (l.drop pos)=some (y,l.drop (pos+6))∧wkNums y=[f 0,f 1,f 2,f 3,f 4,f 5]∧y.place≤cl:=by
 have e:=drop6 h
 rw [hf 0,Nat.add_zero] at h0 h1
 refine ⟨⟨(l.getD pos 0).toNat,fun i=>if i=0 then l.getD (pos+1) 0 else if i=1 then l.getD (pos+2) 0 else if i=2 then l.getD (pos+3) 0 else if i=3 then l.getD (pos+4) 0 else 0,l.getD (pos+5) 0⟩,?_,?_,by dsimp only;omega⟩
 ·rw [e]
  simp only [getW,List.cons_append,List.nil_append]
  rw [if_pos ⟨h0,h1⟩]
 ·rw [hf 0,hf 1,hf 2,hf 3,hf 4,hf 5,Nat.add_zero]
  clear e h1
  generalize l.getD pos 0=g0 at *
  simp [wkNums];omega
theorem getW_drop_none {l:List Int} {pos cl:Nat} {f:Nat→Int} (hf:∀ i,f i=l.getD (pos+i) 0) (h:pos+6≤l.length→0≤f 0→¬ f 0≤cl):getW cl (l.drop pos)=none:=by
 cases hg:getW cl (l.drop pos) with
 | none=>rfl
 | some yl=>
  exfalso
  obtain ⟨y,l'⟩:=yl
  obtain ⟨q1,q2, -⟩:=getW_some hg
  have hl:=congrArg List.length q1
  rw [List.length_drop,List.length_append] at hl
  simp only [wkNums,List.length_cons,List.length_nil] at hl
  have hp:pos<l.length:=by omega
  have h0:f 0=y.place:=by
   rw [hf 0,Nat.add_zero,getD_eq _ _ _ hp]
   rw [List.drop_eq_getElem_cons hp] at q1
   simp only [wkNums,List.cons_append] at q1
   exact (List.cons.inj q1).1
  exact h (by omega) (by omega) (by omega)
structure RAtW (p gS gW cS cW B:Nat) (wz w0:World) (N:Net) (l:List Int) (X:Option (Rc×List Int)) (k pos:Nat) (wr:World):Prop where
 ex:∃ L R,(L.p=p∧L.gS=gS∧L.gW=gW∧L.cS=cS∧L.cW=cW)∧RefAt L wr N R∧(∀ b,RFoot L N b→B≤b)∧(∀ a,a<N.workers.length→CodeAt wz (L.VC a) (codeOf N a))∧Half N R∧R.S=(initR N N.streams).S∧((parseW N (N.workers.length-k) R (l.drop pos)).bind fun q=>parseS N N.streams.length q.1 q.2)=X
 pos:pos≤l.length
 below:Below B w0 wr
structure RLoadOut (wz:World) (A:Nat→Prop) (n:Net) (l rs:List Int) (y:Option Addr) (fn:Int) (w':World):Prop where
 bad:validB n=false→y=none∧fn=1
 no:validB n=true→loadR n l rs=none→y=none∧fn=3
 yes:validB n=true→∀ R,loadR n l rs=some R→∃ p,y=some ⟨p,0,none⟩∧fn=0∧RHas wz A p n R w'
theorem RAtW.parts {p gS gW cS cW B:Nat} {wz w0:World} {N:Net} {l:List Int} {X:Option (Rc×List Int)} {k pos:Nat} {wr:World} (h:RAtW p gS gW cS cW B wz w0 N l X k pos wr):wr.cell? ⟨p,0,none⟩=some (.slice (some ⟨gS,0,none⟩) N.streams.length cS)∧wr.cell? ⟨p,1,none⟩=some (.slice (some ⟨gW,0,none⟩) N.workers.length cW):=by
 obtain ⟨L,R,⟨rfl,rfl,rfl,rfl,rfl⟩,h1, -⟩:=h.ex
 exact ⟨(blk_cell (l:=[_,_]) h1.blk 0 _ rfl).1,(blk_cell (l:=[_,_]) h1.blk 1 _ rfl).1⟩
end Go.Proofs.YthfdgdfnflilfaaGreatDoor

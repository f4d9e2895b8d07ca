/- Part 22: Race9, Race10, Race11, KeepM, Keep1, Keep2, Save4, Keep3, Keep4. -/
import Derived.Deep.LoopGhost
import Derived.Test.YthfdgdfnflilfaaGreatDoorPart10
import Derived.Test.YthfdgdfnflilfaaGreatDoorPart17
import Derived.Test.YthfdgdfnflilfaaGreatDoorPart19
import Derived.Test.YthfdgdfnflilfaaGreatDoorPart20
namespace Go.Proofs.YthfdgdfnflilfaaGreatDoor
open Go.RowKit Go.Conc
structure Went (L:Lay) (w:World) (N:Net) (R:Rc) (w':World):Prop where
 at':∃ L',RaceAt L' w' N R∧Grew L N w L'∧Fr (Foot L N) w w'
theorem Grew.trans {L L1 L2:Lay} {N:Net} {w w1:World} (h:Grew L N w L1) (hs:w.heap.size≤w1.heap.size) (k:Grew L1 N w1 L2):Grew L N w L2:=by
 obtain ⟨⟨a1,a2,a3,a4,a5⟩,a⟩:=h
 obtain ⟨⟨b1,b2,b3,b4,b5⟩,b⟩:=k
 refine ⟨⟨b1.trans a1,b2.trans a2,b3.trans a3,b4.trans a4,b5.trans a5⟩,fun x hx=>?_⟩
 rcases b x hx with h1 | h1
 ·exact a x h1
 ·exact Or.inr (Nat.le_trans hs h1)
theorem went_next {L L1:Lay} {N:Net} {w w1 w2:World} {R2:Rc} (g:Grew L N w L1) (f:Fr (Foot L N) w w1) (h:∃ L2,RaceAt L2 w2 N R2∧Grew L1 N w1 L2∧Fr (Foot L1 N) w1 w2):Went L w N R2 w2:=by
 obtain ⟨L2,r2,g2,f2⟩:=h
 refine ⟨L2,r2,g.trans f.size g2,f.trans f2 fun x hx hh=>?_⟩
 rcases g.2 x hh with h1 | h1
 ·exact h1
 ·omega
theorem Went.below {L:Lay} {N:Net} {w w1 w2:World} {R:Rc} (h:Went L w N R w1) (hb:Below w1.heap.size w1 w2):Went L w N R w2:=by
 obtain ⟨L1,r,g,f⟩:=h.at'
 exact went_next g f ⟨L1,r.below hb,Grew.refl _ _ _,Fr.of_below hb⟩
theorem Went.refl {L:Lay} {N:Net} {w:World} {R:Rc} (h:RaceAt L w N R):Went L w N R w:=⟨L,h,Grew.refl _ _ _,Fr.refl _ _⟩
theorem doStep_s {N:Net} {R:Rc} {k s:Nat} (hs:s<R.S.length):((doStep N R k).s s).room=(R.s s).room∧((doStep N R k).s s).words.length≤(R.s s).words.length+1:=by
 cases hi:insAt N k (R.w k) with
 | none=>simp [doStep,hi]
 | some i=>
  rw [doStep_some hi,step_s _ _ hs]
  split
  ·simp
  ·split
   ·simp
   ·simp
theorem growS_s (R:Rc) (t s:Nat) (ht:t<R.S.length):((growS R t).s s).room=(R.s s).room+(if s=t then 1 else 0):=by
 by_cases e:s=t
 ·subst e
  have:(growS R s).s s={ R.s s with room:=(R.s s).room+1}:=getD_set_self _ _ _ _ ht
  rw [this,if_pos rfl]
 ·have:(growS R t).s s=R.s s:=getD_set_ne _ _ _ _ _ (fun e'=>e e'.symm)
  rw [this,if_neg e];rfl
def slack (N:Net) (R:Rc):Nat:=((List.range N.streams.length).map fun s=>40-(R.s s).room).sum
theorem sum_map_congr (l:List Nat) (f g:Nat→Nat) (h:∀ x∈l,f x=g x):(l.map f).sum=(l.map g).sum:=by
 rw [List.map_congr_left h]
theorem sum_map_lt (f g:Nat→Nat) (t:Nat):∀ n,t<n→(∀ x,x<n→f x≤g x)→f t<g t→((List.range n).map f).sum<((List.range n).map g).sum:=by
 intro n
 induction n with
 | zero=>intro h;omega
 | succ n ih=>
  intro ht hle hlt
  rw [List.range_succ,List.map_append,List.map_append,List.sum_append,List.sum_append]
  simp only [List.map_cons,List.map_nil,List.sum_cons,List.sum_nil]
  by_cases e:t=n
  ·subst e
   have:((List.range t).map f).sum≤((List.range t).map g).sum:=by
    have h1:∀ m,m≤t→((List.range m).map f).sum≤((List.range m).map g).sum:=by
     intro m
     induction m with
     | zero=>intro _;simp
     | succ m ihm=>
      intro hm
      rw [List.range_succ,List.map_append,List.map_append,List.sum_append,List.sum_append]
      simp only [List.map_cons,List.map_nil,List.sum_cons,List.sum_nil]
      have:=ihm (by omega)
      have:=hle m (by omega)
      omega
    exact h1 t (Nat.le_refl _)
   omega
  ·have:=ih (by omega) (fun x hx=>hle x (by omega)) hlt
   have:=hle n (by omega)
   omega
theorem slack_step {N:Net} {R:Rc} {k:Nat} (hl:R.S.length=N.streams.length):slack N (doStep N R k)=slack N R:=by
 refine sum_map_congr _ _ _ fun s hs=>?_
 rw [(doStep_s (by rw [hl];exact List.mem_range.1 hs)).1]
theorem slack_grow {N:Net} {R:Rc} {t:Nat} (hl:R.S.length=N.streams.length) (ht:t<N.streams.length) (hr:(R.s t).room<40):slack N (growS R t)<slack N R:=by
 refine sum_map_lt _ _ t _ ht (fun x hx=>?_) ?_
 ·rw [growS_s _ _ _ (by omega)];omega
 ·rw [growS_s _ _ _ (by omega),if_pos rfl];omega
inductive Star {α : Type} (r : α → α → Prop) : α → α → Prop
 | refl {a : α}:Star r a a
 | head {a b c : α}:r a b→Star r b c→Star r a c
theorem Star.tail {α : Type} {r : α → α → Prop} {a b c : α} (h:Star r a b) (k:r b c):Star r a c:=by
 induction h with
 | refl=>exact .head k .refl
 | head h1 _ ih=>exact .head h1 (ih k)
theorem Star.end_unique {α : Type} {r : α → α → Prop} (det:∀ a b c,r a b→r a c→b=c) {a b c : α} (h:Star r a b) (hb:∀ x,¬ r b x) (k:Star r a c) (hc:∀ x,¬ r c x):b=c:=by
 induction h with
 | refl=>
  cases k with
  | refl=>rfl
  | head h1 _=>exact absurd h1 (hb _)
 | head h1 _ ih=>
  cases k with
  | refl=>exact absurd h1 (hc _)
  | head h2 k2=>
   have:=det _ _ _ h1 h2
   subst this
   exact ih hb k2
inductive FStep (N:Net) (m:Nat):Nat×Rc→Nat×Rc→Prop
 | step {d:Nat} {S:Rc} {k:Nat}:d<m→firstGo N S N.workers.length=some k→FStep N m (d,S) (d+1,doStep N S k)
 | grow {d:Nat} {S:Rc} {t:Nat}:d<m→firstGo N S N.workers.length=none→Grows N S t 0 (some t)→FStep N m (d,S) (d,growS S t)
def FlowTo (N:Net) (m:Nat) (R:Rc) (d:Nat) (S:Rc):Prop:=Star (FStep N m) (0,R) (d,S)
def FlowEnd (N:Net) (R:Rc) (m:Nat) (d:Nat) (b:Int) (S:Rc):Prop:=
 FlowTo N m R d S∧((d=m∧b=0)∨(d<m∧firstGo N S N.workers.length=none∧∃ a,Grows N S a b none))
theorem grows_one {N:Net} {R:Rc} {a a' b b':Int} {o o':Option Nat} (h:Grows N R a b o) (k:Grows N R a' b' o'):a=a'∧b=b'∧o=o':=by
 cases h with
 | goes h1=>
  cases k with
  | goes=>exact ⟨rfl,rfl,rfl⟩
  | none=>exact ⟨rfl,rfl,rfl⟩
  | full k1=>rw [h1] at k1;cases k1
  | grows k1=>rw [h1] at k1;cases k1
 | none h1=>
  cases k with
  | goes=>exact ⟨rfl,rfl,rfl⟩
  | none=>exact ⟨rfl,rfl,rfl⟩
  | full k1 k2=>have:=h1 _ k2.1;rw [k2.2.1] at this;cases this
  | grows k1 k2=>have:=h1 _ k2.1;rw [k2.2.1] at this;cases this
 | full h1 h2 h3=>
  cases k with
  | goes k1=>rw [h1] at k1;cases k1
  | none k1=>have:=k1 _ h2.1;rw [h2.2.1] at this;cases this
  | full=>exact ⟨rfl,rfl,rfl⟩
  | grows k1 k2 k3=>have:=h2.unique k2;subst this;omega
 | grows h1 h2 h3=>
  cases k with
  | goes k1=>rw [h1] at k1;cases k1
  | none k1=>have:=k1 _ h2.1;rw [h2.2.1] at this;cases this
  | full k1 k2 k3=>have:=h2.unique k2;subst this;omega
  | grows k1 k2 k3=>have:=h2.unique k2;subst this;exact ⟨rfl,rfl,rfl⟩
theorem fstep_det {N:Net} {m:Nat}:∀ a b c,FStep N m a b→FStep N m a c→b=c:=by
 intro a b c h k
 cases h with
 | step h1 h2=>
  cases k with
  | step k1 k2=>rw [h2] at k2;cases k2;rfl
  | grow k1 k2=>rw [h2] at k2;cases k2
 | grow h1 h2 h3=>
  cases k with
  | step k1 k2=>rw [h2] at k2;cases k2
  | grow k1 k2 k3=>have:=(grows_one h3 k3).2.2;cases this;rfl
theorem FlowEnd.stops {N:Net} {R:Rc} {m d:Nat} {b:Int} {S:Rc} (h:FlowEnd N R m d b S):∀ x,¬ FStep N m (d,S) x:=by
 intro x hx
 rcases h.2 with ⟨h1, -⟩ | ⟨h1,h2,a,h3⟩
 ·cases hx with
  | step k1=>omega
  | grow k1=>omega
 ·cases hx with
  | step k1 k2=>rw [h2] at k2;cases k2
  | grow k1 k2 k3=>have:=(grows_one h3 k3).2.2;cases this
theorem FlowEnd.unique {N:Net} {R:Rc} {m d d':Nat} {b b':Int} {S S':Rc} (h:FlowEnd N R m d b S) (k:FlowEnd N R m d' b' S'):d=d'∧b=b'∧S=S':=by
 have:=Star.end_unique fstep_det h.1 h.stops k.1 k.stops
 cases this
 refine ⟨rfl,?_,rfl⟩
 rcases h.2 with ⟨h1,h2⟩ | ⟨h1,h2,a,h3⟩
 ·rcases k.2 with ⟨k1,k2⟩ | ⟨k1, -⟩
  ·rw [h2,k2]
  ·omega
 ·rcases k.2 with ⟨k1,k2⟩ | ⟨k1,k2,a',k3⟩
  ·omega
  ·exact (grows_one h3 k3).2.1
theorem grows_err {N:Net} {R:Rc} {a b:Int} (h:Grows N R a b none):b=3∨b=4:=by
 cases h<;>simp
theorem grows_ok {N:Net} {R:Rc} {a b:Int} {t:Nat} (h:Grows N R a b (some t)):a=t∧b=0∧t<N.streams.length∧(R.s t).room<40:=by
 cases h with
 | grows h1 h2 h3=>exact ⟨rfl,rfl,h2.1,h3⟩
structure Held (N:Net) (R:Rc) (d:Nat) (S:Rc):Prop where
 len:S.S.length=N.streams.length
 room:RoomR N S
 words:∀ s,s<N.streams.length→(S.s s).words.length≤(R.s s).words.length+d
theorem Held.step {N:Net} {R S:Rc} {d k:Nat} (h:Held N R d S):Held N R (d+1) (doStep N S k):=by
 refine ⟨?_,fun s hs=>?_,fun s hs=>?_⟩
 ·cases hi:insAt N k (S.w k) with
  | none=>simp [doStep,hi,h.len]
  | some i=>rw [doStep_some hi];rw [nextS_length];exact h.len
 ·rw [(doStep_s (by rw [h.len];exact hs)).1];exact h.room s hs
 ·have:=(doStep_s (N:=N) (R:=S) (k:=k) (s:=s) (by rw [h.len];exact hs)).2
  have:=h.words s hs
  omega
theorem Held.grow {N:Net} {R S:Rc} {d t:Nat} (h:Held N R d S) (ht:t<N.streams.length) (hr:(S.s t).room<40):Held N R d (growS S t):=by
 refine ⟨by simp [growS,h.len],fun s hs=>?_,fun s hs=>?_⟩
 ·rw [growS_s _ _ _ (by rw [h.len];exact ht)]
  have:=h.room s hs
  split
  ·rename_i e;subst e;omega
  ·omega
 ·rw [(grow_s S t s).1];exact h.words s hs
set_option maxHeartbeats 1000000 in
theorem rflow_out {p:Nat} {w:World} (most:Int) (h:most<0∨100000<most) :
  Calls Tryz.prog 38 #[.pointer (some ⟨p,0,none⟩),.int .i64 most] w fun e w'=>e=.returned (.tuple #[.int .i64 0,.int .i64 2])∧w'=w:=by
 by_cases h0:most<0
 ·have h0':decide (most<0)=true:=by simpa using h0
  go_enter Tryz.func38,Tryz.ntmps38
  go_wp2
  go_ret2
  exact ⟨rfl,rfl⟩
 ·have h1:100000<most:=h.resolve_left h0
  have h0':decide (most<0)=false:=by simpa using h0
  have h1':decide (100000<most)=true:=by simpa using h1
  go_enter Tryz.func38,Tryz.ntmps38
  go_wp2
  go_ret2
  exact ⟨rfl,rfl⟩
set_option maxRecDepth 100000 in
set_option maxHeartbeats 1000000 in
theorem rflow_calls {L:Lay} {w:World} {N:Net} {R:Rc} (h:RaceAt L w N R) (hro:RoomR N R) (hw:∀ s,s<N.streams.length→(R.s s).words.length+100000<4398046511104) (m:Nat) (hm:m≤100000) :
  Calls Tryz.prog 38 #[.pointer (some ⟨L.p,0,none⟩),.int .i64 m] w fun e w'=>
   ∃ (d:Nat) (b:Int) (S:Rc),FlowEnd N R m d b S∧e=.returned (.tuple #[.int .i64 (d:Nat),.int .i64 b])∧Went L w N S w':=by
 have HF:Hid (∀ d wx S,Held N R d S→d≤100000→Went L w N S wx→Calls Tryz.prog 71 #[.pointer (some ⟨L.p,0,none⟩)] wx fun e w'=>e=.returned (.bool (firstGo N S N.workers.length).isSome)∧((firstGo N S N.workers.length=none∧Went L w N S w')∨(∃ k,firstGo N S N.workers.length=some k∧Went L w N (doStep N S k) w'))):=fun d wx S hh hd hq=>by
  obtain ⟨L1,r,g,f⟩:=hq.at'
  rw [← g.1.1]
  refine (stepFirst_calls r (fun s hs=>by have:=hh.words s hs;have:=hw s hs;omega)).mono fun e w' hx=>⟨hx.1,?_⟩
  rcases hx.2 with ⟨h1,h2⟩ | ⟨k, -, -,h1,h2⟩
  ·exact Or.inl ⟨h1,hq.below h2⟩
  ·exact Or.inr ⟨k,h1,went_next g f h2⟩
 have HG:Hid (∀ d wx S,Held N R d S→Went L w N S wx→Calls Tryz.prog 35 #[.pointer (some ⟨L.p,0,none⟩)] wx fun e w'=>∃ a b,e=.returned (.tuple #[.int .i64 a,.int .i64 b])∧((Grows N S a b none∧Went L w N S w')∨(∃ t,b=0∧Grows N S a b (some t)∧Went L w N (growS S t) w'))):=fun d wx S hh hq=>by
  obtain ⟨L1,r,g,f⟩:=hq.at'
  rw [← g.1.1]
  refine (rgrow_calls r hh.room).mono fun e w' hx=>?_
  obtain ⟨a,b,o,h1,h2,h3⟩:=hx
  refine ⟨a,b,h2,?_⟩
  cases o with
  | none=>exact Or.inl ⟨h1,hq.below h3⟩
  | some t=>exact Or.inr ⟨t,(grows_ok h1).2.1,h1,went_next g f h3⟩
 have HH0:Hid (Held N R 0 R):=⟨h.lenS,hro,fun s hs=>Nat.le_refl _⟩
 have HW0:=hide (Went.refl h)
 have h0':decide ((m:Int)<0)=false:=by simp
 have h1':decide ((100000:Int)<(m:Int))=false:=by simp;omega
 clear hw hro h
 generalize Went L w N=Wn at *
 go_enter Tryz.func38,Tryz.ntmps38
 go_wp2
 clear h0' h1'
 go_loopg [6] (m+slack N R) (fun g n wr=>∃ (d:Nat) (S:Rc),n=.int .i64 d∧d≤m∧g=(m-d)+slack N S∧FlowTo N m R d S∧Held N R d S∧Wn S wr)
 case atStart=>exact ⟨0,R,rfl,Nat.zero_le _,by omega,.refl,HH0.out,HW0.out⟩
 case round=>
  obtain ⟨d,S,rfl,hd,hg,hft,hhe,hwn⟩:=hrel
  have HD:=hide hg
  have HT:=hide hft
  have HE:=hide hhe
  clear hg hft hhe
  by_cases hlt:d<m
  ·have hlt':(d:Int)<(m:Int):=by omega
   have HF1:=hide (HF.out d wr S HE.out (by omega) hwn)
   clear HF
   cases hf:firstGo N S N.workers.length with
   | none=>
    have HFi:=hide hf
    rw [hf] at HF1
    clear hf
    go_wp2_with fail
    refine (unhide HF1).mono ?_
    rintro e w1 ⟨rfl,hx⟩
    have hw1:Wn S w1:=by
     rcases hx with ⟨-,hx⟩ | ⟨k,hk, -⟩
     ·exact hx
     ·cases hk
    have HG1:=hide (HG.out d w1 S HE.out hw1)
    clear hx HG HF1
    go_wp2_with fail
    refine (unhide HG1).mono ?_
    rintro e w2 ⟨a,b,rfl,⟨hgr,hw2⟩ | ⟨t,rfl,hgr,hw2⟩⟩
    ·have hb:(b != 0)=true:=by rcases grows_err hgr with rfl | rfl<;>rfl
     have HGr:=hide hgr
     clear hgr
     go_wp2
     go_ret2
     exact ⟨d,b,S,⟨HT.out,Or.inr ⟨hlt,HFi.out,a,HGr.out⟩⟩,rfl,hw2⟩
    ·obtain ⟨ha, -,htl,htr⟩:=grows_ok hgr
     subst ha
     have HGr:=hide hgr
     have HSl:=hide (slack_grow HE.out.len htl htr)
     have HHe:=hide (HE.out.grow htl htr)
     clear hgr htl htr
     go_wp2
     go_roundg ((m-d)+slack N (growS S t))
     case measure=>have:=HD.out;have:=HSl.out;omega
     case rel=>exact ⟨d,growS S t,rfl,hd,rfl,.tail HT.out (.grow hlt HFi.out HGr.out),HHe.out,hw2⟩
   | some k=>
    have HFi:=hide hf
    rw [hf] at HF1
    clear hf
    go_wp2_with fail
    refine (unhide HF1).mono ?_
    rintro e w1 ⟨rfl,hx⟩
    have hw1:Wn (doStep N S k) w1:=by
     rcases hx with ⟨hk, -⟩ | ⟨k',hk,hx⟩
     ·cases hk
     ·cases hk;exact hx
    have HSl:=hide (slack_step (k:=k) HE.out.len)
    clear hx HG HF1
    go_wp2
    go_roundg ((m-(d+1))+slack N (doStep N S k))
    case measure=>have:=HD.out;have:=HSl.out;omega
    case rel=>exact ⟨d+1,doStep N S k,by go_num,by omega,rfl,.tail HT.out (.step hlt HFi.out),HE.out.step,hw1⟩
  ·have e:d=m:=by omega
   subst e
   go_wp2
   go_ret2
   exact ⟨d,0,S,⟨HT.out,Or.inl ⟨rfl,rfl⟩⟩,rfl,hwn⟩
set_option maxHeartbeats 1000000 in
theorem rhistory_calls {L:Lay} {w:World} {N:Net} {R:Rc} (h:RaceAt L w N R) (s:Nat) (hs:s<N.streams.length) :
  Calls Tryz.prog 11 #[.pointer (some ⟨L.p,0,none⟩),.int .i64 s] w fun e w'=>∃ a' c',e=.returned (.tuple #[.slice a' (histOf (srcd N s) (R.s s)).length c',.int .i64 0]) ∧
   w'.ownsRow w.heap.size 3 1 (.slice a' (histOf (srcd N s) (R.s s)).length c') (histOf (srcd N s) (R.s s)).length (intRow (histOf (srcd N s) (R.s s)))∧Below w.heap.size w w':=by
 have hin:inB (s:Int) N.streams.length=true:=by simp [inB];omega
 have HH:=hide (hasStream_calls h s)
 rw [hin] at HH
 have hlen:=(valid_counts h.ok).2.1
 obtain ⟨ga,ca,gw,cw,hva,hvw,hc⟩:=h.forms
 obtain ⟨c0,c1,c2, -⟩:=hc w (Below.refl _ _)
 have d0:=c2 s hs
 have HP:=hide (shistory_calls (h.env.at' s hs))
 rw [hva] at c0
 have hk0:(0:Int)≤(s:Int):=by omega
 have hk1:(s:Int)<(N.streams.length:Int):=by omega
 clear hc c1 c2 hin h hva hvw
 generalize intRow (histOf (srcd N s) (R.s s))=ir at *
 generalize (histOf (srcd N s) (R.s s)).length=hl at *
 generalize N.streams.length=sl at *
 go_enter Tryz.func11,Tryz.ntmps11
 go_wp2_with fail
 refine (unhide HH).mono ?_
 rintro e w1 ⟨rfl,rfl⟩
 go_wp2_with fail
 refine (unhide HP).mono ?_
 rintro e w2 ⟨a',c',rfl,hown,hb⟩
 have HO:=hide hown
 have HB:=hide hb
 clear hown hb
 go_wp2
 go_ret2
 exact ⟨a',c',rfl,HO.out,HB.out⟩
set_option maxHeartbeats 1000000 in
theorem rhistory_out {L:Lay} {w:World} {N:Net} {R:Rc} (h:RaceAt L w N R) (k:Int) (hk:inB k N.streams.length=false) :
  Calls Tryz.prog 11 #[.pointer (some ⟨L.p,0,none⟩),.int .i64 k] w fun e w'=>e=.returned (.tuple #[.slice none 0 0,.int .i64 2])∧w'=w:=by
 have HH:=hide (hasStream_calls h k)
 rw [hk] at HH
 go_enter Tryz.func11,Tryz.ntmps11
 go_wp2_with fail
 refine (unhide HH).mono ?_
 rintro e w1 ⟨rfl,rfl⟩
 go_wp2
 go_ret2
 exact ⟨rfl,rfl⟩
set_option maxHeartbeats 1000000 in
theorem rroom_out {L:Lay} {w:World} {N:Net} {R:Rc} (h:RaceAt L w N R) (k:Int) (hk:inB k N.streams.length=false) :
  Calls Tryz.prog 66 #[.pointer (some ⟨L.p,0,none⟩),.int .i64 k] w fun e w'=>e=.returned (.tuple #[.int .i64 0,.int .i64 0,.int .i64 2])∧w'=w:=by
 have HH:=hide (hasStream_calls h k)
 rw [hk] at HH
 go_enter Tryz.func66,Tryz.ntmps66
 go_wp2_with fail
 refine (unhide HH).mono ?_
 rintro e w1 ⟨rfl,rfl⟩
 go_wp2
 go_ret3
 exact ⟨rfl,rfl⟩
def runM (N:Net):List Int→Nat→Rc→Nat×Int×Rc
 | [],d,R=>(d,0,R)
 | k::ks,d,R=>if inB k N.workers.length then (if stateOf N R k.toNat=1 then runM N ks (d+1) (doStep N R k.toNat) else runM N ks d R) else (d,2,R)
set_option maxRecDepth 100000 in
set_option maxHeartbeats 1000000 in
theorem rrun_calls {L:Lay} {w:World} {N:Net} {R:Rc} (h:RaceAt L w N R) {l:List Int} {v:Value} (hv:IntsAt w v l) (hsep:∀ b,v.ownBlock=some b→¬ Foot L N b) (hro:RoomR N R) (hw:∀ s,s<N.streams.length→(R.s s).words.length+l.length<4398046511104) :
  Calls Tryz.prog 10 #[.pointer (some ⟨L.p,0,none⟩),v] w fun e w'=>
   e=.returned (.tuple #[.int .i64 (runM N l 0 R).1,.int .i64 (runM N l 0 R).2.1])∧Went L w N (runM N l 0 R).2.2 w':=by
 obtain ⟨a,cap,rfl,hn,hcap,hc⟩:=hv.openD
 have HC:Hid (∀ wr,Fr (Foot L N) w wr→∀ k,k<l.length→∃ b off,a=some ⟨b,off,none⟩∧wr.cell? ⟨b,off+k,none⟩=some (.int .i64 (l.getD k 0))):=fun wr hf k hk=>by
  obtain ⟨b,off,ha,hlt,hd⟩:=hc k hk
  refine ⟨b,off,ha,?_⟩
  have e:=hd w (Below.refl _ _)
  have hb:b<w.heap.size:=lt_of_cell e
  rw [← e]
  exact World.cell?_of_block (w:=w) (hf.block b hb (hsep b (by rw [ha];rfl)))
 have HO:Hid (∀ d wx S,Held N R d S→d≤l.length→Went L w N S wx→∀ x:Int,inB x N.workers.length=false→Calls Tryz.prog 19 #[.pointer (some ⟨L.p,0,none⟩),.int .i64 x] wx fun e w'=>e=.returned (.tuple #[.int .i64 0,.int .i64 2])∧Went L w N S w'):=fun d wx S hh hd hq x hx=>by
  obtain ⟨L1,r,g,f⟩:=hq.at'
  rw [← g.1.1]
  exact (rstep_out r x hx).mono fun e w' hx=>⟨hx.1,by rw [hx.2];exact hq⟩
 have HS:Hid (∀ d wx S,Held N R d S→d<l.length→Went L w N S wx→∀ k:Nat,k<N.workers.length→Calls Tryz.prog 19 #[.pointer (some ⟨L.p,0,none⟩),.int .i64 k] wx fun e w'=>e=.returned (.tuple #[.int .i64 (stateOf N S k),.int .i64 0])∧Went L w N (if stateOf N S k=1 then doStep N S k else S) w'):=fun d wx S hh hd hq k hk=>by
  obtain ⟨L1,r,g,f⟩:=hq.at'
  rw [← g.1.1]
  refine (rstep_calls r k hk (fun s hs=>by have:=hh.words s hs;have:=hw s hs;omega)).mono fun e w' hx=>⟨hx.1,?_⟩
  rcases hx.2 with ⟨h1,h2⟩ | ⟨h1,h2⟩
  ·rw [if_neg h1];exact hq.below h2
  ·rw [if_pos h1];exact went_next g f h2
 have HH0:Hid (Held N R 0 R):=⟨h.lenS,hro,fun s hs=>Nat.le_refl _⟩
 have HW0:=hide (Went.refl h)
 have HFr:Hid (∀ S wx,Went L w N S wx→Fr (Foot L N) w wx):=fun S wx hq=>by obtain ⟨L1,r,g,f⟩:=hq.at';exact f
 have HR:Hid (∀ k (hk:k<l.length) d S,runM N (l.drop k) d S=if inB (l.getD k 0) N.workers.length then (if stateOf N S (l.getD k 0).toNat=1 then runM N (l.drop (k+1)) (d+1) (doStep N S (l.getD k 0).toNat) else runM N (l.drop (k+1)) d S) else (d,2,S)):=fun k hk d S=>by
  rw [List.drop_eq_getElem_cons hk,getD_eq _ _ _ hk];rfl
 have HR0:Hid (runM N (l.drop 0) 0 R=runM N l 0 R):=by rw [List.drop_zero];rfl
 have HRn:Hid (∀ k d S,¬ k<l.length→runM N (l.drop k) d S=(d,0,S)):=fun k d S hk=>by
  rw [List.drop_eq_nil_of_le (by omega)];rfl
 clear hw hro h hsep hc hv
 generalize Went L w N=Wn at *
 generalize runM N l 0 R=res at *
 generalize hl:l.length=n at *
 have HL:=hide hl
 clear hl
 go_enter Tryz.func10,Tryz.ntmps10
 go_wp2
 go_loopw [6,13] (fun dn i wr=>∃ (k d:Nat) (S:Rc),k≤n∧d≤k∧i=.int .i64 k∧dn=.int .i64 d∧Held N R d S∧Wn S wr∧runM N (l.drop k) d S=res) (fun _ i _=>n-(intOf i).toNat)
 case atStart=>exact ⟨0,0,R,Nat.zero_le _,Nat.le_refl _,rfl,rfl,HH0.out,HW0.out,HR0.out⟩
 case round=>
  obtain ⟨k,d,S,hk,hd,rfl,rfl,hhe,hwn,hres⟩:=hrel
  have HE:=hide hhe
  have HQ:=hide hres
  clear hhe hres
  by_cases hlt:k<n
  ·obtain ⟨b,off,rfl,e0⟩:=HC.out wr (HFr.out S wr hwn) k hlt
   have HQ1:=hide (HR.out k hlt d S)
   have hk0:(0:Int)≤(k:Int):=by omega
   have hk1:(k:Int)<(n:Int):=by omega
   have hd1:(d:Int)+1<9223372036854775807:=by omega
   clear HR HC
   generalize l.getD k 0=x at *
   cases hin:inB x N.workers.length
   ·have HO1:=hide (HO.out d wr S HE.out (by omega) hwn x hin)
    have HQ2:Hid (res=(d,2,S)):=by
     rw [← HQ.out,HQ1.out,hin];rfl
    clear HQ1 HO HS
    go_wp2_with fail
    refine (unhide HO1).mono ?_
    rintro e w1 ⟨rfl,hw1⟩
    go_wp2
    go_ret2
    exact ⟨by rw [HQ2.out];rfl,by rw [HQ2.out];exact hw1⟩
   ·obtain ⟨j,rfl⟩:∃ j:Nat,x=j:=⟨x.toNat,by simp [inB] at hin;omega⟩
    have hj:j<N.workers.length:=by simp [inB] at hin;omega
    have HS1:=hide (HS.out d wr S HE.out (by omega) hwn j hj)
    have HQ2:Hid (res=if stateOf N S j=1 then runM N (l.drop (k+1)) (d+1) (doStep N S j) else runM N (l.drop (k+1)) d S):=by
     rw [← HQ.out,HQ1.out,hin];simp [Hid]
    clear HQ1 HO HS hin hj
    by_cases hy:stateOf N S j=1
    ·rw [hy] at HS1
     have HQ3:Hid (runM N (l.drop (k+1)) (d+1) (doStep N S j)=res):=by rw [HQ2.out,if_pos hy];rfl
     clear HQ2 hy
     simp only [if_true] at HS1
     go_wp2_with fail
     refine (unhide HS1).mono ?_
     rintro e w1 ⟨rfl,hw1⟩
     go_wp2
     go_roundw
     case rel=>exact ⟨k+1,d+1,doStep N S j,by omega,by omega,by go_num,by go_num,HE.out.step,hw1,HQ3.out⟩
     case measure=>simp [intOf];omega
    ·have hz:((stateOf N S j:Int) == 1)=false:=by simp;omega
     have HQ3:Hid (runM N (l.drop (k+1)) d S=res):=by rw [HQ2.out,if_neg hy];rfl
     rw [if_neg hy] at HS1
     clear HQ2 hy
     generalize stateOf N S j=sv at *
     go_wp2_with fail
     refine (unhide HS1).mono ?_
     rintro e w1 ⟨rfl,hw1⟩
     go_wp2
     go_roundw
     case rel=>exact ⟨k+1,d,S,by omega,by omega,by go_num,rfl,HE.out,hw1,HQ3.out⟩
     case measure=>simp [intOf];omega
  ·have HQ2:Hid (res=(d,0,S)):=by rw [← HQ.out,HRn.out k d S hlt];rfl
   clear HR HC
   go_wp2
   go_ret2
   exact ⟨by rw [HQ2.out];rfl,by rw [HQ2.out];exact hwn⟩
theorem init_room {N:Net} (h:validB N=true):∀ s (hs:s<N.streams.length),((initR N N.streams).s s).room=N.streams[s].toNat∧1≤N.streams[s]∧N.streams[s]≤6:=by
 intro s hs
 have h1:1≤N.streams[s]∧N.streams[s]≤6:=by
  simp only [validB,validStreamsB,Bool.and_eq_true] at h
  have:=List.all_eq_true.1 h.1.1.1.2 N.streams[s] (List.getElem_mem hs)
  simpa using this
 refine ⟨?_,h1⟩
 simp [Rc.s,initR,List.getD,hs]
theorem init_roomR {N:Net} (h:validB N=true):RoomR N (initR N N.streams):=fun s hs=>by
 obtain ⟨h1,h2,h3⟩:=init_room h s hs
 rw [h1];omega
theorem init_words {N:Net} (h:validB N=true):∀ s,s<N.streams.length→((initR N N.streams).s s).words.length≤50:=by
 intro s hs
 have e:((initR N N.streams).s s).words=if srcd N s then srcWords N s else []:=by simp [Rc.s,initR,List.getD,hs]
 rw [e]
 split
 ·have hq:validSourcesB N.sources N.streams.length=true:=by
   simp only [validB,Bool.and_eq_true] at h;exact h.1.1.2
  unfold srcWords
  cases hf:N.sources.find? fun x=>x.stream == (s:Int) with
  | none=>simp
  | some x=>
   have hm:=List.mem_of_find?_eq_some hf
   obtain ⟨j,hj,rfl⟩:=List.getElem_of_mem hm
   have:=List.all_eq_true.1 hq j (List.mem_range.2 hj)
   rw [getD_eq _ _ _ hj] at this
   simp only [Bool.and_eq_true,decide_eq_true_eq] at this
   simpa using this.1.2
 ·simp
theorem RaceAt.frame {L:Lay} {w w':World} {N:Net} {R:Rc} (h:RaceAt L w N R) (hk:∀ b,Foot L N b→w'.heap[b]? = w.heap[b]?):RaceAt L w' N R:=by
 obtain ⟨g,cap,hv,cs,hg,hcs⟩:=h.rowW
 refine ⟨by rw [hk _ (Or.inl rfl)];exact h.blk,?_,⟨g,cap,hv,cs,by rw [hk g (Or.inr (Or.inr (Or.inl (by rw [hv];rfl))))];exact hg,hcs⟩,
  fun k hk'=>(h.wk k hk').stays fun y hy=>hk y (Or.inr (Or.inr (Or.inr (Or.inr ⟨k,hk',hy⟩)))),h.ch,h.injS,h.injW,h.lenW,h.lenS,h.ok⟩
 obtain ⟨g2,cap2,hv2,cs2,hg2,hcs2⟩:=h.env.along.form
 exact ⟨⟨⟨g2,cap2,hv2,cs2,by rw [hk g2 (Or.inr (Or.inl (by rw [hv2];rfl)))];exact hg2,hcs2⟩,h.env.along.small⟩,fun s hs=>(h.env.at' s hs).stays fun y hy=>hk y (Or.inr (Or.inr (Or.inr (Or.inl ⟨s,hs,hy⟩))))⟩
theorem RaceAt.foot_lt {L:Lay} {w:World} {N:Net} {R:Rc} (h:RaceAt L w N R) {b:Nat} (hb:Foot L N b):b<w.heap.size:=by
 rcases hb with rfl | hb | hb | ⟨s,hs,hb⟩ | ⟨j,hj,hb⟩
 ·exact lt_of_blk h.blk
 ·obtain ⟨g2,cap2,hv2,cs2,hg2,hcs2⟩:=h.env.along.form
  rw [hv2] at hb
  have:g2=b:=by simpa [Value.ownBlock] using hb
  subst this
  exact lt_of_blk hg2
 ·obtain ⟨g,cap,hv,cs,hg,hcs⟩:=h.rowW
  rw [hv] at hb
  have:g=b:=by simpa [Value.ownBlock] using hb
  subst this
  exact lt_of_blk hg
 ·have hst:=h.env.at' s hs
  rcases hb with rfl | hb | hb
  ·exact lt_of_blk hst.blk
  ·obtain ⟨cur,hc⟩:=own_block hst.own hb;exact lt_of_blk hc
  ·obtain ⟨⟨s',r,h1⟩,_⟩:=hst.chan b hb;exact lt_of_blk h1
 ·have hw:=h.wk j hj
  rcases hb with rfl | hb
  ·exact lt_of_blk hw.blk
  ·obtain ⟨cur,hc⟩:=own_block hw.own hb;exact lt_of_blk hc
structure Has (A:Nat→Prop) (p:Nat) (N:Net) (R:Rc) (w:World):Prop where
 ex:∃ L,L.p=p∧RaceAt L w N R∧∀ b,Foot L N b→¬ A b
 lt:∀ b,A b→b<w.heap.size
def Keeps (A:Nat→Prop) (w w':World):Prop:=Fr (fun b=>¬ A b) w w'
theorem Keeps.below {A:Nat→Prop} {n:Nat} {w w':World} (h:Keeps A w w') (hn:n≤w.heap.size) (hA:∀ b,b<n→A b):Below n w w':=
 ⟨h.os,h.tape,h.output,h.size,fun k hk=>h.block k (by omega) (fun e=>e (hA k hk))⟩
theorem Keeps.of_below {A:Nat→Prop} {w w':World} (h:Below w.heap.size w w'):Keeps A w w':=Fr.of_below h
theorem Keeps.trans {A:Nat→Prop} {a b c:World} (h:Keeps A a b) (k:Keeps A b c):Keeps A a c:=Fr.trans h k (fun _ _ e=>e)
theorem Has.mono {A B:Nat→Prop} {p:Nat} {N:Net} {R:Rc} {w:World} (h:Has A p N R w) (hs:∀ b,B b→A b):Has B p N R w:=by
 obtain ⟨L,h1,h2,h3⟩:=h.ex
 exact ⟨⟨L,h1,h2,fun b hb hB=>h3 b hb (hs b hB)⟩,fun b hb=>h.lt b (hs b hb)⟩
theorem Has.below {A:Nat→Prop} {p:Nat} {N:Net} {R:Rc} {w w':World} (h:Has A p N R w) (hb:Below w.heap.size w w'):Has A p N R w':=by
 obtain ⟨L,h1,h2,h3⟩:=h.ex
 exact ⟨⟨L,h1,h2.below hb,h3⟩,fun b hA=>Nat.lt_of_lt_of_le (h.lt b hA) hb.size⟩
theorem Has.add {A:Nat→Prop} {p:Nat} {N:Net} {R:Rc} {w w':World} (h:Has A p N R w) (hb:Below w.heap.size w w'):Has (fun b=>A b∨(w.heap.size≤b∧b<w'.heap.size)) p N R w':=by
 obtain ⟨L,h1,h2,h3⟩:=h.ex
 refine ⟨⟨L,h1,h2.below hb,fun b hf hA=>?_⟩,fun b hA=>?_⟩
 ·rcases hA with hA | hA
  ·exact h3 b hf hA
  ·have:=h2.foot_lt hf;omega
 ·rcases hA with hA | hA
  ·have:=h.lt b hA;have:=hb.size;omega
  ·exact hA.2
theorem Has.went {A:Nat→Prop} {L:Lay} {N:Net} {S:Rc} {w w':World} (hA:∀ b,Foot L N b→¬ A b) (hlt:∀ b,A b→b<w.heap.size) (h:Went L w N S w'):Has A L.p N S w'∧Keeps A w w':=by
 obtain ⟨L',r,g,f⟩:=h.at'
 refine ⟨⟨⟨L',g.1.1,r,fun b hb hAb=>?_⟩,fun b hAb=>Nat.lt_of_lt_of_le (hlt b hAb) f.size⟩,f.mono fun k _ hk=>hA k hk⟩
 rcases g.2 b hb with h1 | h1
 ·exact hA b h1 hAb
 ·have:=hlt b hAb;omega
def heldB (N:Net) (s:Nat):Bool:=used N s && !srcd N s
theorem RaceAt.ch_iff {L:Lay} {w:World} {N:Net} {R:Rc} (h:RaceAt L w N R) {s:Nat} (hs:s<N.streams.length):(L.CH s).isSome=heldB N s:=by
 cases hq:srcd N s
 ·have:=h.ch s hs hq
  cases h1:(L.CH s).isSome<;>cases h2:used N s<;>simp [heldB,hq,h1,h2] at this ⊢
 ·cases h1:L.CH s with
  | none=>simp [heldB,hq]
  | some c=>have:=(h.env.at' s hs).nosrc c h1;rw [hq] at this;cases this
def stepR (N:Net) (R:Rc) (k:Nat):Rc:=if stateOf N R k=1 then doStep N R k else R
theorem has_step {A:Nat→Prop} {p:Nat} {N:Net} {R:Rc} {w:World} (h:Has A p N R w) (k:Nat) (hk:k<N.workers.length) (hsm:SmallR N R) :
  Calls Tryz.prog 19 #[.pointer (some ⟨p,0,none⟩),.int .i64 k] w fun e w'=>e=.returned (.tuple #[.int .i64 (stateOf N R k),.int .i64 0])∧Has A p N (stepR N R k) w'∧Keeps A w w':=by
 obtain ⟨L,rfl,h2,h3⟩:=h.ex
 refine (rstep_calls h2 k hk hsm).mono fun e w' ⟨h4,h5⟩=>⟨h4,?_⟩
 rcases h5 with ⟨h5,h6⟩ | ⟨h5,h6⟩
 ·rw [stepR,if_neg h5];exact ⟨h.below h6,Keeps.of_below h6⟩
 ·rw [stepR,if_pos h5];exact Has.went h3 h.lt ⟨h6⟩
theorem has_step_out {A:Nat→Prop} {p:Nat} {N:Net} {R:Rc} {w:World} (h:Has A p N R w) (k:Int) (hk:inB k N.workers.length=false) :
  Calls Tryz.prog 19 #[.pointer (some ⟨p,0,none⟩),.int .i64 k] w fun e w'=>e=.returned (.tuple #[.int .i64 0,.int .i64 2])∧w'=w:=by
 obtain ⟨L,rfl,h2,h3⟩:=h.ex
 exact rstep_out h2 k hk
theorem has_look {A:Nat→Prop} {p:Nat} {N:Net} {R:Rc} {w:World} (h:Has A p N R w) (k:Nat) (hk:k<N.workers.length) :
  Calls Tryz.prog 62 #[.pointer (some ⟨p,0,none⟩),.int .i64 k] w fun e w'=>e=.returned (.tuple #[lookVal (R.w k) (stateOf N R k),.int .i64 0])∧Below w.heap.size w w':=by
 obtain ⟨L,rfl,h2,h3⟩:=h.ex
 exact rlook_calls h2 k hk
theorem has_grow {A:Nat→Prop} {p:Nat} {N:Net} {R:Rc} {w:World} (h:Has A p N R w) (hro:RoomR N R) :
  Calls Tryz.prog 35 #[.pointer (some ⟨p,0,none⟩)] w fun e w'=>∃ a b o,Grows N R a b o∧e=.returned (.tuple #[.int .i64 a,.int .i64 b])∧Has A p N (o.elim R (growS R)) w'∧Keeps A w w':=by
 obtain ⟨L,rfl,h2,h3⟩:=h.ex
 refine (rgrow_calls h2 hro).mono fun e w' ⟨a,b,o,h4,h5,h6⟩=>⟨a,b,o,h4,h5,?_⟩
 cases o with
 | none=>exact ⟨h.below h6,Keeps.of_below h6⟩
 | some t=>exact Has.went h3 h.lt ⟨h6⟩
theorem has_flow {A:Nat→Prop} {p:Nat} {N:Net} {R:Rc} {w:World} (h:Has A p N R w) (hro:RoomR N R) (hw:∀ s,s<N.streams.length→(R.s s).words.length+100000<4398046511104) (m:Nat) (hm:m≤100000) :
  Calls Tryz.prog 38 #[.pointer (some ⟨p,0,none⟩),.int .i64 m] w fun e w'=>∃ (d:Nat) (b:Int) (S:Rc),FlowEnd N R m d b S∧e=.returned (.tuple #[.int .i64 (d:Nat),.int .i64 b])∧Has A p N S w'∧Keeps A w w':=by
 obtain ⟨L,rfl,h2,h3⟩:=h.ex
 exact (rflow_calls h2 hro hw m hm).mono fun e w' ⟨d,b,S,h4,h5,h6⟩=>⟨d,b,S,h4,h5,Has.went h3 h.lt h6⟩
theorem has_history {A:Nat→Prop} {p:Nat} {N:Net} {R:Rc} {w:World} (h:Has A p N R w) (s:Nat) (hs:s<N.streams.length) :
  Calls Tryz.prog 11 #[.pointer (some ⟨p,0,none⟩),.int .i64 s] w fun e w'=>∃ a' c',e=.returned (.tuple #[.slice a' (histOf (srcd N s) (R.s s)).length c',.int .i64 0]) ∧
   w'.ownsRow w.heap.size 3 1 (.slice a' (histOf (srcd N s) (R.s s)).length c') (histOf (srcd N s) (R.s s)).length (intRow (histOf (srcd N s) (R.s s)))∧Below w.heap.size w w':=by
 obtain ⟨L,rfl,h2,h3⟩:=h.ex
 exact rhistory_calls h2 s hs
theorem has_new {n:Net} {v:Value} {w:World} (h:NetAt w v n) (hok:validB n=true) :
  Calls Tryz.prog 13 #[v] w fun e w'=>∃ p,e=.returned (.tuple #[.pointer (some ⟨p,0,none⟩),.int .i64 0])∧Has (fun b=>b<w.heap.size) p n (initR n n.streams) w'∧Below w.heap.size w w':=
 (new_calls h hok).mono fun e w' ⟨L,h1,h2,h3,h4⟩=>⟨L.p,h1,⟨⟨L,rfl,h2,fun b hb hlt=>by have:=h3 b hb;omega⟩,fun b hb=>Nat.lt_of_lt_of_le hb h4.size⟩,h4⟩
theorem has_len {A:Nat→Prop} {p:Nat} {N:Net} {R:Rc} {w:World} (h:Has A p N R w):R.W.length=N.workers.length∧R.S.length=N.streams.length∧validB N=true:=by
 obtain ⟨L,rfl,h2,h3⟩:=h.ex
 exact ⟨h2.lenW,h2.lenS,h2.ok⟩
theorem own_get {w:World} {n:Nat} {a:Option Addr} {cap:Nat} {l:List Int} (h:w.ownsRow n 3 1 (.slice a l.length cap) l.length (intRow l)):∀ i,i<l.length→∃ g,a=some ⟨g,0,none⟩∧n≤g∧w.cell? ⟨g,i,none⟩=some (.int .i64 (l.getD i 0)):=by
 obtain ⟨h1,h2⟩:=h
 rcases h2 with ⟨h3,h4⟩ | ⟨g,cap,cur,hv,hg,hh,hn,hm,hs,ht⟩
 ·intro i hi;omega
 ·intro i hi
  cases hv
  refine ⟨g,rfl,hg,?_⟩
  have e:(intRow l)[i]? = some (.int .i64 (l.getD i 0)):=by rw [intRow_get _ _ hi,getD_eq _ _ _ hi]
  rw [← ht] at e
  simp only [Nat.mul_one] at e
  rw [List.getElem?_take_of_lt hi] at e
  simp [World.cell?,hh]
  simpa using e
def saveW (R:Rc) (k:Nat):List Int:=(List.range k).flatMap fun j=>wkNums (R.w j)
def saveS (N:Net) (R:Rc) (k:Nat):List Int:=(List.range k).flatMap fun s=>stNums (srcd N s) (R.s s)
def saveNums (N:Net) (R:Rc):List Int:=saveW R N.workers.length++saveS N R N.streams.length
theorem saveW_succ (R:Rc) (k:Nat):saveW R (k+1)=saveW R k++wkNums (R.w k):=by simp [saveW,List.range_succ]
theorem saveS_succ (N:Net) (R:Rc) (k:Nat):saveS N R (k+1)=saveS N R k++stNums (srcd N k) (R.s k):=by simp [saveS,List.range_succ]
theorem saveW_length (R:Rc) (k:Nat):(saveW R k).length=6*k:=by
 induction k with
 | zero=>rfl
 | succ k ih=>rw [saveW_succ,List.length_append,ih];simp [wkNums];omega
theorem saveS_length (N:Net) (R:Rc) (k W:Nat) (h:∀ s,s<k→(R.s s).words.length≤W):(saveS N R k).length≤k*(3+W):=by
 induction k with
 | zero=>simp [saveS]
 | succ k ih=>
  rw [saveS_succ,List.length_append]
  have h1:=ih fun s hs=>h s (by omega)
  have h2:=h k (by omega)
  have h3:(stNums (srcd N k) (R.s k)).length≤3+W:=by
   unfold stNums
   split
   ·simp;omega
   ·simp;omega
  rw [Nat.succ_mul];omega
structure Saves (N:Net) (R:Rc):Prop where
 rd:∀ s,s<N.streams.length→used N s=false→srcd N s=false→(R.s s).read=0
 words:∀ s,s<N.streams.length→(R.s s).words.length≤274877906944
theorem Wrote.below {B:Nat} {w w':World} {v v':Value} {s s':List Int} (h:Wrote B w v s' v' w') (hs:SvAt B w v s) (hB:B≤w.heap.size):Below B w w':=
 ⟨h.fr.os,h.fr.tape,h.fr.output,h.fr.size,fun k hk=>h.fr.block k (by omega) fun e=>by have:=(hs.lt e).2;omega⟩
set_option maxRecDepth 100000 in
set_option maxHeartbeats 2000000 in
theorem rsave_calls {L:Lay} {w:World} {N:Net} {R:Rc} (h:RaceAt L w N R) (hsv:Saves N R) :
  Calls Tryz.prog 40 #[.pointer (some ⟨L.p,0,none⟩)] w fun e w'=>∃ v',e=.returned v'∧SvAt w.heap.size w' v' (bytesOf (saveNums N R))∧Below w.heap.size w w':=by
 obtain ⟨hs1,hs8,hw1,hw6⟩:=valid_counts h.ok
 obtain ⟨ga,ca,gw,cw,hva,hvw,hc⟩:=h.forms
 have HC:Hid (∀ wx,Below w.heap.size w wx→wx.cell? ⟨L.p,0,none⟩=some (.slice (some ⟨ga,0,none⟩) N.streams.length ca)∧wx.cell? ⟨L.p,1,none⟩=some (.slice (some ⟨gw,0,none⟩) N.workers.length cw)∧(∀ s,s<N.streams.length→wx.cell? ⟨ga,s,none⟩=some (.pointer (some ⟨L.st s,0,none⟩)))∧(∀ k,k<N.workers.length→wx.cell? ⟨gw,k,none⟩=some (.pointer (some ⟨L.wb k,0,none⟩)))):=fun wx hx=>by
  obtain ⟨q0,q1,q2,q3⟩:=hc wx hx
  rw [hva] at q0;rw [hvw] at q1
  exact ⟨q0,q1,q2,q3⟩
 have HW:Hid (∀ wx,Below w.heap.size w wx→∀ k,k<N.workers.length→∀ v,SvAt w.heap.size wx v (bytesOf (saveW R k))→Calls Tryz.prog 72 #[.pointer (some ⟨L.wb k,0,none⟩),v] wx fun e w'=>∃ v',e=.returned v'∧SvAt w.heap.size w' v' (bytesOf (saveW R (k+1)))∧Below w.heap.size w w'):=fun wx hx k hk v hv=>by
  refine (wsave_calls ((h.below hx).wk k hk) hx.size hv (by rw [bytesOf_length,saveW_length];omega)).mono fun e w' ⟨v',q1,q2⟩=>⟨v',q1,?_,hx.trans (q2.below hv hx.size)⟩
  rw [saveW_succ,bytesOf_append];exact q2.at'
 have HS:Hid (∀ wx,Below w.heap.size w wx→∀ k,k<N.streams.length→∀ v,SvAt w.heap.size wx v (bytesOf (saveW R N.workers.length++saveS N R k))→Calls Tryz.prog 73 #[.pointer (some ⟨L.st k,0,none⟩),v] wx fun e w'=>∃ v',e=.returned v'∧SvAt w.heap.size w' v' (bytesOf (saveW R N.workers.length++saveS N R (k+1)))∧Below w.heap.size w w'):=fun wx hx k hk v hv=>by
  have hr:=h.below hx
  have hl:(bytesOf (saveW R N.workers.length++saveS N R k)).length≤35184372088832:=by
   rw [bytesOf_length,List.length_append,saveW_length]
   have h1:=saveS_length N R k 274877906944 fun s hs=>hsv.words s (by omega)
   have h2:k*(3+274877906944)≤8*(3+274877906944):=Nat.mul_le_mul_right _ (by omega)
   omega
  refine (ssave_calls (hr.env.at' k hk) (fun q1 q2=>hsv.rd k hk ?_ q2) hx.size hv hl (by have:=hsv.words k hk;omega)).mono fun e w' ⟨v',q1,q2⟩=>⟨v',q1,?_,hx.trans (q2.below hv hx.size)⟩
  ·have:=hr.ch_iff hk
   rw [q1] at this
   simp [heldB,q2] at this
   exact this
  ·rw [saveS_succ, ← List.append_assoc,bytesOf_append _ (stNums _ _)];exact q2.at'
 have H0:Hid (SvAt w.heap.size w (.slice none 0 0) (bytesOf (saveW R 0))):=⟨rfl,Or.inl ⟨rfl,rfl⟩⟩
 have HE:Hid (saveNums N R=saveW R N.workers.length++saveS N R N.streams.length):=rfl
 have HE0:Hid (∀ k,saveW R k++saveS N R 0=saveW R k):=fun k=>by simp [saveS]
 clear h hc hva hvw hsv
 generalize N.workers.length=wl at *
 generalize N.streams.length=sl at *
 obtain ⟨q0,q1, -, -⟩:=HC.out w (Below.refl _ _)
 go_enter Tryz.func40,Tryz.ntmps40
 go_wp2
 go_loopw [3,13] (fun st i wr=>∃ (k:Nat) (v':Value),k≤wl∧i=.int .i64 k∧v'=st∧SvAt w.heap.size wr v' (bytesOf (saveW R k))∧Below w.heap.size w wr) (fun _ i _=>wl-(intOf i).toNat)
 case atStart=>exact ⟨0,_,Nat.zero_le _,rfl,rfl,H0.out,Below.refl _ _⟩
 case round=>
  clear H0 q0 q1
  obtain ⟨k,v1,hk,rfl,rfl,hsv,hb⟩:=hrel
  obtain ⟨q0,q1,q2,q3⟩:=HC.out wr hb
  by_cases hlt:k<wl
  ·have d0:=q3 k hlt
   have HW1:=hide (HW.out wr hb k hlt v1 hsv)
   have hk0:(0:Int)≤(k:Int):=by omega
   have hk1:(k:Int)<(wl:Int):=by omega
   clear HW HS HC q2 q3 hsv hb
   go_wp2_with fail
   refine (unhide HW1).mono ?_
   rintro e w1 ⟨v2,rfl,h1,h2⟩
   have H1:=hide h1
   have H2:=hide h2
   clear h1 h2 HW1
   go_wp2
   go_roundw
   case rel=>exact ⟨k+1,_,by omega,by go_num,rfl,H1.out,H2.out⟩
   case measure=>simp [intOf];omega
  ·have hkl:k=wl:=by omega
   subst hkl
   have HSv:Hid (SvAt w.heap.size wr v1 (bytesOf (saveW R k++saveS N R 0))):=by rw [HE0.out];exact hsv
   have HB:=hide hb
   clear HW q2 q3 hsv hb
   go_wp2
   go_loopw [3,26] (fun st i wq=>∃ (j:Nat) (v':Value),j≤sl∧i=.int .i64 j∧v'=st∧SvAt w.heap.size wq v' (bytesOf (saveW R k++saveS N R j))∧Below w.heap.size w wq) (fun _ i _=>sl-(intOf i).toNat)
   case atStart=>exact ⟨0,_,Nat.zero_le _,rfl,rfl,HSv.out,HB.out⟩
   case round=>
    clear HSv HB q0 q1
    obtain ⟨j,v2,hj,rfl,rfl,hsv,hb⟩:=hrel
    obtain ⟨q0,q1,q2,q3⟩:=HC.out wr hb
    by_cases hlt2:j<sl
    ·have d0:=q2 j hlt2
     have HS1:=hide (HS.out wr hb j hlt2 v2 hsv)
     have hj0:(0:Int)≤(j:Int):=by omega
     have hj1:(j:Int)<(sl:Int):=by omega
     clear HS HC q2 q3 hsv hb
     go_wp2_with fail
     refine (unhide HS1).mono ?_
     rintro e w1 ⟨v3,rfl,h1,h2⟩
     have H1:=hide h1
     have H2:=hide h2
     clear h1 h2 HS1
     go_wp2
     go_roundw
     case rel=>exact ⟨j+1,_,by omega,by go_num,rfl,H1.out,H2.out⟩
     case measure=>simp [intOf];omega
    ·have hjl:j=sl:=by omega
     subst hjl
     have H1:=hide hsv
     have H2:=hide hb
     clear HS HC q2 q3 hsv hb
     go_wp2
     go_ret
     exact ⟨v2,rfl,by rw [HE.out];exact H1.out,H2.out⟩
end Go.Proofs.YthfdgdfnflilfaaGreatDoor

/- Part 15: Load6, Save3, Save4, Load7, Load8, Keep3, Keep4, Keep5, KeepG, Fine, Side1, Play0. -/
import Derived.Defers
import Derived.Recover
import Derived.Test.YthfdgdfnflilfaaGreatDoorPart14
namespace Go.Proofs.YthfdgdfnflilfaaGreatDoor
open Go.RowKit Go.Conc
theorem foot_w {L:Lay} {N:Net} {k:Nat} (hk:k<N.workers.length):Foot L N (L.wb k):=Or.inr (Or.inr (Or.inr (Or.inr ⟨k,hk,Or.inl rfl⟩)))
theorem foot_s {L:Lay} {N:Net} {s:Nat} (hs:s<N.streams.length):Foot L N (L.st s):=Or.inr (Or.inr (Or.inr (Or.inl ⟨s,hs,Or.inl rfl⟩)))
theorem RaceAt.setW {L:Lay} {w w':World} {N:Net} {R:Rc} (h:RaceAt L w N R) {k:Nat} (hk:k<N.workers.length) {y:Wk}
  (hw':WkAt w' (L.wb k) (L.VC k) (codeOf N k) y) (hf:∀ z,Foot L N z→z≠L.wb k→w'.heap[z]? = w.heap[z]?):RaceAt L w' N ⟨R.W.set k y,R.S⟩:=by
 have hwb:=(h.wk k hk).blk
 obtain ⟨⟨ga,gcap,hva,csa,hga,hcsa⟩,hsm⟩:=h.env.along
 obtain ⟨gw,wcap,hvw',csw,hgw,hcsw⟩:=h.rowW
 have hlk:k<R.W.length:=by rw [h.lenW];exact hk
 refine ⟨?_,⟨⟨⟨ga,gcap,hva,csa,?_,hcsa⟩,hsm⟩,fun t ht=>?_⟩,⟨gw,wcap,hvw',csw,?_,hcsw⟩,fun j hj=>?_,h.ch,h.injS,h.injW,by simp [h.lenW],h.lenS,h.ok⟩
 ·rw [hf _ (Or.inl rfl) (ne_of_types h.blk hwb (by decide))];exact h.blk
 ·rw [hf _ (Or.inr (Or.inl (by rw [hva];rfl))) (ne_of_types hga hwb (by decide))];exact hga
 ·have hT:=h.env.at' t ht
  refine hT.stays fun z hz=>hf z (Or.inr (Or.inr (Or.inr (Or.inl ⟨t,ht,hz⟩)))) ?_
  rcases hz with rfl | hz | hz
  ·exact ne_of_types hT.blk hwb (by decide)
  ·obtain ⟨cur,hc⟩:=own_block hT.own hz;exact ne_of_types hc hwb (by decide)
  ·obtain ⟨⟨a,r,h1⟩,_⟩:=hT.chan z hz;exact chan_ne_cells h1 hwb
 ·rw [hf _ (Or.inr (Or.inr (Or.inl (by rw [hvw'];rfl)))) (ne_of_types hgw hwb (by decide))];exact hgw
 ·by_cases e:j=k
  ·subst e
   have:(⟨R.W.set j y,R.S⟩:Rc).w j=y:=getD_set_self _ _ _ _ hlk
   rw [this];exact hw'
  ·have:(⟨R.W.set k y,R.S⟩:Rc).w j=R.w j:=getD_set_ne _ _ _ _ _ (fun e'=>e e'.symm)
   rw [this]
   have hJ:=h.wk j hj
   refine hJ.stays fun z hz=>hf z (Or.inr (Or.inr (Or.inr (Or.inr ⟨j,hj,hz⟩)))) ?_
   rcases hz with rfl | hz
   ·exact h.injW j k hj hk e
   ·obtain ⟨cur,hc⟩:=own_block hJ.own hz;exact ne_of_types hc hwb (by decide)
theorem RaceAt.setS {L:Lay} {w w':World} {N:Net} {R:Rc} (h:RaceAt L w N R) {s:Nat} (hs:s<N.streams.length) {vw':Value} {ch':Option Nat} {m':Sm}
  (hst:StAt w' (L.st s) vw' ch' (srcd N s) m') (hvw:∀ g,vw'.ownBlock=some g→(L.VW s).ownBlock=some g∨w.heap.size≤g) (hch:∀ c,ch'=some c→L.CH s=some c∨w.heap.size≤c) (hsome:ch'.isSome=(L.CH s).isSome)
  (hf:∀ z,Foot L N z→z≠L.st s→w'.heap[z]? = w.heap[z]?) :
  RaceAt { L with VW:=fun t=>if t=s then vw' else L.VW t,CH:=fun t=>if t=s then ch' else L.CH t} w' N ⟨R.W,R.S.set s m'⟩:=by
 have hsA:=h.env.at' s hs
 have hsb:=hsA.blk
 obtain ⟨⟨ga,gcap,hva,csa,hga,hcsa⟩,hsm⟩:=h.env.along
 obtain ⟨gw,wcap,hvw',csw,hgw,hcsw⟩:=h.rowW
 have hls:s<R.S.length:=by rw [h.lenS];exact hs
 refine ⟨?_,⟨⟨⟨ga,gcap,hva,csa,?_,hcsa⟩,hsm⟩,fun t ht=>?_⟩,⟨gw,wcap,hvw',csw,?_,hcsw⟩,fun j hj=>?_,fun t ht hq=>?_,fun t u ht hu hne=>?_,h.injW,h.lenW,by simp [h.lenS],h.ok⟩
 ·rw [hf _ (Or.inl rfl) (ne_of_types h.blk hsb (by decide))];exact h.blk
 ·rw [hf _ (Or.inr (Or.inl (by rw [hva];rfl))) (ne_of_types hga hsb (by decide))];exact hga
 ·dsimp only
  by_cases e:t=s
  ·subst e
   rw [if_pos rfl,if_pos rfl]
   have:(⟨R.W,R.S.set t m'⟩:Rc).s t=m':=getD_set_self _ _ _ _ hls
   rw [this];exact hst
  ·rw [if_neg e,if_neg e]
   have:(⟨R.W,R.S.set s m'⟩:Rc).s t=R.s t:=getD_set_ne _ _ _ _ _ (fun e'=>e e'.symm)
   rw [this]
   have hT:=h.env.at' t ht
   refine hT.stays fun z hz=>hf z (Or.inr (Or.inr (Or.inr (Or.inl ⟨t,ht,hz⟩)))) ?_
   rcases hz with rfl | hz | hz
   ·exact (h.injS t s ht hs e).1
   ·obtain ⟨cur,hc⟩:=own_block hT.own hz;exact ne_of_types hc hsb (by decide)
   ·obtain ⟨⟨a,r,h1⟩,_⟩:=hT.chan z hz;exact chan_ne_cells h1 hsb
 ·rw [hf _ (Or.inr (Or.inr (Or.inl (by rw [hvw'];rfl)))) (ne_of_types hgw hsb (by decide))];exact hgw
 ·have hJ:=h.wk j hj
  refine hJ.stays fun z hz=>hf z (Or.inr (Or.inr (Or.inr (Or.inr ⟨j,hj,hz⟩)))) ?_
  rcases hz with rfl | hz
  ·exact ne_of_types hJ.blk hsb (by decide)
  ·obtain ⟨cur,hc⟩:=own_block hJ.own hz;exact ne_of_types hc hsb (by decide)
 ·dsimp only
  by_cases e:t=s
  ·subst e
   rw [if_pos rfl,hsome];exact h.ch t ht hq
  ·rw [if_neg e];exact h.ch t ht hq
 ·obtain ⟨i1,i2,i3⟩:=h.injS t u ht hu hne
  have own_lt:∀ x,x<N.streams.length→∀ g,(L.VW x).ownBlock=some g→g<w.heap.size:=fun x hx g hg=>by
   obtain ⟨cur,hc⟩:=own_block (h.env.at' x hx).own hg;exact lt_of_blk hc
  have ch_lt:∀ x,x<N.streams.length→∀ c,L.CH x=some c→c<w.heap.size:=fun x hx c hc=>by
   obtain ⟨⟨a,r,h1⟩,_⟩:=(h.env.at' x hx).chan c hc;exact lt_of_blk h1
  refine ⟨i1,fun g hg hg'=>?_,fun c hc hc'=>?_⟩
  ·dsimp only at hg hg'
   by_cases e:t=s
   ·subst e
    rw [if_pos rfl] at hg
    rw [if_neg (fun e'=>hne e'.symm)] at hg'
    rcases hvw g hg with h1 | h1
    ·exact i2 g h1 hg'
    ·have:=own_lt u hu g hg';omega
   ·rw [if_neg e] at hg
    by_cases e2:u=s
    ·subst e2
     rw [if_pos rfl] at hg'
     rcases hvw g hg' with h1 | h1
     ·exact i2 g hg h1
     ·have:=own_lt t ht g hg;omega
    ·rw [if_neg e2] at hg'
     exact i2 g hg hg'
  ·dsimp only at hc hc'
   by_cases e:t=s
   ·subst e
    rw [if_pos rfl] at hc
    rw [if_neg (fun e'=>hne e'.symm)] at hc'
    rcases hch c hc with h1 | h1
    ·exact i3 c h1 hc'
    ·have:=ch_lt u hu c hc';omega
   ·rw [if_neg e] at hc
    by_cases e2:u=s
    ·subst e2
     rw [if_pos rfl] at hc'
     rcases hch c hc' with h1 | h1
     ·exact i3 c hc h1
     ·have:=ch_lt t ht c hc;omega
    ·rw [if_neg e2] at hc'
     exact i3 c hc hc'
theorem RaceAt.not_rd {L:Lay} {w:World} {N:Net} {R:Rc} (h:RaceAt L w N R) {rb:Nat} {v:Value} (hb:w.heap[rb]? = some (.cells #[v] 158 (0,0))):¬ Foot L N rb:=fun hf=>by
 rcases hf with rfl | hf | hf | ⟨s,hs,hf⟩ | ⟨j,hj,hf⟩
 ·exact ne_of_types h.blk hb (by decide) rfl
 ·obtain ⟨g2,cap2,hv2,cs2,hg2,hcs2⟩:=h.env.along.form
  rw [hv2] at hf
  have:g2=rb:=by simpa [Value.ownBlock] using hf
  subst this
  exact ne_of_types hg2 hb (by decide) rfl
 ·obtain ⟨g,cap,hv,cs,hg,hcs⟩:=h.rowW
  rw [hv] at hf
  have:g=rb:=by simpa [Value.ownBlock] using hf
  subst this
  exact ne_of_types hg hb (by decide) rfl
 ·have hst:=h.env.at' s hs
  rcases hf with rfl | hf | hf
  ·exact ne_of_types hst.blk hb (by decide) rfl
  ·obtain ⟨cur,hc⟩:=own_block hst.own hf;exact ne_of_types hc hb (by decide) rfl
  ·obtain ⟨⟨s',r,h1⟩,_⟩:=hst.chan rb hf;exact ne_of_chan hb h1 rfl
 ·have hw:=h.wk j hj
  rcases hf with rfl | hf
  ·exact ne_of_types hw.blk hb (by decide) rfl
  ·obtain ⟨cur,hc⟩:=own_block hw.own hf;exact ne_of_types hc hb (by decide) rfl
theorem StAt.saved {w w1:World} {b:Nat} {vw:Value} {ch:Option Nat} {sourced:Bool} {m:Sm} (h:StAt w b vw ch sourced m) {B:Nat} {v v1:Value} {s s1:List Int} (hs:SvAt B w v s) (h1:Wrote B w v s1 v1 w1):StAt w1 b vw ch sourced m:=by
 refine h.stays fun y hy=>?_
 rcases hy with rfl | hy | hy
 ·exact h1.fr.block _ (lt_of_blk h.blk) (hs.ne h.blk (by decide))
 ·obtain ⟨cur,hc⟩:=own_block h.own hy
  exact h1.fr.block _ (lt_of_blk hc) (hs.ne hc (by decide))
 ·obtain ⟨⟨p,q,hc⟩, -⟩:=h.chan y hy
  exact h1.fr.block _ (lt_of_blk hc) (hs.ne_chan hc)
theorem StAt.ints {w:World} {b:Nat} {vw:Value} {ch:Option Nat} {sourced:Bool} {m:Sm} (h:StAt w b vw ch sourced m):IntsAt w vw m.words:=by
 obtain ⟨a,cap,rfl,hcap,hc⟩:=own_form h.own
 refine ⟨a,cap,rfl,by have:=h.small;omega,hcap,?_⟩
 rcases Nat.eq_zero_or_pos m.words.length with h0 | h0
 ·exact Or.inl h0
 ·obtain ⟨g,rfl, -⟩:=hc 0 h0
  refine Or.inr ⟨g,0,rfl,fun i hi j hj=>?_⟩
  obtain ⟨g',e,d⟩:=hc i hi
  cases e
  have hj0:j=0:=by omega
  subst hj0
  simpa using d
set_option maxRecDepth 100000 in
set_option maxHeartbeats 2000000 in
theorem ssave_src {w:World} {b:Nat} {vw:Value} {m:Sm} (h:StAt w b vw none true m) {B:Nat} {v:Value} {s:List Int} (hB:B≤w.heap.size) (hs:SvAt B w v s) (hlen:s.length≤35184372088832) :
  Calls Tryz.prog 73 #[.pointer (some ⟨b,0,none⟩),v] w fun e w'=>∃ v',e=.returned v'∧Wrote B w v (s++bytesOf (stNums true m)) v' w':=by
 obtain ⟨c0,c1,c2,c3,cf⟩:=h.cells
 simp only [if_true] at c2
 have HA1:Hid (Calls Tryz.prog 88 #[v,.slice (some ⟨w.heap.size,0,none⟩) 1 1] (w.alloc (.cells #[.int .i64 m.read] 3)) fun e w'=>∃ v',e=.returned v'∧Wrote B w v (s++bytesOf (stNums true m)) v' w'):=append_new [(m.read:Int)] (by simp) hB hs (by omega)
 clear h hs cf
 go_enter Tryz.func73,Tryz.ntmps73
 go_wp2_with fail
 refine (unhide HA1).mono ?_
 rintro e w1 ⟨v1,rfl,h1⟩
 have H1:=hide h1
 clear h1 HA1
 go_wp2
 go_ret
 exact ⟨v1,rfl,H1.out⟩
theorem ssave_rest {w:World} {b:Nat} {vw:Value} {ch:Option Nat} {m:Sm} (h:StAt w b vw ch false m) {B:Nat} {v:Value} {s:List Int} (hB:B≤w.heap.size) (hs:SvAt B w v s) (hlen:s.length≤35184372088832) (hw:m.words.length≤1099511627776) (q:Nat) :
  Calls Tryz.prog 88 #[v,.slice (some ⟨w.heap.size,0,none⟩) 3 3] ((w.drewN q).alloc (.cells #[.int .i64 m.room,.int .i64 m.read,.int .i64 m.words.length] 3)) fun e w'=>∃ v',e=.returned v'∧(w'.cell? ⟨b,1,none⟩=some vw ∧
   Calls Tryz.prog 88 #[v',vw] w' fun e w''=>∃ v'',e=.returned v''∧Wrote B w v (s++bytesOf (stNums false m)) v'' w''):=by
 have h':StAt (w.drewN q) b vw ch false m:=h.stays fun _ _=>rfl
 refine (append_new (w:=w.drewN q) [(m.room:Int),(m.read:Int),(m.words.length:Int)] (by simp) hB hs (by omega)).mono fun e w' ⟨v',q1,q2⟩=>⟨v',q1,?_⟩
 have h1:=h'.saved hs q2
 refine ⟨h1.cells.2.1,(append_calls (Nat.le_trans hB q2.fr.size) q2.at' h1.ints (fun g hg e=>?_) (by simp [bytesOf_length];omega)).mono fun e w'' ⟨v'',r1,r2⟩=>⟨v'',r1,?_⟩⟩
 ·obtain ⟨cur,hc⟩:=own_block h1.own e
  exact q2.at'.ne hc (by decide) hg
 ·have e:s++bytesOf [(m.room:Int),(m.read:Int),(m.words.length:Int)]++bytesOf m.words=s++bytesOf (stNums false m):=by simp [bytesOf,stNums]
  rw [e] at r2
  exact (q2.trans r2).of_draw
set_option maxRecDepth 100000 in
set_option maxHeartbeats 2000000 in
theorem ssave_unread {w:World} {b:Nat} {vw:Value} {m:Sm} (h:StAt w b vw none false m) (hr:m.read=0) {B:Nat} {v:Value} {s:List Int} (hB:B≤w.heap.size) (hs:SvAt B w v s) (hlen:s.length≤35184372088832) (hw:m.words.length≤1099511627776) :
  Calls Tryz.prog 73 #[.pointer (some ⟨b,0,none⟩),v] w fun e w'=>∃ v',e=.returned v'∧Wrote B w v (s++bytesOf (stNums false m)) v' w':=by
 obtain ⟨c0,c1,c2,c3,cf⟩:=h.cells
 have c4:w.cell? ⟨b,4,none⟩=some (.int .i64 (m.room:Int)):=row_cell h.blk rfl
 have hne:=fun (wx:World) (a:Option Nat)=>run_neq_chan_nil (P:=Tryz.prog) wx 109 a Tryz.underlying109
 have HA:=hide (ssave_rest h hB hs hlen hw 0)
 rw [hr] at HA
 obtain ⟨aw,capw,hvw, -, -⟩:=own_form h.own
 clear h hs cf c2
 subst hvw
 generalize m.words.length=ml at *
 generalize (m.room:Int)=mr at *
 go_enter Tryz.func73,Tryz.ntmps73
 go_wp2_with fail
 refine (unhide HA).mono ?_
 rintro e w1 ⟨v1,rfl,d1,h1⟩
 have H1:=hide h1
 clear h1 HA
 go_wp2_with fail
 refine (unhide H1).mono ?_
 rintro e w2 ⟨v2,rfl,h2⟩
 have H2:=hide h2
 clear h2 H1
 go_wp2
 go_ret
 exact ⟨v2,rfl,H2.out⟩
set_option maxRecDepth 100000 in
set_option maxHeartbeats 2000000 in
theorem ssave_held {w:World} {b c:Nat} {vw:Value} {m:Sm} (h:StAt w b vw (some c) false m) {B:Nat} {v:Value} {s:List Int} (hB:B≤w.heap.size) (hs:SvAt B w v s) (hlen:s.length≤35184372088832) (hw:m.words.length≤1099511627776) :
  Calls Tryz.prog 73 #[.pointer (some ⟨b,0,none⟩),v] w fun e w'=>∃ v',e=.returned v'∧Wrote B w v (s++bytesOf (stNums false m)) v' w':=by
 obtain ⟨c0,c1,c2,c3,cf⟩:=h.cells
 have c4:w.cell? ⟨b,4,none⟩=some (.int .i64 0):=row_cell h.blk rfl
 have hne:=fun (wx:World) (a:Option Nat)=>run_neq_chan_nil (P:=Tryz.prog) wx 109 a Tryz.underlying109
 obtain ⟨⟨s0,r0,hc⟩,hcap,hroom⟩:=h.chan c rfl
 have hlen':=fun (q:Nat) ty=>run_len_chan (P:=Tryz.prog) (w:=w.drewN q) 109 ty Tryz.underlying109 hc
 have hcp:=fun (q:Nat) ty=>run_cap_chan (P:=Tryz.prog) (w:=w.drewN q) 109 ty Tryz.underlying109 hc
 simp only [unread_size] at hlen'
 have hle:=h.le
 have HA:=hide (fun q=>ssave_rest h hB hs hlen hw q)
 have wr1:IntKind.i64.wrap ((m.words.length:Int)-((m.words.length-m.read:Nat):Int))=(m.read:Int):=by rw [IntKind.wrap_i64];omega
 obtain ⟨aw,capw,hvw, -, -⟩:=own_form h.own
 clear h hs cf c2 hc
 subst hvw
 generalize m.words.length-m.read=un at *
 generalize m.words.length=ml at *
 go_enter Tryz.func73,Tryz.ntmps73
 go_wp2
 go_quiet (fail)
 go_wp2_with fail
 refine (unhide HA _).mono ?_
 rintro e w1 ⟨v1,rfl,d1,h1⟩
 have H1:=hide h1
 clear h1 HA
 go_wp2_with fail
 refine (unhide H1).mono ?_
 rintro e w2 ⟨v2,rfl,h2⟩
 have H2:=hide h2
 clear h2 H1
 go_wp2
 go_ret
 exact ⟨v2,rfl,H2.out⟩
theorem ssave_calls {w:World} {b:Nat} {ch:Option Nat} {sourced:Bool} {vw:Value} {m:Sm} (h:StAt w b vw ch sourced m) (hr:ch=none→sourced=false→m.read=0) {B:Nat} {v:Value} {s:List Int} (hB:B≤w.heap.size) (hs:SvAt B w v s) (hlen:s.length≤35184372088832) (hw:m.words.length≤1099511627776) :
  Calls Tryz.prog 73 #[.pointer (some ⟨b,0,none⟩),v] w fun e w'=>∃ v',e=.returned v'∧Wrote B w v (s++bytesOf (stNums sourced m)) v' w':=by
 cases sourced with
 | true=>
  cases ch with
  | none=>exact ssave_src h hB hs hlen
  | some c=>have:=h.nosrc c rfl;cases this
 | false=>
  cases ch with
  | none=>exact ssave_unread h (hr rfl rfl) hB hs hlen hw
  | some c=>exact ssave_held h hB hs hlen hw
def saveW (R:Rc) (k:Nat):List Int:=(List.range k).flatMap fun j=>wkNums (R.w j)
def saveS (N:Net) (R:Rc) (k:Nat):List Int:=(List.range k).flatMap fun s=>stNums (srcd N s) (R.s s)
def saveNums (N:Net) (R:Rc):List Int:=saveW R N.workers.length++saveS N R N.streams.length
theorem saveW_succ (R:Rc) (k:Nat):saveW R (k+1)=saveW R k++wkNums (R.w k):=by simp [saveW,List.range_succ]
theorem saveS_succ (N:Net) (R:Rc) (k:Nat):saveS N R (k+1)=saveS N R k++stNums (srcd N k) (R.s k):=by simp [saveS,List.range_succ]
theorem saveW_length (R:Rc) (k:Nat):(saveW R k).length=6*k:=by
 induction k with
 | zero=>rfl
 | succ k ih=>rw [saveW_succ,List.length_append,ih];simp [wkNums];omega
theorem saveS_length (N:Net) (R:Rc) (k W:Nat) (h:∀ s,s<k→(R.s s).words.length≤W):(saveS N R k).length≤k*(3+W):=by
 induction k with
 | zero=>simp [saveS]
 | succ k ih=>
  rw [saveS_succ,List.length_append]
  have h1:=ih fun s hs=>h s (by omega)
  have h2:=h k (by omega)
  have h3:(stNums (srcd N k) (R.s k)).length≤3+W:=by
   unfold stNums
   split
   ·simp;omega
   ·simp;omega
  rw [Nat.succ_mul];omega
structure Saves (N:Net) (R:Rc):Prop where
 rd:∀ s,s<N.streams.length→used N s=false→srcd N s=false→(R.s s).read=0
 words:∀ s,s<N.streams.length→(R.s s).words.length≤274877906944
theorem Wrote.below {B:Nat} {w w':World} {v v':Value} {s s':List Int} (h:Wrote B w v s' v' w') (hs:SvAt B w v s) (hB:B≤w.heap.size):Below B w w':=
 ⟨h.fr.os,h.fr.tape,h.fr.output,h.fr.size,fun k hk=>h.fr.block k (by omega) fun e=>by have:=(hs.lt e).2;omega⟩
set_option maxRecDepth 100000 in
set_option maxHeartbeats 2000000 in
theorem rsave_calls {L:Lay} {w:World} {N:Net} {R:Rc} (h:RaceAt L w N R) (hsv:Saves N R) :
  Calls Tryz.prog 40 #[.pointer (some ⟨L.p,0,none⟩)] w fun e w'=>∃ v',e=.returned v'∧SvAt w.heap.size w' v' (bytesOf (saveNums N R))∧Below w.heap.size w w':=by
 obtain ⟨hs1,hs8,hw1,hw6⟩:=valid_counts h.ok
 obtain ⟨ga,ca,gw,cw,hva,hvw,hc⟩:=h.forms
 have HC:Hid (∀ wx,Below w.heap.size w wx→wx.cell? ⟨L.p,0,none⟩=some (.slice (some ⟨ga,0,none⟩) N.streams.length ca)∧wx.cell? ⟨L.p,1,none⟩=some (.slice (some ⟨gw,0,none⟩) N.workers.length cw)∧(∀ s,s<N.streams.length→wx.cell? ⟨ga,s,none⟩=some (.pointer (some ⟨L.st s,0,none⟩)))∧(∀ k,k<N.workers.length→wx.cell? ⟨gw,k,none⟩=some (.pointer (some ⟨L.wb k,0,none⟩)))):=fun wx hx=>by
  obtain ⟨q0,q1,q2,q3⟩:=hc wx hx
  rw [hva] at q0;rw [hvw] at q1
  exact ⟨q0,q1,q2,q3⟩
 have HW:Hid (∀ wx,Below w.heap.size w wx→∀ k,k<N.workers.length→∀ v,SvAt w.heap.size wx v (bytesOf (saveW R k))→Calls Tryz.prog 72 #[.pointer (some ⟨L.wb k,0,none⟩),v] wx fun e w'=>∃ v',e=.returned v'∧SvAt w.heap.size w' v' (bytesOf (saveW R (k+1)))∧Below w.heap.size w w'):=fun wx hx k hk v hv=>by
  refine (wsave_calls ((h.below hx).wk k hk) hx.size hv (by rw [bytesOf_length,saveW_length];omega)).mono fun e w' ⟨v',q1,q2⟩=>⟨v',q1,?_,hx.trans (q2.below hv hx.size)⟩
  rw [saveW_succ,bytesOf_append];exact q2.at'
 have HS:Hid (∀ wx,Below w.heap.size w wx→∀ k,k<N.streams.length→∀ v,SvAt w.heap.size wx v (bytesOf (saveW R N.workers.length++saveS N R k))→Calls Tryz.prog 73 #[.pointer (some ⟨L.st k,0,none⟩),v] wx fun e w'=>∃ v',e=.returned v'∧SvAt w.heap.size w' v' (bytesOf (saveW R N.workers.length++saveS N R (k+1)))∧Below w.heap.size w w'):=fun wx hx k hk v hv=>by
  have hr:=h.below hx
  have hl:(bytesOf (saveW R N.workers.length++saveS N R k)).length≤35184372088832:=by
   rw [bytesOf_length,List.length_append,saveW_length]
   have h1:=saveS_length N R k 274877906944 fun s hs=>hsv.words s (by omega)
   have h2:k*(3+274877906944)≤8*(3+274877906944):=Nat.mul_le_mul_right _ (by omega)
   omega
  refine (ssave_calls (hr.env.at' k hk) (fun q1 q2=>hsv.rd k hk ?_ q2) hx.size hv hl (by have:=hsv.words k hk;omega)).mono fun e w' ⟨v',q1,q2⟩=>⟨v',q1,?_,hx.trans (q2.below hv hx.size)⟩
  ·have:=hr.ch_iff hk
   rw [q1] at this
   simp [heldB,q2] at this
   exact this
  ·rw [saveS_succ, ← List.append_assoc,bytesOf_append _ (stNums _ _)];exact q2.at'
 have H0:Hid (SvAt w.heap.size w (.slice none 0 0) (bytesOf (saveW R 0))):=⟨rfl,Or.inl ⟨rfl,rfl⟩⟩
 have HE:Hid (saveNums N R=saveW R N.workers.length++saveS N R N.streams.length):=rfl
 have HE0:Hid (∀ k,saveW R k++saveS N R 0=saveW R k):=fun k=>by simp [saveS]
 clear h hc hva hvw hsv
 generalize N.workers.length=wl at *
 generalize N.streams.length=sl at *
 obtain ⟨q0,q1, -, -⟩:=HC.out w (Below.refl _ _)
 go_enter Tryz.func40,Tryz.ntmps40
 go_wp2
 go_loopw [3,13] (fun st i wr=>∃ (k:Nat) (v':Value),k≤wl∧i=.int .i64 k∧v'=st∧SvAt w.heap.size wr v' (bytesOf (saveW R k))∧Below w.heap.size w wr) (fun _ i _=>wl-(intOf i).toNat)
 case atStart=>exact ⟨0,_,Nat.zero_le _,rfl,rfl,H0.out,Below.refl _ _⟩
 case round=>
  clear H0 q0 q1
  obtain ⟨k,v1,hk,rfl,rfl,hsv,hb⟩:=hrel
  obtain ⟨q0,q1,q2,q3⟩:=HC.out wr hb
  by_cases hlt:k<wl
  ·have d0:=q3 k hlt
   have HW1:=hide (HW.out wr hb k hlt v1 hsv)
   have hk0:(0:Int)≤(k:Int):=by omega
   have hk1:(k:Int)<(wl:Int):=by omega
   clear HW HS HC q2 q3 hsv hb
   go_wp2_with fail
   refine (unhide HW1).mono ?_
   rintro e w1 ⟨v2,rfl,h1,h2⟩
   have H1:=hide h1
   have H2:=hide h2
   clear h1 h2 HW1
   go_wp2
   go_roundw
   case rel=>exact ⟨k+1,_,by omega,by go_num,rfl,H1.out,H2.out⟩
   case measure=>simp [intOf];omega
  ·have hkl:k=wl:=by omega
   subst hkl
   have HSv:Hid (SvAt w.heap.size wr v1 (bytesOf (saveW R k++saveS N R 0))):=by rw [HE0.out];exact hsv
   have HB:=hide hb
   clear HW q2 q3 hsv hb
   go_wp2
   go_loopw [3,26] (fun st i wq=>∃ (j:Nat) (v':Value),j≤sl∧i=.int .i64 j∧v'=st∧SvAt w.heap.size wq v' (bytesOf (saveW R k++saveS N R j))∧Below w.heap.size w wq) (fun _ i _=>sl-(intOf i).toNat)
   case atStart=>exact ⟨0,_,Nat.zero_le _,rfl,rfl,HSv.out,HB.out⟩
   case round=>
    clear HSv HB q0 q1
    obtain ⟨j,v2,hj,rfl,rfl,hsv,hb⟩:=hrel
    obtain ⟨q0,q1,q2,q3⟩:=HC.out wr hb
    by_cases hlt2:j<sl
    ·have d0:=q2 j hlt2
     have HS1:=hide (HS.out wr hb j hlt2 v2 hsv)
     have hj0:(0:Int)≤(j:Int):=by omega
     have hj1:(j:Int)<(sl:Int):=by omega
     clear HS HC q2 q3 hsv hb
     go_wp2_with fail
     refine (unhide HS1).mono ?_
     rintro e w1 ⟨v3,rfl,h1,h2⟩
     have H1:=hide h1
     have H2:=hide h2
     clear h1 h2 HS1
     go_wp2
     go_roundw
     case rel=>exact ⟨j+1,_,by omega,by go_num,rfl,H1.out,H2.out⟩
     case measure=>simp [intOf];omega
    ·have hjl:j=sl:=by omega
     subst hjl
     have H1:=hide hsv
     have H2:=hide hb
     clear HS HC q2 q3 hsv hb
     go_wp2
     go_ret
     exact ⟨v2,rfl,by rw [HE.out];exact H1.out,H2.out⟩
variable {rs:List Int}
structure LoadsS (sourced held:Bool) (m0 m:Sm):Prop where
 src:sourced=true→m.words=m0.words∧m.room=m0.room
 un:sourced=false→held=false→m.read=0∧m.room=m0.room∧m0.room≤1000
 hold:sourced=false→held=true→m0.room≤m.room∧m.room≤40∧m.words.length-m.read≤m.room
 le:m.read≤m.words.length
 fits:∀ x∈m.words,Fits64 x
 len:m.words.length≤274877906944
def StLoaded (rs:List Int) (B:Nat) (w:World) (b rb:Nat) (vw:Value) (ch:Option Nat) (sourced:Bool) (m:Sm) (l:List Int) (w':World):Prop:=
 ∃ vw' ch',StAt w' b vw' ch' sourced m∧(∀ g,vw'.ownBlock=some g→vw.ownBlock=some g∨w.heap.size≤g)∧(∀ c,ch'=some c→ch=some c∨w.heap.size≤c)∧ch'.isSome=ch.isSome∧RdAt rs B w' rb l∧Fr (fun z=>z=b∨z=rb) w w'
set_option maxRecDepth 100000 in
set_option maxHeartbeats 2000000 in
theorem sload_calls {B:Nat} {w:World} {b rb:Nat} {vw:Value} {ch:Option Nat} {sourced:Bool} {m0 m:Sm} {l:List Int} (h:StAt w b vw ch sourced m0) (hr:RdAt rs B w rb (stNums sourced m++l)) (hbB:B≤b) (hB:B≤w.heap.size) (hl:LoadsS sourced ch.isSome m0 m) :
  Calls Tryz.prog 101 #[.pointer (some ⟨b,0,none⟩),.pointer (some ⟨rb,0,none⟩)] w fun e w'=>e=.returned (.tuple #[])∧StLoaded rs B w b rb vw ch sourced m l w':=by
 cases sourced with
 | true=>
  cases ch with
  | some c=>have:=h.nosrc c rfl;cases this
  | none=>
   obtain ⟨h1,h2⟩:=hl.src rfl
   have hle:=hl.le
   refine (sload_src h (r:=m.read) hr hbB hB (by rw [← h1];exact hle)).mono fun e w' ⟨q1,q2,q3,q4⟩=>⟨q1,vw,none,?_,fun g hg=>Or.inl hg,fun c hc=>(by cases hc),rfl,q3,q4⟩
   have e:({m0 with read:=m.read}:Sm)=m:=by cases m;simp at h1 h2;simp [h1,h2]
   rw [← e];exact q2
 | false=>
  have hne:=fun (wx:World) (a:Option Nat)=>run_eql_chan_nil (P:=Tryz.prog) wx 109 a Tryz.underlying109
  obtain ⟨c0,c1,c2,c3,cf⟩:=h.cells
  cases ch with
  | none=>
   obtain ⟨h1,h2,h3⟩:=hl.un rfl rfl
   have HU:Hid (Calls Tryz.prog 106 #[.pointer (some ⟨b,0,none⟩),.pointer (some ⟨rb,0,none⟩)] w fun e w'=>e=.returned (.tuple #[])∧StLoaded rs B w b rb vw none false m l w'):=by
    have hr':RdAt rs B w rb ((m0.room:Int)::0::(m.words.length:Int)::(m.words++l)):=by
     have:=hr
     simp only [stNums] at this
     rw [h1,h2] at this
     exact this
    refine (sloadUnread_calls h hr' hbB hB h3 hl.fits (by have:=hl.len;omega)).mono fun e w' ⟨q1,q2⟩=>⟨q1,?_⟩
    obtain ⟨vw',ch',a1,a2,a3,a4⟩:=q2.at'
    have e:(⟨m.words,0,m0.room⟩:Sm)=m:=by cases m;simp at h1 h2;simp [h1,h2]
    rw [e] at a1
    exact ⟨vw',ch',a1,fun g hg=>Or.inr ((a2 g hg).resolve_right (by decide)),fun c hc=>Or.inr (a3 c hc),a4,q2.rd,q2.fr⟩
   clear h hr hl cf
   go_enter Tryz.func101,Tryz.ntmps101
   go_wp2_with fail
   refine (unhide HU).mono ?_
   rintro e w1 ⟨rfl,h1⟩
   have H1:=hide h1
   clear h1 HU
   go_wp2
   go_end0
   exact ⟨rfl,H1.out⟩
  | some c=>
   obtain ⟨h1,h2,h3⟩:=hl.hold rfl rfl
   have HU:Hid (Calls Tryz.prog 107 #[.pointer (some ⟨b,0,none⟩),.pointer (some ⟨rb,0,none⟩)] w fun e w'=>e=.returned (.tuple #[])∧StLoaded rs B w b rb vw (some c) false m l w'):=by
    refine (sloadHeld_calls h (m:=m) hr hbB hB h1 h2 hl.le h3 hl.fits (by have:=hl.len;omega)).mono fun e w' ⟨q1,q2⟩=>⟨q1,?_⟩
    obtain ⟨vw',ch',a1,a2,a3,a4⟩:=q2.at'
    exact ⟨vw',ch',a1,fun g hg=>Or.inr ((a2 g hg).resolve_right (by decide)),fun c hc=>Or.inr (a3 c hc),a4,q2.rd,q2.fr⟩
   clear h hr hl cf
   go_enter Tryz.func101,Tryz.ntmps101
   go_wp2_with fail
   refine (unhide HU).mono ?_
   rintro e w1 ⟨rfl,h1⟩
   have H1:=hide h1
   clear h1 HU
   go_wp2
   go_end0
   exact ⟨rfl,H1.out⟩
def Loading (rs:List Int) (B:Nat) (p:Nat) (ga ca gw cw:Nat) (w:World) (N:Net) (R:Rc) (rb:Nat) (l:List Int) (wr:World):Prop:=
 ∃ L,(L.p=p∧L.vS=.slice (some ⟨ga,0,none⟩) N.streams.length ca∧L.vW=.slice (some ⟨gw,0,none⟩) N.workers.length cw)∧RaceAt L wr N R∧(∀ b,Foot L N b→B≤b)∧RdAt rs B wr rb l∧Below B w wr∧B≤wr.heap.size
theorem read_idle (w:World):CallsD Tryz.prog 98 #[] .returning w fun e u' w'=>e=.returned (.tuple #[])∧u'=.returning∧w'=w:=by
 refine callsD_of_wpS Tryz.func98 rfl fun c₀ cs hu=>?_
 apply wpS_seq
 apply wpS_region
 simp [wpOpsS,go_sem,recoverD,hu,Tryz.ntmps98,Exit.thenS]
 refine wpS_of_wp ?_
 go_wp2
 cases c₀
 simp_all [bodyPostS,results,Tryz.results98]
theorem growS_words (R:Rc) (t s:Nat):((growS R t).s s).words=(R.s s).words:=by
 by_cases e:s=t
 ·subst e
  rcases Nat.lt_or_ge s R.S.length with h | h
  ·have:(growS R s).s s={ R.s s with room:=(R.s s).room+1}:=getD_set_self _ _ _ _ h
   rw [this]
  ·simp [growS,Rc.s,List.set_eq_of_length_le h]
 ·have:(growS R t).s s=R.s s:=getD_set_ne _ _ _ _ _ (fun e'=>e e'.symm)
  rw [this]
structure NetFits (N:Net):Prop where
 c:∀ k,k<N.workers.length→∀ i∈codeOf N k,Fits64 i.c
 words:∀ s∈N.sources,∀ x∈s.words,Fits64 x
structure FitsA (x:Wk):Prop where
 r:∀ i,Fits64 (x.r i)
 steps:Fits64 x.steps
structure Good (N:Net) (R:Rc) (c:Nat):Prop where
 run:∃ es,(grun N N.streams es).1=R∧∀ k,((grun N N.streams es).2 k).length≤c
 room:RoomR N R
 grew:∀ s,s<N.streams.length→if heldB N s=true then (N.streams.getD s 0).toNat≤(R.s s).room else (R.s s).room=(N.streams.getD s 0).toNat
 words:∀ s,s<N.streams.length→(R.s s).words.length≤50+c
 fitsW:∀ k,k<N.workers.length→FitsA (R.w k)
 fitsS:∀ s,s<N.streams.length→∀ x∈(R.s s).words,Fits64 x
theorem fits_zero:Fits64 0:=⟨by decide,by decide⟩
theorem fits_wrap (x:Int):Fits64 (wrap64 x):=by unfold Fits64 wrap64;omega
theorem fits_alu (op b c:Int):Fits64 (alu op b c):=by
 unfold alu
 repeat' split
 all_goals first | exact fits_wrap _ | exact ⟨by decide,by decide⟩
theorem srcWords_fits {N:Net} (h:NetFits N) (s:Nat):∀ x∈srcWords N s,Fits64 x:=by
 intro x hx
 unfold srcWords at hx
 cases hf:N.sources.find? fun y=>y.stream == (s:Int) with
 | none=>rw [hf] at hx;simp at hx
 | some y=>
  rw [hf] at hx
  exact h.words y (List.mem_of_find?_eq_some hf) x (by simpa using hx)
theorem initG_s {N:Net} (rooms:List Int) (s:Nat) (hs:s<N.streams.length):(initR N rooms).s s=⟨if srcd N s then srcWords N s else [],0,(rooms.getD s 0).toNat⟩:=by simp [Rc.s,initR,List.getD,hs]
theorem initG_w (N:Net) (rooms:List Int) (k:Nat):(initR N rooms).w k=⟨0,fun _=>0,0⟩:=by
 simp only [Rc.w,initR,List.getD]
 rw [List.getElem?_replicate]
 split<;>rfl
theorem Good.init {N:Net} (hv:validB N=true) (hf:NetFits N):Good N (initR N N.streams) 0:=by
 refine ⟨⟨[],rfl,fun _=>Nat.le_refl _⟩,init_roomR hv,fun s hs=>?_,fun s hs=>init_words hv s hs,fun k _=>?_,fun s hs=>?_⟩
 ·rw [initG_s _ _ hs];split
  ·exact Nat.le_refl _
  ·rfl
 ·rw [initG_w];exact ⟨fun _=>fits_zero,fits_zero⟩
 ·rw [initG_s _ _ hs]
  dsimp only
  split
  ·exact srcWords_fits hf s
  ·intro x hx;cases hx
theorem nextW_fits {x:Wk} {i:Ins} {inp:Option Int} (hx:FitsA x) (hc:Fits64 i.c) (hi:∀ v,inp=some v→Fits64 v):FitsA (nextW x i inp):=by
 have hu:∀ a v,Fits64 v→∀ j,Fits64 (upd x.r a v j):=fun a v hv j=>by
  unfold upd;split
  ·exact hv
  ·exact hx.r j
 unfold nextW
 split
 ·split
  ·rename_i v
   exact ⟨hu _ _ (hi v rfl),fits_wrap _⟩
  ·exact ⟨hx.r,fits_wrap _⟩
 ·split
  ·exact ⟨hx.r,fits_wrap _⟩
  ·split
   ·exact ⟨hu _ _ hc,fits_wrap _⟩
   ·split
    ·exact ⟨hx.r,fits_wrap _⟩
    ·split
     ·exact ⟨hx.r,fits_wrap _⟩
     ·exact ⟨hu _ _ (fits_alu _ _ _),fits_wrap _⟩
theorem unused_uses {N:Net} {s:Nat} (h:used N s=false):∀ k,usesB (codeOf N k) 1 s=false:=fun k=>by
 cases hu:usesB (codeOf N k) 1 s
 ·rfl
 ·have:=uses_pos hu
  simp [used] at h
  omega
structure Fine (N:Net) (R:Rc) (c:Nat):Prop where
 lenW:R.W.length=N.workers.length
 lenS:R.S.length=N.streams.length
 room:RoomR N R
 grew:∀ s,s<N.streams.length→if heldB N s=true then (N.streams.getD s 0).toNat≤(R.s s).room else (R.s s).room=(N.streams.getD s 0).toNat
 words:∀ s,s<N.streams.length→(R.s s).words.length≤500+c
 len:(saveNums N R).length≤500+c
 fitsW:∀ k,k<N.workers.length→FitsA (R.w k)
 fitsS:∀ s,s<N.streams.length→∀ x∈(R.s s).words,Fits64 x
 nord:∀ s,s<N.streams.length→used N s=false→srcd N s=false→(R.s s).read=0
 src:∀ s,s<N.streams.length→srcd N s=true→(R.s s).words=srcWords N s
theorem saveS_len {N:Net} {R S:Rc} (b:Nat) (h:∀ s,s<N.streams.length→(S.s s).words.length≤(R.s s).words.length+if s=b then 1 else 0):∀ t,t≤N.streams.length→(saveS N S t).length≤(saveS N R t).length+if b<t then 1 else 0
 | 0,_=>by simp [saveS]
 | t+1,ht=>by
  have ih:=saveS_len b h t (by omega)
  have h1:=h t (by omega)
  have h2:(stNums (srcd N t) (S.s t)).length≤(stNums (srcd N t) (R.s t)).length+if t=b then 1 else 0:=by
   unfold stNums
   split
   ·simp
   ·simp only [List.length_append,List.length_cons,List.length_nil];omega
  rw [saveS_succ,saveS_succ,List.length_append,List.length_append]
  by_cases e:b=t
  ·subst e;simp at ih h2 ⊢;omega
  ·by_cases e2:b<t
   ·rw [if_pos e2] at ih;rw [if_neg (fun e'=>e e'.symm)] at h2;rw [if_pos (by omega)];omega
   ·rw [if_neg e2] at ih;rw [if_neg (fun e'=>e e'.symm)] at h2;rw [if_neg (by omega)];omega
theorem saveNums_len {N:Net} {R S:Rc} (b:Nat) (h:∀ s,s<N.streams.length→(S.s s).words.length≤(R.s s).words.length+if s=b then 1 else 0):(saveNums N S).length≤(saveNums N R).length+if b<N.streams.length then 1 else 0:=by
 have:=saveS_len b h N.streams.length (Nat.le_refl _)
 rw [saveNums,saveNums,List.length_append,List.length_append,saveW_length,saveW_length]
 omega
theorem Fine.init {N:Net} (hv:validB N=true) (hf:NetFits N):Fine N (initR N N.streams) 0:=by
 have h:=Good.init hv hf
 obtain ⟨-,h8, -,h6⟩:=valid_counts hv
 refine ⟨by simp [initR],by simp [initR],h.room,h.grew,fun s hs=>by have:=h.words s hs;omega,?_,h.fitsW,h.fitsS,fun s hs _ _=>?_,fun s hs hq=>?_⟩
 ·rw [saveNums,List.length_append,saveW_length]
  have h1:=saveS_length N (initR N N.streams) N.streams.length 50 fun s hs=>h.words s hs
  have h2:N.streams.length*(3+50)≤8*(3+50):=Nat.mul_le_mul_right _ h8
  omega
 ·rw [initG_s _ _ hs]
 ·rw [initG_s _ _ hs];simp [hq]
theorem Fine.mono {N:Net} {R:Rc} {c d:Nat} (h:Fine N R c) (hd:c≤d):Fine N R d:=⟨h.lenW,h.lenS,h.room,h.grew,fun s hs=>by have:=h.words s hs;omega,by have:=h.len;omega,h.fitsW,h.fitsS,h.nord,h.src⟩
theorem Fine.step {N:Net} {R:Rc} {c k:Nat} (h:Fine N R c) (hv:validB N=true) (hf:NetFits N) (hk:k<N.workers.length):Fine N (doStep N R k) (c+1):=by
 have hlS:=h.lenS
 have hlW:=h.lenW
 have hs':∀ s,s<N.streams.length→_:=fun s hs=>doStep_s (N:=N) (R:=R) (k:=k) (s:=s) (by omega)
 cases hi:insAt N k (R.w k) with
 | none=>
  have:doStep N R k=R:=by simp [doStep,hi]
  rw [this];exact h.mono (by omega)
 | some i=>
  have hm:i∈codeOf N k:=List.mem_of_getElem? hi
  have hin:∀ v,(R.s i.b.toNat).words[(R.s i.b.toNat).read]? = some v→Fits64 v:=fun v hv'=>by
   rcases Nat.lt_or_ge i.b.toNat N.streams.length with hb | hb
   ·exact h.fitsS _ hb v (List.mem_of_getElem? hv')
   ·have:R.s i.b.toNat=⟨[],0,0⟩:=by simp only [Rc.s,List.getD];rw [List.getElem?_eq_none (by omega)];rfl
    rw [this] at hv';simp at hv'
  have hus:=uses_of_ins hi
  have hok:=(valid_ok hv).ins k hk i hm
  refine ⟨by rw [doStep_some hi];simpa using hlW,by rw [doStep_some hi];simpa [nextS_length] using hlS,fun s hs=>by rw [(hs' s hs).1];exact h.room s hs,fun s hs=>by rw [(hs' s hs).1];exact h.grew s hs,fun s hs=>by have:=(hs' s hs).2;have:=h.words s hs;omega,?_,fun j hj=>?_,fun s hs=>?_,fun s hs hu hr=>?_,fun s hs hq=>?_⟩
  ·have h1:=saveNums_len (N:=N) (R:=R) (S:=doStep N R k) i.b.toNat fun s hs=>by
    rw [doStep_some hi,step_s _ _ (by omega)]
    split
    ·simp
    ·split
     ·rename_i e;simp [e.2]
     ·simp
   have h2:=h.len
   split at h1<;>omega
  ·by_cases e:j=k
   ·subst e
    have:(doStep N R j).w j=nextW (R.w j) i (R.s i.b.toNat).words[(R.s i.b.toNat).read]? := by
     rw [doStep_some hi];exact getD_set_self _ _ _ _ (by omega)
    rw [this]
    exact nextW_fits (h.fitsW j hj) (hf.c j hj i hm) hin
   ·rw [doStep_w_ne N R k j e];exact h.fitsW j hj
  ·rw [doStep_some hi,step_s _ _ (by omega)]
   intro x hx
   split at hx
   ·exact h.fitsS s hs x hx
   ·split at hx
    ·rcases List.mem_append.1 hx with h1 | h1
     ·exact h.fitsS s hs x h1
     ·rw [List.mem_singleton.1 h1];exact (h.fitsW k hk).r _
    ·exact h.fitsS s hs x hx
  ·rw [doStep_some hi,step_s _ _ (by omega)]
   split
   ·rename_i e
    have h1:=unused_uses hu k
    have hb:=hok.2.2 (Or.inl e.1)
    have hbs:i.b=(s:Int):=by rw [e.2];omega
    rw [e.1,hbs] at hus
    rw [hus] at h1;cases h1
   ·split
    ·exact h.nord s hs hu hr
    ·exact h.nord s hs hu hr
  ·rw [doStep_some hi,step_s _ _ (by omega)]
   split
   ·exact h.src s hs hq
   ·split
    ·rename_i e
     have h1:=(valid_ok hv).src s k hq
     have hb:=hok.2.2 (Or.inr e.1)
     have hbs:i.b=(s:Int):=by rw [e.2];omega
     rw [e.1,hbs] at hus
     rw [hus] at h1;cases h1
    ·exact h.src s hs hq
theorem growS_read (R:Rc) (t s:Nat):((growS R t).s s).read=(R.s s).read:=by
 by_cases e:s=t
 ·subst e
  rcases Nat.lt_or_ge s R.S.length with h | h
  ·have:(growS R s).s s={ R.s s with room:=(R.s s).room+1}:=getD_set_self _ _ _ _ h
   rw [this]
  ·simp [growS,Rc.s,List.set_eq_of_length_le h]
 ·have:(growS R t).s s=R.s s:=getD_set_ne _ _ _ _ _ (fun e'=>e e'.symm)
  rw [this]
theorem Fine.grow {N:Net} {R:Rc} {c t:Nat} (h:Fine N R c) (hv:validB N=true) {a b:Int} (hg:Grows N R a b (some t)):Fine N (growS R t) c:=by
 obtain ⟨-, -,ht,hr⟩:=grows_ok hg
 have hlS:=h.lenS
 have hh:heldB N t=true:=by
  cases hg with
  | grows h1 h2 h3=>obtain ⟨-,q1,q2⟩:=needs_stream hv h2.2.1;simp [heldB,q1,q2]
 refine ⟨h.lenW,by simpa [growS] using hlS,fun s hs=>?_,fun s hs=>?_,fun s hs=>by rw [growS_words];exact h.words s hs,?_,h.fitsW,fun s hs=>by rw [growS_words];exact h.fitsS s hs,fun s hs hu hr=>by rw [growS_read];exact h.nord s hs hu hr,fun s hs hq=>by rw [growS_words];exact h.src s hs hq⟩
 rotate_left
 rotate_left
 ·have h1:=saveNums_len (N:=N) (R:=R) (S:=growS R t) N.streams.length fun s hs=>by rw [growS_words];omega
  have h2:=h.len
  rw [if_neg (Nat.lt_irrefl _)] at h1
  omega
 ·rw [growS_s _ _ _ (by omega)]
  have:=h.room s hs
  split
  ·rename_i e;subst e;omega
  ·omega
 ·have hq:=h.grew s hs
  rw [growS_s _ _ _ (by omega)]
  split
  ·rename_i hp;rw [if_pos hp] at hq;omega
  ·rename_i hp
   rw [if_neg hp] at hq
   by_cases e:s=t
   ·subst e;exact absurd hh hp
   ·rw [if_neg e];exact hq
theorem Fine.stepR {N:Net} {R:Rc} {c k:Nat} (h:Fine N R c) (hv:validB N=true) (hf:NetFits N) (hk:k<N.workers.length):Fine N (stepR N R k) (c+1):=by
 unfold Go.Proofs.YthfdgdfnflilfaaGreatDoor.stepR
 split
 ·exact h.step hv hf hk
 ·exact h.mono (by omega)
set_option maxHeartbeats 1000000 in
theorem rlook_out {L:Lay} {w:World} {N:Net} {R:Rc} (h:RaceAt L w N R) (k:Int) (hk:inB k N.workers.length=false) :
  Calls Tryz.prog 62 #[.pointer (some ⟨L.p,0,none⟩),.int .i64 k] w fun e w'=>e=.returned (.tuple #[.agg #[.int .i64 0,.int .i64 0,.int .i64 0,.int .i64 0,.int .i64 0,.int .i64 0,.int .i64 0],.int .i64 2])∧Below w.heap.size w w':=by
 have HH:Hid (∀ wx,Below w.heap.size w wx→Calls Tryz.prog 47 #[.pointer (some ⟨L.p,0,none⟩),.int .i64 k] wx fun e w'=>e=.returned (.bool false)∧w'=wx):=fun wx hx=>by
  have:=hasWorker_calls (h.below hx) k;rw [hk] at this;exact this
 have HB:Hid (∀ o,Below w.heap.size w (w.alloc o)):=fun o=>(Below.refl _ _).alloc (Nat.le_refl _) o
 clear h
 go_enter Tryz.func62,Tryz.ntmps62
 go_wp2_with fail
 refine (unhide HH _ (HB.out _)).mono ?_
 rintro e w1 ⟨rfl,rfl⟩
 go_wp2
 refine bodyPost_ret (v:=.tuple #[.agg #[.int .i64 0,.int .i64 0,.int .i64 0,.int .i64 0,.int .i64 0,.int .i64 0,.int .i64 0],.int .i64 2]) ?_ rfl ⟨rfl,?_⟩
 ·simp [results,Tryz.results62,go_sem]
 ·exact HB.out _
theorem has_look_out {A:Nat→Prop} {p:Nat} {N:Net} {R:Rc} {w:World} (h:Has A p N R w) (k:Int) (hk:inB k N.workers.length=false) :
  Calls Tryz.prog 62 #[.pointer (some ⟨p,0,none⟩),.int .i64 k] w fun e w'=>e=.returned (.tuple #[.agg #[.int .i64 0,.int .i64 0,.int .i64 0,.int .i64 0,.int .i64 0,.int .i64 0,.int .i64 0],.int .i64 2])∧Below w.heap.size w w':=by
 obtain ⟨L,rfl,h2,h3⟩:=h.ex
 exact rlook_out h2 k hk
theorem has_history_out {A:Nat→Prop} {p:Nat} {N:Net} {R:Rc} {w:World} (h:Has A p N R w) (k:Int) (hk:inB k N.streams.length=false) :
  Calls Tryz.prog 11 #[.pointer (some ⟨p,0,none⟩),.int .i64 k] w fun e w'=>e=.returned (.tuple #[.slice none 0 0,.int .i64 2])∧w'=w:=by
 obtain ⟨L,rfl,h2,h3⟩:=h.ex
 exact rhistory_out h2 k hk
theorem has_room_out {A:Nat→Prop} {p:Nat} {N:Net} {R:Rc} {w:World} (h:Has A p N R w) (k:Int) (hk:inB k N.streams.length=false) :
  Calls Tryz.prog 66 #[.pointer (some ⟨p,0,none⟩),.int .i64 k] w fun e w'=>e=.returned (.tuple #[.int .i64 0,.int .i64 0,.int .i64 2])∧w'=w:=by
 obtain ⟨L,rfl,h2,h3⟩:=h.ex
 exact rroom_out h2 k hk
theorem has_room {A:Nat→Prop} {p:Nat} {N:Net} {R:Rc} {w:World} (h:Has A p N R w) (s:Nat) (hs:s<N.streams.length) :
  Calls Tryz.prog 66 #[.pointer (some ⟨p,0,none⟩),.int .i64 s] w fun e w'=>e=.returned (.tuple #[.int .i64 (if heldB N s then ((R.s s).room:Int) else 0),.int .i64 (if heldB N s then (((R.s s).words.length-(R.s s).read:Nat):Int) else 0),.int .i64 0])∧Below w.heap.size w w':=by
 obtain ⟨L,rfl,h2,h3⟩:=h.ex
 have:=rroom_calls h2 s hs
 rw [h2.ch_iff hs] at this
 exact this
structure SideAt (wz:World) (col:Nat→Nat) (w:World) (sd cx cy x y:Nat) (n:Net) (vs vr vw:Value) (Rx Ry:Rc):Prop where
 blk:w.heap[sd]? = some (.cells #[.pointer (some ⟨x,0,none⟩),.pointer (some ⟨y,0,none⟩),vs,vr,vw] 49 (0,0))
 csd:col sd=25
 hx:Has (fun b=>b<w.heap.size∧col b≠cx) x n Rx w
 hy:RHas wz (fun b=>b<w.heap.size∧col b≠cy) y n Ry w
def newcol (col:Nat→Nat) (n q:Nat):Nat→Nat:=fun b=>if b<n then col b else q
theorem newcol_old {col:Nat→Nat} {n q b:Nat} (h:b<n):newcol col n q b=col b:=by simp [newcol,h]
theorem newcol_new {col:Nat→Nat} {n q b:Nat} (h:n≤b):newcol col n q b=q:=by
 have:¬ b<n:=by omega
 simp [newcol,this]
theorem SideAt.frame {wz:World} {col col':Nat→Nat} {w w':World} {sd cx cy x y:Nat} {n:Net} {vs vr vw:Value} {Rx Ry:Rc} (h:SideAt wz col w sd cx cy x y n vs vr vw Rx Ry)
  (hk:∀ b,b<w.heap.size→(b=sd∧col b=25)∨col b=cx∨col b=cy→w'.heap[b]? = w.heap[b]? ∧ col' b=col b) (hz:Below wz.heap.size wz w'):SideAt wz col' w' sd cx cy x y n vs vr vw Rx Ry:=by
 have hs:=hk sd (lt_of_blk h.blk) (Or.inl ⟨rfl,h.csd⟩)
 have k1:∀ b,b<w.heap.size→¬ (b<w.heap.size∧col b≠cx)→col b=cx:=fun b hb e=>Classical.byContradiction fun e'=>e ⟨hb,e'⟩
 have k2:∀ b,b<w.heap.size→¬ (b<w.heap.size∧col b≠cy)→col b=cy:=fun b hb e=>Classical.byContradiction fun e'=>e ⟨hb,e'⟩
 refine ⟨hs.1.trans h.blk,hs.2.trans h.csd,h.hx.turn (fun b hb e=>(hk b hb (Or.inr (Or.inl (k1 b hb e)))).1) (fun b hb e e'=>?_) (fun b hb=>hb.1),h.hy.turn (fun b hb e=>(hk b hb (Or.inr (Or.inr (k2 b hb e)))).1) (fun b hb e e'=>?_) (fun b hb=>hb.1) hz⟩
 ·exact e'.2 ((hk b hb (Or.inr (Or.inl (k1 b hb e)))).2.trans (k1 b hb e))
 ·exact e'.2 ((hk b hb (Or.inr (Or.inr (k2 b hb e)))).2.trans (k2 b hb e))
theorem SideAt.below {wz:World} {col:Nat→Nat} {w w':World} {sd cx cy x y:Nat} {n:Net} {vs vr vw:Value} {Rx Ry:Rc} (h:SideAt wz col w sd cx cy x y n vs vr vw Rx Ry) (hz:Below wz.heap.size wz w) (q:Nat) (hb:Below w.heap.size w w'):SideAt wz (newcol col w.heap.size q) w' sd cx cy x y n vs vr vw Rx Ry:=
 h.frame (fun b h' _=>⟨hb.block b h',newcol_old h'⟩) (hz.trans (hb.mono hz.size))
structure Did (base sd cx cy:Nat) (col:Nat→Nat) (w:World) (col':Nat→Nat) (w':World):Prop where
 fr:Fr (fun b=>base≤b∧(col b≤20∨col b=cx∨col b=cy∨b=sd)) w w'
 old:∀ b,b<w.heap.size→20<col b→col' b=col b
theorem Did.wz {base sd cx cy:Nat} {col col':Nat→Nat} {w w' wz:World} (h:Did base sd cx cy col w col' w') (hz:Below wz.heap.size wz w) (hzb:wz.heap.size≤base):Below wz.heap.size wz w':=
 hz.trans ⟨h.fr.os,h.fr.tape,h.fr.output,h.fr.size,fun b hb=>h.fr.block b (by have:=hz.size;omega) (fun e=>by have:=e.1;omega)⟩
theorem Did.trans {base sd cx cy:Nat} {col col1 col2:Nat→Nat} {w w1 w2:World} (h:Did base sd cx cy col w col1 w1) (k:Did base sd cx cy col1 w1 col2 w2):Did base sd cx cy col w col2 w2:=by
 have hsz:=h.fr.size
 refine ⟨h.fr.trans k.fr (fun b hb e=>?_),fun b hb h20=>?_⟩
 ·rcases Nat.lt_or_ge 20 (col b) with h20 | h20
  ·rw [← h.old b hb h20];exact e
  ·exact ⟨e.1,Or.inl h20⟩
 ·have e:=h.old b hb h20
  rw [k.old b (by omega) (by omega),e]
theorem Did.of_below {base sd cx cy q:Nat} {col:Nat→Nat} {w w':World} (hb:Below w.heap.size w w'):Did base sd cx cy col w (newcol col w.heap.size q) w':=
 ⟨Fr.of_below hb,fun _ h _=>newcol_old h⟩
theorem SideAt.did {base sd0 cx cy:Nat} {wz:World} {col col':Nat→Nat} {w w':World} {sd dx dy x y:Nat} {n:Net} {vs vr vw:Value} {Rx Ry:Rc} (h:SideAt wz col w sd dx dy x y n vs vr vw Rx Ry) (hd:Did base sd0 cx cy col w col' w') (hz:Below wz.heap.size wz w) (hzb:wz.heap.size≤base)
  (hcx:29<cx) (hcy:29<cy) (hdx:29<dx) (hdy:29<dy) (hne:sd≠sd0) (hc0:col sd0=25) (h1:dx≠cx) (h2:dx≠cy) (h3:dy≠cx) (h4:dy≠cy):SideAt wz col' w' sd dx dy x y n vs vr vw Rx Ry:=
 h.frame (fun b hb e=>⟨hd.fr.block b hb (fun e'=>by
  have hb0:b≠sd0:=fun e2=>by subst e2;omega
  have:=e'.2
  omega),hd.old b hb (by omega)⟩) (hd.wz hz hzb)
theorem Did.row {base sd cx cy:Nat} {col col':Nat→Nat} {w w':World} (hd:Did base sd cx cy col w col' w') {v0:Value} {vals:List Value} (hcx:29<cx) (hcy:29<cy) (hc0:col sd=25) (hrow:w.ownsRow base 50 1 v0 vals.length vals) (hv0:∀ g,v0.ownBlock=some g→col g=24) :
  w'.ownsRow base 50 1 v0 vals.length vals∧∀ g,v0.ownBlock=some g→col' g=24:=by
 have hlt:∀ g,v0.ownBlock=some g→g<w.heap.size:=fun g hg=>(hrow.lt g hg).2
 exact ⟨own_of_blockB hrow fun g hg=>hd.fr.block g (hlt g hg) (fun e=>by
  have h9:=hv0 g hg
  have hb0:g≠sd:=fun e2=>by subst e2;omega
  have:=e.2
  omega),fun g hg=>(hd.old g (hlt g hg) (by rw [hv0 g hg];omega)).trans (hv0 g hg)⟩
theorem keeps_wz {base q:Nat} {col:Nat→Nat} {w w' wz:World} (hlow:∀ b,b<base→90≤col b) (hq:q<90) (hz:Below wz.heap.size wz w) (hzb:wz.heap.size≤base) (hk:Keeps (fun b=>b<w.heap.size∧col b≠q) w w'):Below wz.heap.size wz w':=
 hz.trans ⟨hk.os,hk.tape,hk.output,hk.size,fun b hb=>hk.block b (by have:=hz.size;omega) (fun e=>e ⟨by have:=hz.size;omega,fun e'=>by have:=hlow b (by omega);omega⟩)⟩
theorem keeps_block {q:Nat} {col:Nat→Nat} {w w':World} (hk:Keeps (fun b=>b<w.heap.size∧col b≠q) w w') {b:Nat} (hb:b<w.heap.size) (hq:col b≠q):w'.heap[b]? = w.heap[b]? :=
 hk.block b hb (fun e=>e ⟨hb,hq⟩)
theorem keeps_did {base sd cx cy q:Nat} {col:Nat→Nat} {w w':World} (hlow:∀ b,b<base→90≤col b) (hq:q<90) (hqc:q=cx∨q=cy) (hk:Keeps (fun b=>b<w.heap.size∧col b≠q) w w'):Did base sd cx cy col w (newcol col w.heap.size q) w':=by
 refine ⟨⟨hk.os,hk.tape,hk.output,hk.size,fun b hb e=>?_⟩,fun b hb _=>newcol_old hb⟩
 refine keeps_block hk hb fun e'=>e ⟨?_,?_⟩
 ·rcases Nat.lt_or_ge b base with h | h
  ·have:=hlow b h;omega
  ·exact h
 ·rcases hqc with rfl | rfl
  ·exact Or.inr (Or.inl e')
  ·exact Or.inr (Or.inr (Or.inl e'))
theorem keeps_bk {base q:Nat} {col:Nat→Nat} {w w':World} {p:Nat} {v0:Value} {c:Nat} (hb:Bk base col w p v0 c) (hq:29<q) (hq9:q<90) (hz:base≤w.heap.size) (hk:Keeps (fun b=>b<w.heap.size∧col b≠q) w w'):Bk base (newcol col w.heap.size q) w' p v0 c:=
 hb.frame (fun b h h8=>keeps_block hk h (by omega)) (fun b h _=>newcol_old h) (fun b h=>by rw [newcol_old (by omega)];exact hb.low b h) hk.size (Nat.le_refl _)
theorem SideAt.callx {base:Nat} {wz:World} {col:Nat→Nat} {w w':World} {sd cx cy x y:Nat} {n:Net} {vs vr vw:Value} {Rx Ry Rx':Rc} (h:SideAt wz col w sd cx cy x y n vs vr vw Rx Ry) (hlow:∀ b,b<base→90≤col b) (hz:Below wz.heap.size wz w) (hzb:wz.heap.size≤base) (hcx:29<cx) (hcx9:cx<90) (hne:cx≠cy)
  (hx':Has (fun b=>b<w.heap.size∧col b≠cx) x n Rx' w') (hk:Keeps (fun b=>b<w.heap.size∧col b≠cx) w w'):SideAt wz (newcol col w.heap.size cx) w' sd cx cy x y n vs vr vw Rx' Ry:=by
 have hs:=lt_of_blk h.blk
 have k2:∀ b,b<w.heap.size→¬ (b<w.heap.size∧col b≠cy)→col b=cy:=fun b hb e=>Classical.byContradiction fun e'=>e ⟨hb,e'⟩
 refine ⟨(keeps_block hk hs (by rw [h.csd];omega)).trans h.blk,(newcol_old hs).trans h.csd,?_,h.hy.turn (fun b hb e=>keeps_block hk hb (by rw [k2 b hb e];omega)) (fun b hb e e'=>e'.2 ((newcol_old hb).trans (k2 b hb e))) (fun b hb=>hb.1) (keeps_wz hlow hcx9 hz hzb hk)⟩
 obtain ⟨L,h1,h2,h3⟩:=hx'.ex
 refine ⟨⟨L,h1,h2,fun b hf e=>?_⟩,fun b e=>e.1⟩
 rcases Nat.lt_or_ge b w.heap.size with hb | hb
 ·exact h3 b hf ⟨hb,by have:=e.2;rw [newcol_old hb] at this;exact this⟩
 ·exact e.2 (newcol_new hb)
theorem SideAt.cally {wz:World} {col:Nat→Nat} {w w':World} {sd cx cy x y:Nat} {n:Net} {vs vr vw:Value} {Rx Ry Ry':Rc} (h:SideAt wz col w sd cx cy x y n vs vr vw Rx Ry) (hcy:29<cy) (hne:cx≠cy)
  (hy':RHas wz (fun b=>b<w.heap.size∧col b≠cy) y n Ry' w') (hk:Keeps (fun b=>b<w.heap.size∧col b≠cy) w w'):SideAt wz (newcol col w.heap.size cy) w' sd cx cy x y n vs vr vw Rx Ry':=by
 have hs:=lt_of_blk h.blk
 have k2:∀ b,b<w.heap.size→¬ (b<w.heap.size∧col b≠cx)→col b=cx:=fun b hb e=>Classical.byContradiction fun e'=>e ⟨hb,e'⟩
 refine ⟨(keeps_block hk hs (by rw [h.csd];omega)).trans h.blk,(newcol_old hs).trans h.csd,h.hx.turn (fun b hb e=>keeps_block hk hb (by rw [k2 b hb e];exact hne)) (fun b hb e e'=>e'.2 ((newcol_old hb).trans (k2 b hb e))) (fun b hb=>hb.1),?_⟩
 obtain ⟨L,h1,h2,h3,h4⟩:=hy'.ex
 refine ⟨⟨L,h1,h2,fun b hf e=>?_,h4⟩,fun b e=>e.1⟩
 rcases Nat.lt_or_ge b w.heap.size with hb | hb
 ·exact h3 b hf ⟨hb,by have:=e.2;rw [newcol_old hb] at this;exact this⟩
 ·exact e.2 (newcol_new hb)
end Go.Proofs.YthfdgdfnflilfaaGreatDoor

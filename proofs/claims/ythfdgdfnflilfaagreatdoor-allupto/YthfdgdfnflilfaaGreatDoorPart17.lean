/- Part 17: Save3, LoadF, Laid. -/
import Derived.WalkLawsBesides
import Derived.FnData
import Derived.Stop.LaidErr
import Derived.LaidLaws
import Derived.Test.YthfdgdfnflilfaaGreatDoorRows
import Derived.Test.YthfdgdfnflilfaaGreatDoorPart7
import Derived.Test.YthfdgdfnflilfaaGreatDoorPart11
namespace Go.Proofs.YthfdgdfnflilfaaGreatDoor
open Go.RowKit Go.Conc
theorem StAt.saved {w w1:World} {b:Nat} {vw:Value} {ch:Option Nat} {sourced:Bool} {m:Sm} (h:StAt w b vw ch sourced m) {B:Nat} {v v1:Value} {s s1:List Int} (hs:SvAt B w v s) (h1:Wrote B w v s1 v1 w1):StAt w1 b vw ch sourced m:=by
 refine h.stays fun y hy=>?_
 rcases hy with rfl | hy | hy
 ·exact h1.fr.block _ (lt_of_blk h.blk) (hs.ne h.blk (by decide))
 ·obtain ⟨cur,hc⟩:=own_block h.own hy
  exact h1.fr.block _ (lt_of_blk hc) (hs.ne hc (by decide))
 ·obtain ⟨⟨p,q,hc⟩, -⟩:=h.chan y hy
  exact h1.fr.block _ (lt_of_blk hc) (hs.ne_chan hc)
theorem StAt.ints {w:World} {b:Nat} {vw:Value} {ch:Option Nat} {sourced:Bool} {m:Sm} (h:StAt w b vw ch sourced m):IntsAt w vw m.words:=by
 obtain ⟨a,cap,rfl,hcap,hc⟩:=own_form h.own
 refine ⟨a,cap,rfl,by have:=h.small;omega,hcap,?_⟩
 rcases Nat.eq_zero_or_pos m.words.length with h0 | h0
 ·exact Or.inl h0
 ·obtain ⟨g,rfl, -⟩:=hc 0 h0
  refine Or.inr ⟨g,0,rfl,fun i hi j hj=>?_⟩
  obtain ⟨g',e,d⟩:=hc i hi
  cases e
  have hj0:j=0:=by omega
  subst hj0
  simpa using d
set_option maxRecDepth 100000 in
set_option maxHeartbeats 2000000 in
theorem ssave_src {w:World} {b:Nat} {vw:Value} {m:Sm} (h:StAt w b vw none true m) {B:Nat} {v:Value} {s:List Int} (hB:B≤w.heap.size) (hs:SvAt B w v s) (hlen:s.length≤35184372088832) :
  Calls Tryz.prog 73 #[.pointer (some ⟨b,0,none⟩),v] w fun e w'=>∃ v',e=.returned v'∧Wrote B w v (s++bytesOf (stNums true m)) v' w':=by
 obtain ⟨c0,c1,c2,c3,cf⟩:=h.cells
 simp only [if_true] at c2
 have HA1:Hid (Calls Tryz.prog 88 #[v,.slice (some ⟨w.heap.size,0,none⟩) 1 1] (w.alloc (.cells #[.int .i64 m.read] 3)) fun e w'=>∃ v',e=.returned v'∧Wrote B w v (s++bytesOf (stNums true m)) v' w'):=append_new [(m.read:Int)] (by simp) hB hs (by omega)
 clear h hs cf
 go_enter Tryz.func73,Tryz.ntmps73
 go_wp2_with fail
 refine (unhide HA1).mono ?_
 rintro e w1 ⟨v1,rfl,h1⟩
 have H1:=hide h1
 clear h1 HA1
 go_wp2
 go_ret
 exact ⟨v1,rfl,H1.out⟩
theorem ssave_rest {w:World} {b:Nat} {vw:Value} {ch:Option Nat} {m:Sm} (h:StAt w b vw ch false m) {B:Nat} {v:Value} {s:List Int} (hB:B≤w.heap.size) (hs:SvAt B w v s) (hlen:s.length≤35184372088832) (hw:m.words.length≤1099511627776) (q:Nat) :
  Calls Tryz.prog 88 #[v,.slice (some ⟨w.heap.size,0,none⟩) 3 3] ((w.drewN q).alloc (.cells #[.int .i64 m.room,.int .i64 m.read,.int .i64 m.words.length] 3)) fun e w'=>∃ v',e=.returned v'∧(w'.cell? ⟨b,1,none⟩=some vw ∧
   Calls Tryz.prog 88 #[v',vw] w' fun e w''=>∃ v'',e=.returned v''∧Wrote B w v (s++bytesOf (stNums false m)) v'' w''):=by
 have h':StAt (w.drewN q) b vw ch false m:=h.stays fun _ _=>rfl
 refine (append_new (w:=w.drewN q) [(m.room:Int),(m.read:Int),(m.words.length:Int)] (by simp) hB hs (by omega)).mono fun e w' ⟨v',q1,q2⟩=>⟨v',q1,?_⟩
 have h1:=h'.saved hs q2
 refine ⟨h1.cells.2.1,(append_calls (Nat.le_trans hB q2.fr.size) q2.at' h1.ints (fun g hg e=>?_) (by simp [bytesOf_length];omega)).mono fun e w'' ⟨v'',r1,r2⟩=>⟨v'',r1,?_⟩⟩
 ·obtain ⟨cur,hc⟩:=own_block h1.own e
  exact q2.at'.ne hc (by decide) hg
 ·have e:s++bytesOf [(m.room:Int),(m.read:Int),(m.words.length:Int)]++bytesOf m.words=s++bytesOf (stNums false m):=by simp [bytesOf,stNums]
  rw [e] at r2
  exact (q2.trans r2).of_draw
set_option maxRecDepth 100000 in
set_option maxHeartbeats 2000000 in
theorem ssave_unread {w:World} {b:Nat} {vw:Value} {m:Sm} (h:StAt w b vw none false m) (hr:m.read=0) {B:Nat} {v:Value} {s:List Int} (hB:B≤w.heap.size) (hs:SvAt B w v s) (hlen:s.length≤35184372088832) (hw:m.words.length≤1099511627776) :
  Calls Tryz.prog 73 #[.pointer (some ⟨b,0,none⟩),v] w fun e w'=>∃ v',e=.returned v'∧Wrote B w v (s++bytesOf (stNums false m)) v' w':=by
 obtain ⟨c0,c1,c2,c3,cf⟩:=h.cells
 have c4:w.cell? ⟨b,4,none⟩=some (.int .i64 (m.room:Int)):=row_cell h.blk rfl
 have hne:=fun (wx:World) (a:Option Nat)=>run_neq_chan_nil (P:=Tryz.prog) wx 109 a Tryz.underlying109
 have HA:=hide (ssave_rest h hB hs hlen hw 0)
 rw [hr] at HA
 obtain ⟨aw,capw,hvw, -, -⟩:=own_form h.own
 clear h hs cf c2
 subst hvw
 generalize m.words.length=ml at *
 generalize (m.room:Int)=mr at *
 go_enter Tryz.func73,Tryz.ntmps73
 go_wp2_with fail
 refine (unhide HA).mono ?_
 rintro e w1 ⟨v1,rfl,d1,h1⟩
 have H1:=hide h1
 clear h1 HA
 go_wp2_with fail
 refine (unhide H1).mono ?_
 rintro e w2 ⟨v2,rfl,h2⟩
 have H2:=hide h2
 clear h2 H1
 go_wp2
 go_ret
 exact ⟨v2,rfl,H2.out⟩
set_option maxRecDepth 100000 in
set_option maxHeartbeats 2000000 in
theorem ssave_held {w:World} {b c:Nat} {vw:Value} {m:Sm} (h:StAt w b vw (some c) false m) {B:Nat} {v:Value} {s:List Int} (hB:B≤w.heap.size) (hs:SvAt B w v s) (hlen:s.length≤35184372088832) (hw:m.words.length≤1099511627776) :
  Calls Tryz.prog 73 #[.pointer (some ⟨b,0,none⟩),v] w fun e w'=>∃ v',e=.returned v'∧Wrote B w v (s++bytesOf (stNums false m)) v' w':=by
 obtain ⟨c0,c1,c2,c3,cf⟩:=h.cells
 have c4:w.cell? ⟨b,4,none⟩=some (.int .i64 0):=row_cell h.blk rfl
 have hne:=fun (wx:World) (a:Option Nat)=>run_neq_chan_nil (P:=Tryz.prog) wx 109 a Tryz.underlying109
 obtain ⟨⟨s0,r0,hc⟩,hcap,hroom⟩:=h.chan c rfl
 have hlen':=fun (q:Nat) ty=>run_len_chan (P:=Tryz.prog) (w:=w.drewN q) 109 ty Tryz.underlying109 hc
 have hcp:=fun (q:Nat) ty=>run_cap_chan (P:=Tryz.prog) (w:=w.drewN q) 109 ty Tryz.underlying109 hc
 simp only [unread_size] at hlen'
 have hle:=h.le
 have HA:=hide (fun q=>ssave_rest h hB hs hlen hw q)
 have wr1:IntKind.i64.wrap ((m.words.length:Int)-((m.words.length-m.read:Nat):Int))=(m.read:Int):=by rw [IntKind.wrap_i64];omega
 obtain ⟨aw,capw,hvw, -, -⟩:=own_form h.own
 clear h hs cf c2 hc
 subst hvw
 generalize m.words.length-m.read=un at *
 generalize m.words.length=ml at *
 go_enter Tryz.func73,Tryz.ntmps73
 go_wp2
 go_quiet (fail)
 go_wp2_with fail
 refine (unhide HA _).mono ?_
 rintro e w1 ⟨v1,rfl,d1,h1⟩
 have H1:=hide h1
 clear h1 HA
 go_wp2_with fail
 refine (unhide H1).mono ?_
 rintro e w2 ⟨v2,rfl,h2⟩
 have H2:=hide h2
 clear h2 H1
 go_wp2
 go_ret
 exact ⟨v2,rfl,H2.out⟩
theorem ssave_calls {w:World} {b:Nat} {ch:Option Nat} {sourced:Bool} {vw:Value} {m:Sm} (h:StAt w b vw ch sourced m) (hr:ch=none→sourced=false→m.read=0) {B:Nat} {v:Value} {s:List Int} (hB:B≤w.heap.size) (hs:SvAt B w v s) (hlen:s.length≤35184372088832) (hw:m.words.length≤1099511627776) :
  Calls Tryz.prog 73 #[.pointer (some ⟨b,0,none⟩),v] w fun e w'=>∃ v',e=.returned v'∧Wrote B w v (s++bytesOf (stNums sourced m)) v' w':=by
 cases sourced with
 | true=>
  cases ch with
  | none=>exact ssave_src h hB hs hlen
  | some c=>have:=h.nosrc c rfl;cases this
 | false=>
  cases ch with
  | none=>exact ssave_unread h (hr rfl rfl) hB hs hlen hw
  | some c=>exact ssave_held h hB hs hlen hw
variable {rs:List Int}
def ErrTy (u:TypeId):Prop:=∃ i te j,Tryz.prog.info? u=some i∧i.comparable=true∧Tryz.prog.underlying u=some (.pointer te)∧Tryz.prog.info? te=some j
structure ErrAt (w:World) (a:TypeId×Addr):Prop where
 cell:w.cell? ⟨0,0,none⟩=some (.iface a.1 (.pointer (some a.2)))
 ty:ErrTy a.1
def gave (a:TypeId×Addr):Ending:=.panicked [{v:=.iface a.1 (.pointer (some a.2)),recovered:=false}]
theorem ErrAt.below {B:Nat} {w w':World} {a:TypeId×Addr} (h:ErrAt w a) (hb:Below B w w') (hB:0<B):ErrAt w' a:=⟨by rw [← h.cell];exact hb.cell (p:=⟨0,0,none⟩) hB,h.ty⟩
theorem RdAt.fr_below {B:Nat} {w w':World} {rb:Nat} {l:List Int} (h:RdAt rs B w rb l) (hB:B≤w.heap.size) (hf:Fr (fun y=>y=rb) w w'):Below B w w':=
 ⟨hf.os,hf.tape,hf.output,hf.size,fun k hk=>hf.block k (by omega) (fun e=>by have:=h.ge;omega)⟩
set_option maxHeartbeats 1000000 in
theorem number_gives {B:Nat} {w:World} {rb:Nat} {a:TypeId×Addr} (h:RdAt rs B w rb []) (he:ErrAt w a) :
  Calls Tryz.prog 105 #[.pointer (some ⟨rb,0,none⟩)] w fun e w'=>e=gave a∧w'=w:=by
 obtain ⟨v,hblk,⟨av,cap,rfl,hn,hcap, -⟩, -⟩:=h.blk
 have hsh:=h.short
 rw [List.length_append,bytesOf_length,List.length_nil,Nat.mul_zero,Nat.zero_add] at hblk hn
 have z0:=(blk_cell hblk 0 _ rfl).1
 replace he:=he.cell
 generalize rs.length=m at *
 have q:decide ((m:Int)<8)=true:=by simp;omega
 clear hblk h
 go_enter Tryz.func105,Tryz.ntmps105
 go_wp2
 exact ⟨rfl,rfl,rfl⟩
set_option maxHeartbeats 1000000 in
theorem within_gives {B:Nat} {w:World} {rb:Nat} {l:List Int} {a:TypeId×Addr} (h:RdAt rs B w rb l) (hx:∀ x∈l,Fits64 x) (hB:B≤w.heap.size) (hB0:0<B) (he:ErrAt w a) (least most:Int) (hno:∀ x l',l=x::l'→x<least∨most<x) :
  Calls Tryz.prog 104 #[.pointer (some ⟨rb,0,none⟩),.int .i64 least,.int .i64 most] w fun e w'=>e=gave a∧Below B w w':=by
 cases l with
 | nil=>
  have HN:=hide (number_gives h he)
  clear h he hno hx
  go_enter Tryz.func104,Tryz.ntmps104
  go_wp2_with fail
  refine (unhide HN).mono ?_
  rintro e w1 ⟨rfl,rfl⟩
  exact ⟨rfl,rfl,Below.refl _ _⟩
 | cons x l=>
  have HN:Hid (Calls Tryz.prog 105 #[.pointer (some ⟨rb,0,none⟩)] w fun e w'=>e=.returned (.int .i64 x)∧Below B w w'∧w'.cell? ⟨0,0,none⟩=some (.iface a.1 (.pointer (some a.2)))):=(number_calls h (hx x (by simp))).mono fun e w' ⟨q1,_,q3⟩=>⟨q1,h.fr_below hB q3,(he.below (h.fr_below hB q3) hB0).cell⟩
  have hno':=hno x l rfl
  clear h he hno hx
  rcases hno' with h1 | h1
  ·have q1:decide (x<least)=true:=by simpa using h1
   go_enter Tryz.func104,Tryz.ntmps104
   go_wp2_with fail
   refine (unhide HN).mono ?_
   rintro e w1 ⟨rfl,hb,hc⟩
   have HBl:=hide hb
   clear hb HN
   go_wp2
   exact ⟨rfl,rfl,HBl.out⟩
  ·by_cases h2:x<least
   ·have q1:decide (x<least)=true:=by simpa using h2
    go_enter Tryz.func104,Tryz.ntmps104
    go_wp2_with fail
    refine (unhide HN).mono ?_
    rintro e w1 ⟨rfl,hb,hc⟩
    have HBl:=hide hb
    clear hb HN
    go_wp2
    exact ⟨rfl,rfl,HBl.out⟩
   ·have q1:decide (x<least)=false:=by simpa using h2
    have q2:decide (most<x)=true:=by simpa using h1
    go_enter Tryz.func104,Tryz.ntmps104
    go_wp2_with fail
    refine (unhide HN).mono ?_
    rintro e w1 ⟨rfl,hb,hc⟩
    have HBl:=hide hb
    clear hb HN
    go_wp2
    exact ⟨rfl,rfl,HBl.out⟩
set_option maxHeartbeats 1000000 in
theorem count_gives {B:Nat} {w:World} {rb:Nat} {l:List Int} {a:TypeId×Addr} (h:RdAt rs B w rb l) (hx:∀ x∈l,Fits64 x) (hB:B≤w.heap.size) (hB0:0<B) (he:ErrAt w a) (hno:∀ x l',l=x::l'→x<0∨(l'.length:Int)<x) :
  Calls Tryz.prog 109 #[.pointer (some ⟨rb,0,none⟩)] w fun e w'=>e=gave a∧Below B w w':=by
 cases l with
 | nil=>
  have HN:=hide (number_gives h he)
  clear h he hno hx
  go_enter Tryz.func109,Tryz.ntmps109
  go_wp2_with fail
  refine (unhide HN).mono ?_
  rintro e w1 ⟨rfl,rfl⟩
  exact ⟨rfl,rfl,Below.refl _ _⟩
 | cons x l=>
  have hsh:=h.short
  have hsm:=h.small
  simp only [List.length_cons] at hsm
  have HN:Hid (Calls Tryz.prog 105 #[.pointer (some ⟨rb,0,none⟩)] w fun e w'=>e=.returned (.int .i64 x)∧Below B w w'∧w'.cell? ⟨0,0,none⟩=some (.iface a.1 (.pointer (some a.2)))∧RdAt rs B w' rb l):=(number_calls h (hx x (by simp))).mono fun e w' ⟨q1,q2,q3⟩=>⟨q1,h.fr_below hB q3,(he.below (h.fr_below hB q3) hB0).cell,q2⟩
  have hno':=hno x l rfl
  clear h he hno hx
  by_cases h1:x<0
  ·have q1:decide (x<0)=true:=by simpa using h1
   go_enter Tryz.func109,Tryz.ntmps109
   go_wp2_with fail
   refine (unhide HN).mono ?_
   rintro e w1 ⟨rfl,hb,hc, -⟩
   have HBl:=hide hb
   clear hb HN
   go_wp2
   exact ⟨rfl,rfl,HBl.out⟩
  ·have q1:decide (x<0)=false:=by simpa using h1
   have q2:decide ((l.length:Int)<x)=true:=by simp;omega
   go_enter Tryz.func109,Tryz.ntmps109
   go_wp2_with fail
   refine (unhide HN).mono ?_
   rintro e w1 ⟨rfl,hb,hc,hr⟩
   have HBl:=hide hb
   obtain ⟨v,hblk,⟨av,cap,rfl,hn,hcap, -⟩, -⟩:=hr.blk
   obtain ⟨m,hm⟩:∃ m,m=8*l.length+rs.length:=⟨_,rfl⟩
   rw [List.length_append,bytesOf_length, ← hm] at hblk hn
   have z0:=(blk_cell hblk 0 _ rfl).1
   have e8:(m:Int) / 8=l.length:=by omega
   clear hb HN hr hblk hm
   go_wp2
   exact ⟨rfl,rfl,HBl.out⟩
set_option maxRecDepth 100000 in
set_option maxHeartbeats 2000000 in
theorem numbers_gives {B:Nat} {w:World} {rb:Nat} {l:List Int} {a:TypeId×Addr} (h:RdAt rs B w rb l) (hx:∀ x∈l,Fits64 x) (hB:B≤w.heap.size) (hB0:0<B) (he:ErrAt w a) (n:Nat) (hn:l.length<n) (hm:n≤1099511627776) :
  Calls Tryz.prog 108 #[.pointer (some ⟨rb,0,none⟩),.int .i64 n] w fun e w'=>e=gave a∧Below B w w':=by
 obtain ⟨i0,hi,hz0,hz1,hz2⟩:=info_parts Tryz.info3
 have hrb:rb<w.heap.size:=by obtain ⟨v,hblk, -⟩:=h.blk;exact lt_of_blk hblk
 have HN:Hid (∀ wx k (hk:k<l.length),RdAt rs B wx rb (l.drop k)→Calls Tryz.prog 105 #[.pointer (some ⟨rb,0,none⟩)] wx fun e w'=>e=.returned (.int .i64 l[k])∧RdAt rs B w' rb (l.drop (k+1))∧Fr (fun y=>y=rb) wx w'):=fun wx k hk hr=>by
  rw [List.drop_eq_getElem_cons hk] at hr
  exact number_calls hr (hx _ (List.getElem_mem hk))
 have HG:Hid (∀ wx,RdAt rs B wx rb (l.drop l.length)→Fr (fun y=>y=rb) w wx→Calls Tryz.prog 105 #[.pointer (some ⟨rb,0,none⟩)] wx fun e w'=>e=gave a∧Below B w w'):=fun wx hr hf=>by
  rw [List.drop_length] at hr
  have hb:=h.fr_below hB hf
  exact (number_gives hr (he.below hb hB0)).mono fun e w' ⟨q1,q2⟩=>⟨q1,q2 ▸ hb⟩
 have H0:Hid (RdAt rs B w rb (l.drop 0)):=h
 clear h hx he
 go_enter Tryz.func108,Tryz.ntmps108
 go_wp2
 go_loopw [5,7] (fun st i wr=>∃ (k:Nat) (v':Value),k≤l.length∧i=.int .i64 k∧v'=st∧wr.ownsRow w.heap.size 3 1 v' k (intRow (l.take k))∧RdAt rs B wr rb (l.drop k)∧Fr (fun y=>y=rb) w wr) (fun _ i _=>l.length-(intOf i).toNat)
 case atStart=>exact ⟨0,_,Nat.zero_le _,rfl,rfl,⟨rfl,Or.inl ⟨rfl,rfl⟩⟩,H0.out,Fr.refl _ _⟩
 case round=>
  clear H0
  obtain ⟨k,v1,hk,rfl,rfl,hown,hr,hf⟩:=hrel
  have hkn:(k:Int)<(n:Int):=by omega
  by_cases hlt:k<l.length
  ·have HN1:=hide (HN.out wr k hlt hr)
   have HO:=hide hown
   have HF:=hide hf
   have hsz:=hf.size
   obtain ⟨a2,cap2,rfl⟩:=own_slice hown
   have HT:Hid (intRow (l.take (k+1))=intRow (l.take k)++[.int .i64 l[k]]):=by
    unfold Hid
    rw [List.take_succ_eq_append_getElem hlt];exact intRow_snoc _ _
   clear HN HG hr hown hf
   generalize l[k]=x at *
   go_wp2_with fail
   refine (unhide HN1).mono ?_
   rintro e w1 ⟨rfl,hr1,hf1⟩
   have HO1:Hid (w1.ownsRow w.heap.size 3 1 (.slice a2 k cap2) k (intRow (l.take k))):=own_of_blockB HO.out fun g hg=>by
    obtain ⟨cur,hc⟩:=own_blockB HO.out hg
    have:=own_baseB HO.out hg
    exact hf1.block g (lt_of_blk hc) (by omega)
   have HR1:=hide hr1
   have HF1:Hid (Fr (fun y=>y=rb) w w1):=HF.out.trans hf1 fun _ _ e=>e
   have hsz1:w.heap.size≤w1.heap.size:=Nat.le_trans hsz hf1.size
   have hrb1:rb<w1.heap.size:=by omega
   clear hr1 hf1 HN1 HO HF
   have h63:k+1≤maxLen:=by unfold maxLen;omega
   have hbytes:(k+1)*8≤140737488355328:=by omega
   go_wp2_with (at_builtin;refine wpList_append_lies _ rfl (.tmp 9) (.tmp 12) 22 rfl w.heap.size 3 i0 (.int .i64 0) 1 8 Tryz.underlying22 hi hz0 hz1 hz2 rfl (by decide) (.slice a2 k cap2) k (intRow (l.take k)) rfl (HO1.out.alloc _) ⟨w1.heap.size,0,none⟩ 1 1 [.int .i64 x] rfl rfl ?c1 ?c2 (by decide) h63 hbytes (by simp;omega) (w1.heap.size+1) (by simp) ?_)
   case c1=>exact cell_one_new _ _ _
   case c2=>intro u hu;simp at hu;subst hu;rfl
   intro g gcap w2 hown hgrow hor hglt
   have hne:∀ y,(Value.slice a2 k cap2).ownBlock=some y→w.heap.size≤y:=fun y hy=>own_baseB HO1.out hy
   have HF2:Hid (Fr (fun y=>y=rb) w w2):=(HF1.out.alloc _).grown hgrow fun y hy=>Or.inl (hne y hy)
   have HR2:Hid (RdAt rs B w2 rb (l.drop (k+1))):=by
    have hq:w2.heap[rb]? = w1.heap[rb]? := by
     rw [hgrow.block rb (by simp;omega) (fun e=>by have:=hne rb e.symm;omega),Below.heap_alloc _ _ _ hrb1]
    refine HR1.out.keep ⟨hgrow.os,hgrow.tape,hgrow.output,?_,fun y hy=>?_⟩ hq
    ·have:=hgrow.size;simp at this;omega
    ·rw [hgrow.block y (by simp;omega) (fun e=>by have:=hne y e.symm;omega),Below.heap_alloc _ _ _ (by omega)]
   have HO2:Hid (w2.ownsRow w.heap.size 3 1 (.slice (some ⟨g,0,none⟩) (k+1) gcap) (k+1) (intRow (l.take (k+1)))):=by rw [HT.out];exact hown
   clear hown hgrow hor hne HO1 HR1 HF1
   go_wp2
   go_roundw
   case rel=>exact ⟨k+1,_,by omega,by go_num,rfl,HO2.out,HR2.out,HF2.out⟩
   case measure=>simp [intOf];omega
  ·have hkl:k=l.length:=by omega
   subst hkl
   have HG1:=hide (HG.out wr hr hf)
   clear hown hr hf HN HG
   go_wp2_with fail
   refine (unhide HG1).mono ?_
   rintro e w2 ⟨rfl,hb⟩
   exact ⟨rfl,rfl,hb⟩
set_option maxHeartbeats 1000000 in
theorem end_gives {B:Nat} {w:World} {rb:Nat} {l:List Int} {a:TypeId×Addr} (h:RdAt rs B w rb l) (he:ErrAt w a) (hno:l≠[]∨rs≠[]) :
  Calls Tryz.prog 99 #[.pointer (some ⟨rb,0,none⟩)] w fun e w'=>e=gave a∧w'=w:=by
 obtain ⟨v,hblk,⟨av,cap,rfl,hn,hcap, -⟩, -⟩:=h.blk
 obtain ⟨m,hm⟩:∃ m,m=(bytesOf l++rs).length:=⟨_,rfl⟩
 rw [← hm] at hblk hn
 have hm0:0<m:=by
  rw [hm,List.length_append,bytesOf_length]
  rcases hno with h1 | h1
  ·have:=List.length_pos_iff.2 h1;omega
  ·have:=List.length_pos_iff.2 h1;omega
 have z0:=(blk_cell hblk 0 _ rfl).1
 replace he:=he.cell
 have q:decide ((0:Int)<(m:Int))=true:=by simp;omega
 clear hblk h hm hno
 go_enter Tryz.func99,Tryz.ntmps99
 go_wp2
 exact ⟨rfl,rfl,rfl⟩
open Go.RowKit Go.Stop Go.Extern Go.Extern.Stop
theorem Tryz.errG:Tryz.prog.globalNamed "millrace/states.errNoState" = some 0:=by kernel_rfl
theorem Tryz.errT:(Tryz.prog.globals[0]?).map (·.type)=some 155:=by kernel_rfl
theorem star_err : "*" ++ "errors.errorString" = "*errors.errorString" := by decide
theorem Tryz.errRow (u:TypeId) (h:Tryz.prog.typeName? 3 u=some "*errors.errorString"):u=165:=
 typeName_ptr_named (nm := "errors.errorString") (by rw [star_err];kernel_rfl) (by kernel_rfl) (by decide) u (by rw [star_err];exact h)
theorem err_ty:ErrTy 165:=by
 have h1:(Tryz.prog.info? 165).map (·.comparable)=some true:=by kernel_rfl
 have h2:(Tryz.prog.info? 181).isSome=true:=by kernel_rfl
 obtain ⟨j,hj⟩:=Option.isSome_iff_exists.1 h2
 obtain ⟨i,hi,hc⟩:=Option.map_eq_some_iff.1 h1
 exact ⟨i,181,j,hi,hc,by kernel_rfl,hj⟩
theorem err_of_laid {r:List (String×DataW Unit)} {W:World} (h:laidMet Tryz.prog (("millrace/states.errNoState",.iface "*errors.errorString" (.ptr (.agg [.lit (.string [110,111,32,115,116,97,116,101])])))::r) W):∃ a,ErrAt W a:=by
 obtain ⟨a,s,h1, -⟩:=laid_sentinel h Tryz.errG Tryz.errT Tryz.underlying155 Tryz.errRow (by kernel_rfl:Tryz.prog.underlying 165=some (.pointer 181)) Tryz.underlying181 rfl rfl Tryz.underlying9 (by kernel_rfl) (by kernel_rfl)
 exact ⟨(165,a),by simpa using World.var?_cell Tryz.errG h1 0,err_ty⟩
end Go.Proofs.YthfdgdfnflilfaaGreatDoor

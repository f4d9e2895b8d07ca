/- Part 7: Streams1, Streams2, Streams3, Streams4, Streams5, Fresh, Workers1. -/
import Derived.Conc.LoneSelectN
import Derived.Deep.AppendLies
import Derived.Deep.Upon
import Derived.Test.YthfdgdfnflilfaaGreatDoorPart1
import Derived.Test.YthfdgdfnflilfaaGreatDoorPart2
import Derived.Test.YthfdgdfnflilfaaGreatDoorPart3
import Derived.Test.YthfdgdfnflilfaaGreatDoorPart4
namespace Go.Proofs.YthfdgdfnflilfaaGreatDoor
open Go.RowKit Go.Conc
structure Fr (S:Nat→Prop) (w w':World):Prop where
 os:w'.os=w.os
 tape:w'.tape=w.tape
 output:w'.output=w.output
 size:w.heap.size≤w'.heap.size
 block:∀ k,k<w.heap.size→¬ S k→w'.heap[k]? = w.heap[k]?
theorem Fr.of_below {S:Nat→Prop} {w w':World} (h:Below w.heap.size w w'):Fr S w w':=⟨h.os,h.tape,h.output,h.size,fun k hk _=>h.block k hk⟩
theorem Fr.refl (S:Nat→Prop) (w:World):Fr S w w:=⟨rfl,rfl,rfl,Nat.le_refl _,fun _ _ _=>rfl⟩
theorem Fr.mono {S T:Nat→Prop} {w w':World} (h:Fr S w w') (hs:∀ k,k<w.heap.size→S k→T k):Fr T w w':=⟨h.os,h.tape,h.output,h.size,fun k hk hn=>h.block k hk (fun e=>hn (hs k hk e))⟩
theorem Fr.trans {S T:Nat→Prop} {a b c:World} (h:Fr S a b) (k:Fr T b c) (hs:∀ x,x<a.heap.size→T x→S x):Fr S a c:=
 ⟨k.os.trans h.os,k.tape.trans h.tape,k.output.trans h.output,Nat.le_trans h.size k.size,fun x hx hn=>(k.block x (Nat.lt_of_lt_of_le hx h.size) (fun e=>hn (hs x hx e))).trans (h.block x hx hn)⟩
theorem Fr.drewN {S:Nat→Prop} {w w':World} (h:Fr S w w') (q:Nat):Fr S w (w'.drewN q):=⟨h.os,h.tape,h.output,h.size,h.block⟩
theorem Fr.setCell {S:Nat→Prop} {w w':World} (h:Fr S w w') {p:Addr} (hp:w.heap.size≤p.block∨S p.block) (v:Value):Fr S w (w'.setCell p v):=
 ⟨h.os,h.tape,h.output,by simpa [World.setCell] using h.size,fun k hk hn=>(Below.heap_setCell _ _ _ _ (fun e=>by subst e;rcases hp with hp | hp;omega;exact hn hp)).trans (h.block k hk hn)⟩
theorem Fr.alloc {S:Nat→Prop} {w w':World} (h:Fr S w w') (o:Obj):Fr S w (w'.alloc o):=
 ⟨h.os,h.tape,h.output,by have:=h.size;simp;omega,fun k hk hn=>(Below.heap_alloc _ _ _ (by have:=h.size;omega)).trans (h.block k hk hn)⟩
theorem Fr.setChan {S:Nat→Prop} {w w':World} (h:Fr S w w') {c:Nat} (hc:w.heap.size≤c∨S c) (cap:Nat) (buf:Array Value) (cl:Bool) (s r:Nat) (tm:Bool):Fr S w (w'.setChan c cap buf cl s r tm):=
 ⟨h.os,h.tape,h.output,by rw [size_setChan];exact h.size,fun k hk hn=>by
  have hne:c≠k:=fun e=>by subst e;rcases hc with hc | hc;omega;exact hn hc
  rw [← h.block k hk hn]
  simp only [World.setChan]
  rw [Array.getElem?_setIfInBounds_ne hne]⟩
theorem Fr.grown {S:Nat→Prop} {w w1 w':World} {row:Option Nat} (h:Fr S w w1) (hg:w1.grownBy w' row) (hr:∀ k,row=some k→w.heap.size≤k∨S k):Fr S w w':=
 ⟨hg.os.trans h.os,hg.tape.trans h.tape,hg.output.trans h.output,Nat.le_trans h.size hg.size,fun k hk hn=>(hg.block k (Nat.lt_of_lt_of_le hk h.size) (fun e=>by rcases hr k e.symm with h1 | h1;omega;exact hn h1)).trans (h.block k hk hn)⟩
def unusedV:Bool→Option Nat→Nat→Int
 | false,none,r=>(r:Int)
 | _,_,_=>0
@[simp] theorem unusedV_none (r:Nat):unusedV false none r=(r:Int):=rfl
@[simp] theorem unusedV_src (c:Option Nat) (r:Nat):unusedV true c r=0:=by cases c<;>rfl
@[simp] theorem unusedV_some (b:Bool) (c r:Nat):unusedV b (some c) r=0:=by cases b<;>rfl
structure StAt (w:World) (b:Nat) (vw:Value) (ch:Option Nat) (sourced:Bool) (m:Sm):Prop where
 blk:w.heap[b]? = some (.cells #[.bool sourced,vw,.int .i64 (if sourced then (m.read:Int) else 0),.chan ch,.int .i64 (unusedV sourced ch m.room)] 111 (0,0))
 own:w.ownsRow 0 3 1 vw m.words.length (intRow m.words)
 le:m.read≤m.words.length
 small:m.words.length≤4398046511104
 chan:∀ c,ch=some c→(∃ s r,w.heap[c]? = some (.chan m.room (intRow (m.words.drop m.read)).toArray false s r false))∧m.words.length-m.read≤m.room∧m.room≤1000
 nosrc:∀ c,ch=some c→sourced=false
theorem blk_cell {w:World} {b:Nat} {l:List Value} {t:TypeId} (h:w.heap[b]? = some (.cells l.toArray t (0,0))) (i:Nat) (v:Value) (hi:l[i]? = some v):w.cell? ⟨b,i,none⟩=some v∧w.frozen? ⟨b,i,none⟩=false:=
 ⟨row_cell h hi,row_frozen h i⟩
theorem StAt.cells {w:World} {b:Nat} {vw:Value} {ch:Option Nat} {sourced:Bool} {m:Sm} (h:StAt w b vw ch sourced m) :
  w.cell? ⟨b,0,none⟩=some (.bool sourced)∧w.cell? ⟨b,1,none⟩=some vw∧w.cell? ⟨b,2,none⟩=some (.int .i64 (if sourced then (m.read:Int) else 0))∧w.cell? ⟨b,3,none⟩=some (.chan ch) ∧
   (∀ i,w.frozen? ⟨b,i,none⟩=false):=
 ⟨row_cell h.blk rfl,row_cell h.blk rfl,row_cell h.blk rfl,row_cell h.blk rfl,fun i=>row_frozen h.blk i⟩
theorem own_form {w:World} {vw:Value} {l:List Int} (h:w.ownsRow 0 3 1 vw l.length (intRow l)):∃ a cap,vw=.slice a l.length cap∧l.length≤cap∧(∀ i,i<l.length→∃ g,a=some ⟨g,0,none⟩∧w.cell? ⟨g,i,none⟩=some (.int .i64 (l.getD i 0))):=by
 obtain ⟨h1,h2⟩:=h
 rcases h2 with ⟨h3,h4⟩ | ⟨g,cap,cur,hv,hg,hh,hn,hm,hs,ht⟩
 ·exact ⟨none,0,by rw [h3,h4],by omega,fun i hi=>by omega⟩
 ·refine ⟨some ⟨g,0,none⟩,cap,hv,hn,fun i hi=>⟨g,rfl,?_⟩⟩
  have e:(intRow l)[i]? = some (.int .i64 (l.getD i 0)):=by rw [intRow_get _ _ hi,getD_eq _ _ _ hi]
  rw [← ht] at e
  simp only [Nat.mul_one] at e
  rw [List.getElem?_take_of_lt hi] at e
  simp [World.cell?,hh]
  simpa using e
theorem run_equalIn_chan_nil {P:Program} (w:World) (d:Nat) (t:TypeId) {dir:ChanDir} {e:TypeId} (a:Option Nat) (h:P.underlying t=some (.chan dir e)) :
  (Op.equalIn (d+1) t (.chan a) (.chan none)).run P w=.ok a.isNone w:=by
 cases a<;>simp [Op.equalIn,run_underlying h]
theorem run_eql_chan_nil {P:Program} (w:World) (t:TypeId) {dir:ChanDir} {e:TypeId} (a:Option Nat) (h:P.underlying t=some (.chan dir e)) :
  (binOp .eql t (.chan a) (.chan none)).run P w=.ok (.bool a.isNone) w:=by
 simp only [binOp]
 simp [Op.equal,Op.maxDepth,run_equalIn_chan_nil w 9999 t a h]
theorem run_neq_chan_nil {P:Program} (w:World) (t:TypeId) {dir:ChanDir} {e:TypeId} (a:Option Nat) (h:P.underlying t=some (.chan dir e)) :
  (binOp .neq t (.chan a) (.chan none)).run P w=.ok (.bool (!a.isNone)) w:=by
 simp only [binOp]
 simp [Op.equal,Op.maxDepth,run_equalIn_chan_nil w 9999 t a h]
theorem run_len_nilchan {P:Program} (w:World) (t ty:TypeId) {dir:ChanDir} {e:TypeId} (h:P.underlying t=some (.chan dir e)) :
  (Builtin.len_ #[t] ty #[.chan none]).run P w=.ok (goInt 0) w:=by
 simp [Builtin.len_,run_underlying h]
theorem run_cap_nilchan {P:Program} (w:World) (t ty:TypeId) {dir:ChanDir} {e:TypeId} (h:P.underlying t=some (.chan dir e)) :
  (Builtin.cap_ #[t] ty #[.chan none]).run P w=.ok (goInt 0) w:=by
 simp [Builtin.cap_,run_underlying h]
set_option maxHeartbeats 400000 in
theorem give_calls {w:World} {b:Nat} {vw:Value} {m:Sm} (h:StAt w b vw none true m) :
  Calls Tryz.prog 92 #[.pointer (some ⟨b,0,none⟩)] w fun e w'=>
   (e=.returned (.tuple #[.int .i64 (m.words.getD m.read 0),.int .i64 0])∧m.read<m.words.length∧(∃ q,w'=(w.setCell ⟨b,2,none⟩ (.int .i64 ((m.read:Int)+1))).drewN q)) ∨
   (e=.returned (.tuple #[.int .i64 0,.int .i64 2])∧m.read=m.words.length∧∃ q,w'=w.drewN q):=by
 obtain ⟨c0,c1,c2,c3,cf⟩:=h.cells
 obtain ⟨a,cap,rfl,hcap,hw⟩:=own_form h.own
 have hle:=h.le
 have hsm:=h.small
 have f2:=cf 2
 simp only [if_true] at c2
 clear cf h
 by_cases hlt:m.read<m.words.length
 ·obtain ⟨g,rfl,d0⟩:=hw m.read hlt
  have HL:=hide hlt
  have hne:(((m.read:Int)) == (m.words.length:Int))=false:=by simp;omega
  have hk0:(0:Int)≤(m.read:Int):=by omega
  have hk1:(m.read:Int)<(m.words.length:Int):=by omega
  clear hw
  generalize m.words.getD m.read 0=x at *
  go_enter Tryz.func92,Tryz.ntmps92
  go_wp2
  go_quiet (fail)
  go_wp2
  go_quiet (fail)
  go_wp2
  go_ret2
  exact Or.inl ⟨rfl,HL.out,_,rfl⟩
 ·have HL:Hid (m.read=m.words.length):=by unfold Hid;omega
  have hne:(((m.read:Int)) == (m.words.length:Int))=true:=by simp;omega
  clear hw
  go_enter Tryz.func92,Tryz.ntmps92
  go_wp2
  go_quiet (fail)
  go_wp2
  go_ret2
  exact Or.inr ⟨rfl,HL.out,_,rfl⟩
theorem own_of_block {w w':World} {e:TypeId} {size:Nat} {v:Value} {n:Nat} {xs:List Value} (h:w.ownsRow 0 e size v n xs) (hk:∀ g,v.ownBlock=some g→w'.heap[g]? = w.heap[g]?):w'.ownsRow 0 e size v n xs:=by
 obtain ⟨h1,h2⟩:=h
 refine ⟨h1,?_⟩
 rcases h2 with h2 | ⟨g,cap,cur,hv,hg,hh,r⟩
 ·exact Or.inl h2
 ·exact Or.inr ⟨g,cap,cur,hv,hg,by rw [hk g (by rw [hv];rfl)];exact hh,r⟩
theorem own_block {w:World} {e:TypeId} {size:Nat} {v:Value} {n:Nat} {xs:List Value} (h:w.ownsRow 0 e size v n xs) {g:Nat} (hg:v.ownBlock=some g):∃ cur,w.heap[g]? = some (.cells cur e (0,0)):=by
 obtain ⟨_,h2⟩:=h
 rcases h2 with ⟨h2,_⟩ | ⟨g',cap,cur,hv,_,hh,_⟩
 ·rw [h2] at hg;cases hg
 ·rw [hv] at hg
  have:g'=g:=by simpa [Value.ownBlock] using hg
  subst this
  exact ⟨cur,hh⟩
theorem ne_of_types {w:World} {a b:Nat} {c c':Array Value} {s t:TypeId} {f f':Nat×Nat} (ha:w.heap[a]? = some (.cells c s f)) (hb:w.heap[b]? = some (.cells c' t f')) (hst:s≠t):a≠b:=by
 intro e;subst e;rw [ha] at hb;injection hb with hb;injection hb with _ h2;exact hst h2
theorem ne_of_chan {w:World} {a b:Nat} {c:Array Value} {s:TypeId} {f:Nat×Nat} {cap:Nat} {buf:Array Value} {cl tm:Bool} {x y:Nat} (ha:w.heap[a]? = some (.cells c s f)) (hb:w.heap[b]? = some (.chan cap buf cl x y tm)):a≠b:=by
 intro e;subst e;rw [ha] at hb;injection hb with hb;cases hb
theorem blk_set {w:World} {b:Nat} {l:List Value} {t:TypeId} (h:w.heap[b]? = some (.cells l.toArray t (0,0))) (i:Nat) (v:Value):(w.setCell ⟨b,i,none⟩ v).heap[b]? = some (.cells (l.set i v).toArray t (0,0)):=by
 have hlt:b<w.heap.size:=(Array.getElem?_eq_some_iff.1 h).1
 simp only [World.setCell,Array.getElem?_modify]
 rw [h]
 simp
theorem lt_of_blk {w:World} {b:Nat} {o:Obj} (h:w.heap[b]? = some o):b<w.heap.size:=(Array.getElem?_eq_some_iff.1 h).1
theorem StAt.ne_own {w:World} {b:Nat} {vw:Value} {ch:Option Nat} {sourced:Bool} {m:Sm} (h:StAt w b vw ch sourced m) {g:Nat} (hg:vw.ownBlock=some g):g≠b:=by
 obtain ⟨cur,hc⟩:=own_block h.own hg
 exact ne_of_types hc h.blk (by decide)
theorem StAt.ne_chan {w:World} {b:Nat} {vw:Value} {ch:Option Nat} {sourced:Bool} {m:Sm} (h:StAt w b vw ch sourced m) {c:Nat} (hc:ch=some c):b≠c:=by
 obtain ⟨⟨s,r,h1⟩,_⟩:=h.chan c hc
 exact ne_of_chan h.blk h1
theorem StAt.own_ne_chan {w:World} {b:Nat} {vw:Value} {ch:Option Nat} {sourced:Bool} {m:Sm} (h:StAt w b vw ch sourced m) {c g:Nat} (hc:ch=some c) (hg:vw.ownBlock=some g):g≠c:=by
 obtain ⟨⟨s,r,h1⟩,_⟩:=h.chan c hc
 obtain ⟨cur,h2⟩:=own_block h.own hg
 exact ne_of_chan h2 h1
theorem StAt.stays {w w':World} {b:Nat} {vw:Value} {ch:Option Nat} {sourced:Bool} {m:Sm} (h:StAt w b vw ch sourced m) (hk:∀ x,x=b∨vw.ownBlock=some x∨ch=some x→w'.heap[x]? = w.heap[x]?):StAt w' b vw ch sourced m:=
 ⟨by rw [hk b (Or.inl rfl)];exact h.blk,own_of_block h.own fun g hg=>hk g (Or.inr (Or.inl hg)),h.le,h.small,
  fun c hc=>by rw [hk c (Or.inr (Or.inr hc))];exact h.chan c hc,h.nosrc⟩
theorem StAt.below {w w':World} {b:Nat} {vw:Value} {ch:Option Nat} {sourced:Bool} {m:Sm} (h:StAt w b vw ch sourced m) (hb:Below w.heap.size w w'):StAt w' b vw ch sourced m:=by
 refine h.stays fun x hx=>hb.block x ?_
 rcases hx with rfl | hx | hx
 ·exact lt_of_blk h.blk
 ·obtain ⟨cur,hc⟩:=own_block h.own hx;exact lt_of_blk hc
 ·obtain ⟨⟨s,r,h1⟩,_⟩:=h.chan x hx;exact lt_of_blk h1
theorem StAt.given {w:World} {b:Nat} {vw:Value} {m:Sm} (h:StAt w b vw none true m) (hlt:m.read<m.words.length) (q:Nat) :
  StAt ((w.setCell ⟨b,2,none⟩ (.int .i64 ((m.read:Int)+1))).drewN q) b vw none true {m with read:=m.read+1}:=by
 refine ⟨?_,?_,hlt,h.small,fun c hc=>(by cases hc),fun c hc=>(by cases hc)⟩
 ·have:=blk_set h.blk 2 (.int .i64 ((m.read:Int)+1))
  simpa using this
 ·exact own_of_block (w:=w) h.own fun g hg=>Below.heap_setCell _ _ _ _ (h.ne_own hg)
theorem unread_size (m:Sm):(intRow (m.words.drop m.read)).toArray.size=m.words.length-m.read:=by simp [intRow]
set_option maxHeartbeats 400000 in
theorem waiting_calls {w:World} {b:Nat} {vw:Value} {ch:Option Nat} {sourced:Bool} {m:Sm} (h:StAt w b vw ch sourced m) (hr:sourced=true∨ch≠none) :
  Calls Tryz.prog 96 #[.pointer (some ⟨b,0,none⟩)] w fun e w'=>e=.returned (.bool (!sourced && (m.read == m.words.length)))∧w'=w:=by
 obtain ⟨c0,c1,c2,c3,cf⟩:=h.cells
 clear cf c1 c2
 cases sourced
 ·cases ch with
  | none=>simp at hr
  | some c=>
   obtain ⟨⟨s,r,hc⟩,hcap,hroom⟩:=h.chan c rfl
   have hlen:=fun ty=>run_len_chan (P:=Tryz.prog) 109 ty Tryz.underlying109 hc
   rw [unread_size] at hlen
   have hle:=h.le
   have HE:Hid ((((m.words.length-m.read:Nat):Int) == 0)=(m.read == m.words.length)):=by
    unfold Hid
    rw [Bool.eq_iff_iff]
    simp only [beq_iff_eq]
    omega
   generalize m.words.length-m.read=u at *
   clear hc h hr
   go_enter Tryz.func96,Tryz.ntmps96
   go_wp2
   go_ret
   exact ⟨ret_bool (by rw [← HE.out];simp),rfl⟩
 ·go_enter Tryz.func96,Tryz.ntmps96
  go_wp2
  go_ret
  exact ⟨ret_bool (by simp),rfl⟩
set_option maxHeartbeats 400000 in
theorem full_calls {w:World} {b:Nat} {vw:Value} {ch:Option Nat} {sourced:Bool} {m:Sm} (h:StAt w b vw ch sourced m) :
  Calls Tryz.prog 97 #[.pointer (some ⟨b,0,none⟩)] w fun e w'=>e=.returned (.bool (ch.isSome && decide (m.room≤m.words.length-m.read)))∧∃ q,w'=w.drewN q:=by
 obtain ⟨c0,c1,c2,c3,cf⟩:=h.cells
 clear cf c0 c1 c2
 have hneq:=fun (wx:World) (a:Option Nat)=>run_neq_chan_nil (P:=Tryz.prog) wx 109 a Tryz.underlying109
 cases ch with
 | none=>
  go_enter Tryz.func97,Tryz.ntmps97
  go_wp2
  go_quiet (fail)
  go_wp2
  go_ret
  exact ⟨ret_bool (by simp),_,rfl⟩
 | some c=>
  obtain ⟨⟨s,r,hc⟩,hcap,hroom⟩:=h.chan c rfl
  have hlen:=fun (q:Nat) ty=>run_len_chan (P:=Tryz.prog) (w:=w.drewN q) 109 ty Tryz.underlying109 hc
  have hcp:=fun (q:Nat) ty=>run_cap_chan (P:=Tryz.prog) (w:=w.drewN q) 109 ty Tryz.underlying109 hc
  simp only [unread_size] at hlen
  have HE:Hid ((((m.words.length-m.read:Nat):Int) == (m.room:Int))=decide (m.room≤m.words.length-m.read)):=by
   unfold Hid
   rw [Bool.eq_iff_iff]
   simp only [beq_iff_eq,decide_eq_true_eq]
   omega
  generalize m.words.length-m.read=u at *
  clear hc h
  go_enter Tryz.func97,Tryz.ntmps97
  go_wp2
  go_quiet (fail)
  go_wp2
  go_ret
  exact ⟨ret_bool (by rw [← HE.out];simp),_,rfl⟩
set_option maxHeartbeats 400000 in
theorem sroom_calls {w:World} {b:Nat} {vw:Value} {ch:Option Nat} {sourced:Bool} {m:Sm} (h:StAt w b vw ch sourced m) :
  Calls Tryz.prog 69 #[.pointer (some ⟨b,0,none⟩)] w fun e w'=>e=.returned (.tuple #[.int .i64 (if ch.isSome then (m.room:Int) else 0),.int .i64 (if ch.isSome then ((m.words.length-m.read:Nat):Int) else 0)])∧∃ q,w'=w.drewN q:=by
 obtain ⟨c0,c1,c2,c3,cf⟩:=h.cells
 clear cf c0 c1 c2
 cases ch with
 | none=>
  have hlen:=fun (wx:World) ty=>run_len_nilchan (P:=Tryz.prog) wx 109 ty Tryz.underlying109
  have hcp:=fun (wx:World) ty=>run_cap_nilchan (P:=Tryz.prog) wx 109 ty Tryz.underlying109
  go_enter Tryz.func69,Tryz.ntmps69
  go_wp2
  go_quiet (fail)
  go_wp2
  go_ret2
  exact ⟨rfl,_,rfl⟩
 | some c=>
  obtain ⟨⟨s,r,hc⟩,hcap,hroom⟩:=h.chan c rfl
  have hlen:=fun (q:Nat) ty=>run_len_chan (P:=Tryz.prog) (w:=w.drewN q) 109 ty Tryz.underlying109 hc
  have hcp:=fun (q:Nat) ty=>run_cap_chan (P:=Tryz.prog) (w:=w.drewN q) 109 ty Tryz.underlying109 hc
  simp only [unread_size] at hlen
  generalize m.words.length-m.read=u at *
  clear hc h
  go_enter Tryz.func69,Tryz.ntmps69
  go_wp2
  go_quiet (fail)
  go_wp2
  go_ret2
  exact ⟨rfl,_,rfl⟩
def Took (w:World) (b:Nat) (vw:Value) (ch:Option Nat) (sourced:Bool) (m:Sm) (e:Ending) (w':World):Prop:=
 (e=.returned (.tuple #[.int .i64 (m.words.getD m.read 0),.int .i64 0])∧m.read<m.words.length∧StAt w' b vw ch sourced {m with read:=m.read+1}∧Fr (fun x=>x=b∨ch=some x) w w'∧w'.heap.size=w.heap.size) ∨
 (e=.returned (.tuple #[.int .i64 0,.int .i64 1])∧sourced=false∧m.read=m.words.length∧∃ q,w'=w.drewN q) ∨
 (e=.returned (.tuple #[.int .i64 0,.int .i64 2])∧sourced=true∧m.read=m.words.length∧∃ q,w'=w.drewN q)
set_option maxHeartbeats 400000 in
theorem take_src {w:World} {b:Nat} {vw:Value} {m:Sm} (h:StAt w b vw none true m) :
  Calls Tryz.prog 78 #[.pointer (some ⟨b,0,none⟩)] w fun e w'=>Took w b vw none true m e w':=by
 obtain ⟨c0,c1,c2,c3,cf⟩:=h.cells
 have HG:=hide (give_calls h)
 clear c1 c2 c3 cf
 go_enter Tryz.func78,Tryz.ntmps78
 go_wp2_with fail
 refine (unhide HG).mono ?_
 rintro e w1 (⟨rfl,hlt,q,rfl⟩ | ⟨rfl,heq,q,rfl⟩)
 ·have HS:=hide (h.given hlt q)
  have HB:Hid (b<w.heap.size):=lt_of_blk h.blk
  have HL:=hide hlt
  clear h HG hlt
  go_wp2
  go_ret2
  refine Or.inl ⟨rfl,HL.out,HS.out,((Fr.refl _ w).setCell (Or.inr (Or.inl rfl)) _).drewN q,by simp [World.setCell]⟩
 ·have HE:=hide heq
  clear heq
  go_wp2
  go_ret2
  exact Or.inr (Or.inr ⟨rfl,rfl,HE.out,q,rfl⟩)
theorem heap_setChan_ne (w:World) (c k cap:Nat) (buf:Array Value) (cl:Bool) (s r:Nat) (tm:Bool) (h:c≠k):(w.setChan c cap buf cl s r tm).heap[k]? = w.heap[k]? := by
 simp only [World.setChan]
 rw [Array.getElem?_setIfInBounds_ne h]
theorem StAt.took {w:World} {b c:Nat} {vw:Value} {m:Sm} (h:StAt w b vw (some c) false m) (hlt:m.read<m.words.length) (s r:Nat) :
  StAt (w.setChan c m.room ((intRow (m.words.drop m.read)).toArray.extract 1 (intRow (m.words.drop m.read)).toArray.size) false s r false) b vw (some c) false {m with read:=m.read+1}:=by
 obtain ⟨⟨s0,r0,hc⟩,hcap,hroom⟩:=h.chan c rfl
 have hcl:c<w.heap.size:=lt_of_blk hc
 refine ⟨?_,?_,hlt,h.small,fun c' hc'=>?_,h.nosrc⟩
 ·rw [heap_setChan_ne _ _ _ _ _ _ _ _ _ (h.ne_chan rfl).symm]
  exact h.blk
 ·exact own_of_block h.own fun g hg=>heap_setChan_ne _ _ _ _ _ _ _ _ _ (h.own_ne_chan rfl hg).symm
 ·cases hc'
  refine ⟨⟨s,r,?_⟩,by dsimp only;omega,hroom⟩
  rw [heap_setChan _ _ _ _ _ _ _ _ hcl]
  congr 2
  simp only [intRow,List.extract_toArray,List.size_toArray,List.length_map,List.length_drop,List.map_drop]
  rw [List.extract_eq_take_drop,List.drop_drop,List.take_of_length_le (by simp;omega)]
set_option maxRecDepth 100000 in
set_option maxHeartbeats 1000000 in
theorem take_chan {w:World} {b c:Nat} {vw:Value} {m:Sm} (h:StAt w b vw (some c) false m) :
  Calls Tryz.prog 78 #[.pointer (some ⟨b,0,none⟩)] w fun e w'=>Took w b vw (some c) false m e w':=by
 obtain ⟨c0,c1,c2,c3,cf⟩:=h.cells
 obtain ⟨⟨s,r,hc⟩,hcap,hroom⟩:=h.chan c rfl
 clear cf c1 c2
 refine calls_of_wpN Tryz.func78 rfl ?_
 simp only [Tryz.ntmps78,List.size_toArray,List.length_cons,List.length_nil,Nat.reduceAdd,Nat.reduceSub,Array.replicate_succ,Array.replicate_zero,List.push_toArray,List.append_toArray,List.nil_append,List.cons_append]
 refine wpN_seq (wpN_of_wp ?_)
 go_wp2
 refine wpN_seq (wpN_of_wp ?_)
 go_wp2
 refine wpN_seq (wpN_of_wp ?_)
 go_wp2
 by_cases hlt:m.read<m.words.length
 ·have HT:=hide (h.took hlt s (r+1))
  have HF:Hid (Fr (fun x=>x=b∨some c=some x) w (w.setChan c m.room ((intRow (m.words.drop m.read)).toArray.extract 1 (intRow (m.words.drop m.read)).toArray.size) false s (r+1) false)):=(Fr.refl _ w).setChan (Or.inr (Or.inr rfl)) _ _ _ _ _ _
  have HSz:Hid ((w.setChan c m.room ((intRow (m.words.drop m.read)).toArray.extract 1 (intRow (m.words.drop m.read)).toArray.size) false s (r+1) false).heap.size=w.heap.size):=size_setChan _ _ _ _ _ _ _ _
  have HL:=hide hlt
  have e0:(intRow (m.words.drop m.read)).toArray.getD 0 undef=.int .i64 (m.words.getD m.read 0):=by
   simp [intRow,hlt]
  refine wpN_seq (wpN_region_first _ _ (fun b0 k cs hb=>step_lone_select_recv_buf (c:=c) (z:=.int .i64 0) (comm_of rfl rfl (w':=w) (by simp [go_sem,execOp,rcase,Act.eval]) b0 k cs hb) hc (by rw [unread_size];omega)) ?_)
  rw [e0]
  clear h hc e0 hlt
  generalize (w.setChan c m.room ((intRow (m.words.drop m.read)).toArray.extract 1 (intRow (m.words.drop m.read)).toArray.size) false s (r+1) false)=w1 at *
  obtain ⟨x,hx⟩:∃ x,x=m.words.getD m.read 0:=⟨_,rfl⟩
  rw [← hx]
  have HX:=hide hx
  clear hx
  go_wp2
  refine wpN_of_wp ?_
  go_wp2
  go_ret2
  exact Or.inl ⟨by rw [← HX.out];rfl,HL.out,HT.out,HF.out,HSz.out⟩
 ·have HE:Hid (m.read=m.words.length):=by have:=h.le;unfold Hid;omega
  have hc':w.heap[c]? = some (.chan m.room #[] false s r false):=by
   rw [hc,List.drop_of_length_le (by rw [HE.out];exact Nat.le_refl _)];rfl
  refine wpN_seq (wpN_region_first _ _ (fun b0 k cs hb=>step_lone_select_default (c:=c) (z:=.int .i64 0) (comm_of rfl rfl (w':=w) (by simp [go_sem,execOp,rcase,Act.eval]) b0 k cs hb) hc') ?_)
  clear h hc hc' hlt
  go_wp2
  refine wpN_of_wp ?_
  go_wp2
  go_ret2
  exact Or.inr (Or.inl ⟨rfl,rfl,HE.out,0,rfl⟩)
theorem intRow_snoc (l:List Int) (x:Int):intRow (l++[x])=intRow l++[.int .i64 x]:=by simp [intRow]
def Puts (w:World) (b:Nat) (vw:Value) (ch:Option Nat) (m:Sm) (x:Int) (e:Ending) (w':World):Prop:=
 (e=.returned (.bool true)∧(ch≠none→m.words.length-m.read<m.room)∧∃ vw',(∀ g,vw'.ownBlock=some g→vw.ownBlock=some g∨w.heap.size≤g)∧StAt w' b vw' ch false {m with words:=m.words++[x]}∧Fr (fun y=>y=b∨vw.ownBlock=some y∨ch=some y) w w') ∨
 (e=.returned (.bool false)∧ch≠none∧m.room≤m.words.length-m.read∧w'=w)
theorem StAt.put_none {w w1:World} {b g cap:Nat} {vw:Value} {m:Sm} {x:Int} (h:StAt w b vw none false m) (hsm:m.words.length<4398046511104) (o:Obj)
  (hown:w1.ownsRow 0 3 1 (.slice (some ⟨g,0,none⟩) (m.words.length+1) cap) (m.words.length+1) (intRow m.words++[.int .i64 x])) (hg:(w.alloc o).grownBy w1 vw.ownBlock) :
  StAt (w1.setCell ⟨b,1,none⟩ (.slice (some ⟨g,0,none⟩) (m.words.length+1) cap)) b (.slice (some ⟨g,0,none⟩) (m.words.length+1) cap) none false {m with words:=m.words++[x]} ∧
   w1.heap[b]? = some (.cells #[.bool false,vw,.int .i64 0,.chan none,.int .i64 (m.room:Int)] 111 (0,0))∧g≠b:=by
 have hb:=lt_of_blk h.blk
 have hblk:w1.heap[b]? = some (.cells #[.bool false,vw,.int .i64 0,.chan none,.int .i64 (m.room:Int)] 111 (0,0)):=by
  rw [hg.block b (by simp;omega) (fun e=>h.ne_own e.symm rfl),Below.heap_alloc _ _ _ hb]
  exact h.blk
 obtain ⟨cur,hcur⟩:=own_block hown (g:=g) rfl
 have hgb:g≠b:=ne_of_types hcur hblk (by decide)
 refine ⟨⟨?_,?_,?_,?_,fun c hc=>(by cases hc),fun c hc=>(by cases hc)⟩,hblk,hgb⟩
 ·have:=blk_set hblk 1 (.slice (some ⟨g,0,none⟩) (m.words.length+1) cap)
  simpa using this
 ·have e:(m.words++[x]).length=m.words.length+1:=by simp
  dsimp only
  rw [e,intRow_snoc]
  exact own_of_block hown fun g' hg'=>by
   have:g=g':=by simpa [Value.ownBlock] using hg'
   subst this
   exact Below.heap_setCell _ _ _ _ hgb
 ·have:=h.le;simp;omega
 ·simp;omega
set_option maxHeartbeats 1000000 in
theorem put_none {w:World} {b:Nat} {vw:Value} {m:Sm} (x:Int) (h:StAt w b vw none false m) (hsm:m.words.length<4398046511104) :
  Calls Tryz.prog 79 #[.pointer (some ⟨b,0,none⟩),.int .i64 x] w fun e w'=>Puts w b vw none m x e w':=by
 obtain ⟨c0,c1,c2,c3,cf⟩:=h.cells
 obtain ⟨i0,hi,hz0,hz1,hz2⟩:=info_parts Tryz.info3
 obtain ⟨a,cap,hvw,hcap,hw⟩:=own_form h.own
 have heql:=fun (wx:World) (a:Option Nat)=>run_eql_chan_nil (P:=Tryz.prog) wx 109 a Tryz.underlying109
 have HO:=hide h.own
 have H:=hide h
 rw [hvw] at c1 HO H
 have HB:Hid (b<w.heap.size):=lt_of_blk h.blk
 have hbytes:(m.words.length+1)*8≤140737488355328:=by omega
 have h63:m.words.length+1≤maxLen:=by unfold maxLen;omega
 clear cf c0 c2 hw h
 generalize hn:m.words.length=n at *
 have HN:=hide hn
 clear hn
 go_enter Tryz.func79,Tryz.ntmps79
 go_wp2_with (at_builtin;refine wpList_append_lies _ rfl (.tmp 14) (.tmp 16) 22 rfl 0 3 i0 (.int .i64 0) 1 8 Tryz.underlying22 hi hz0 hz1 hz2 rfl (by decide) (.slice a n cap) n (intRow m.words) rfl (HO.out.alloc _) ⟨w.heap.size,0,none⟩ 1 1 [.int .i64 x] rfl rfl ?c1 ?c2 (by decide) h63 hbytes (Nat.zero_le _) (w.heap.size+1) (by simp) ?_)
 case c1=>exact cell_one_new _ _ _
 case c2=>intro u hu;simp at hu;subst hu;rfl
 intro g gcap w1 hown hgrow hor hglt
 have hn:=HN.out
 subst hn
 have R:=H.out.put_none (x:=x) hsm _ hown hgrow
 obtain ⟨R1,R2,R3⟩:=R
 have k1:w1.cell? ⟨b,1,none⟩=some (.slice a m.words.length cap):=row_cell R2 rfl
 have k2:w1.frozen? ⟨b,1,none⟩=false:=row_frozen R2 1
 have HR:=hide R1
 have HF:Hid (Fr (fun y=>y=b∨(Value.slice a m.words.length cap).ownBlock=some y∨(none:Option Nat)=some y) w (w1.setCell ⟨b,1,none⟩ (.slice (some ⟨g,0,none⟩) (m.words.length+1) gcap))):=
  Fr.setCell (S:=fun y=>y=b∨(Value.slice a m.words.length cap).ownBlock=some y∨(none:Option Nat)=some y) (((Fr.refl _ w).alloc _).grown hgrow (fun k hk=>Or.inr (Or.inr (Or.inl hk)))) (p:=⟨b,1,none⟩) (Or.inr (Or.inl rfl)) _
 have HOR:Hid ((Value.slice a m.words.length cap).ownBlock=some g∨w.heap.size≤g):=by
  rcases hor with h1 | h1
  ·exact Or.inl h1
  ·exact Or.inr (by omega)
 have HV:=hide hvw
 clear R1 R2 R3 hown hgrow hor hglt H HO c1 c3 hvw
 generalize m.words.length+1=n1 at *
 go_wp2
 go_ret
 refine Or.inl ⟨rfl,fun hh=>absurd rfl hh,.slice (some ⟨g,0,none⟩) n1 gcap,fun g' hg'=>?_,HR.out,?_⟩
 ·have e:g=g':=by simpa [Value.ownBlock] using hg'
  subst e
  rw [HV.out]
  exact HOR.out
 ·rw [HV.out];exact HF.out
theorem StAt.put_some {w w1:World} {b c g cap:Nat} {vw:Value} {m:Sm} {x:Int} (h:StAt w b vw (some c) false m) (hsm:m.words.length<4398046511104) (hroom:m.words.length-m.read<m.room) (s r:Nat) (o:Obj)
  (hown:w1.ownsRow 0 3 1 (.slice (some ⟨g,0,none⟩) (m.words.length+1) cap) (m.words.length+1) (intRow m.words++[.int .i64 x]))
  (hg:((w.setChan c m.room ((intRow (m.words.drop m.read)).toArray.push (.int .i64 x)) false s r false).alloc o).grownBy w1 vw.ownBlock) :
  StAt (w1.setCell ⟨b,1,none⟩ (.slice (some ⟨g,0,none⟩) (m.words.length+1) cap)) b (.slice (some ⟨g,0,none⟩) (m.words.length+1) cap) (some c) false {m with words:=m.words++[x]} ∧
   w1.heap[b]? = some (.cells #[.bool false,vw,.int .i64 0,.chan (some c),.int .i64 0] 111 (0,0))∧g≠b:=by
 have hb:=lt_of_blk h.blk
 obtain ⟨⟨s0,r0,hc⟩,hcap,hrm⟩:=h.chan c rfl
 have hcl:=lt_of_blk hc
 have hbc:=h.ne_chan rfl
 have hblk:w1.heap[b]? = some (.cells #[.bool false,vw,.int .i64 0,.chan (some c),.int .i64 0] 111 (0,0)):=by
  rw [hg.block b (by simp [size_setChan];omega) (fun e=>h.ne_own e.symm rfl),Below.heap_alloc _ _ _ (by rw [size_setChan];exact hb),heap_setChan_ne _ _ _ _ _ _ _ _ _ hbc.symm]
  exact h.blk
 have hch:w1.heap[c]? = some (.chan m.room ((intRow (m.words.drop m.read)).toArray.push (.int .i64 x)) false s r false):=by
  rw [hg.block c (by simp [size_setChan];omega) (fun e=>h.own_ne_chan rfl e.symm rfl),Below.heap_alloc _ _ _ (by rw [size_setChan];exact hcl),heap_setChan _ _ _ _ _ _ _ _ hcl]
 obtain ⟨cur,hcur⟩:=own_block hown (g:=g) rfl
 have hgb:g≠b:=ne_of_types hcur hblk (by decide)
 have hle:=h.le
 refine ⟨⟨?_,?_,?_,?_,fun c' hc'=>?_,fun c hc=>rfl⟩,hblk,hgb⟩
 ·have:=blk_set hblk 1 (.slice (some ⟨g,0,none⟩) (m.words.length+1) cap)
  simpa using this
 ·have e:(m.words++[x]).length=m.words.length+1:=by simp
  dsimp only
  rw [e,intRow_snoc]
  exact own_of_block hown fun g' hg'=>by
   have:g=g':=by simpa [Value.ownBlock] using hg'
   subst this
   exact Below.heap_setCell _ _ _ _ hgb
 ·simp;omega
 ·simp;omega
 ·cases hc'
  refine ⟨⟨s,r,?_⟩,by dsimp only;simp;omega,hrm⟩
  rw [Below.heap_setCell _ _ _ _ hbc.symm,hch]
  congr 2
  dsimp only
  rw [List.drop_append_of_le_length hle,intRow_snoc]
  simp
set_option maxRecDepth 100000 in
set_option maxHeartbeats 1000000 in
theorem put_some {w:World} {b c:Nat} {vw:Value} {m:Sm} (x:Int) (h:StAt w b vw (some c) false m) (hsm:m.words.length<4398046511104) :
  Calls Tryz.prog 79 #[.pointer (some ⟨b,0,none⟩),.int .i64 x] w fun e w'=>Puts w b vw (some c) m x e w':=by
 obtain ⟨c0,c1,c2,c3,cf⟩:=h.cells
 obtain ⟨i0,hi,hz0,hz1,hz2⟩:=info_parts Tryz.info3
 obtain ⟨a,cap,hvw,hcap,hw⟩:=own_form h.own
 obtain ⟨⟨s,r,hc⟩,hcr,hroom⟩:=h.chan c rfl
 have heql:=fun (wx:World) (a:Option Nat)=>run_eql_chan_nil (P:=Tryz.prog) wx 109 a Tryz.underlying109
 clear cf c0 c2 hw
 refine calls_of_wpN Tryz.func79 rfl ?_
 simp only [Tryz.ntmps79,List.size_toArray,List.length_cons,List.length_nil,Nat.reduceAdd,Nat.reduceSub,Array.replicate_succ,Array.replicate_zero,List.push_toArray,List.append_toArray,List.nil_append,List.cons_append]
 refine wpN_seq (wpN_of_wp ?_)
 go_wp2
 refine wpN_seq (wpN_of_wp ?_)
 go_wp2
 refine wpN_seq (wpN_of_wp ?_)
 go_wp2
 by_cases hlt:m.words.length-m.read<m.room
 ·refine wpN_seq (wpN_region_first _ _ (fun b0 k cs hb=>step_lone_select_send_room (c:=c) (v:=.int .i64 x) (z':=.int .i64 0) (comm_of rfl rfl (w':=w) (by simp [go_sem,execOp,scase,Act.eval]) b0 k cs hb) hc (by rw [unread_size];exact hlt)) ?_)
  have hb:=lt_of_blk h.blk
  have hbc:=h.ne_chan rfl
  have hcl:=lt_of_blk hc
  have HP:Hid (∀ (g gcap:Nat) (w1:World) (o:Obj),w1.ownsRow 0 3 1 (.slice (some ⟨g,0,none⟩) (m.words.length+1) gcap) (m.words.length+1) (intRow m.words++[.int .i64 x])→((w.setChan c m.room ((intRow (m.words.drop m.read)).toArray.push (.int .i64 x)) false (s+1) r false).alloc o).grownBy w1 vw.ownBlock→_):=fun g gcap w1 o h1 h2=>h.put_some hsm hlt (s+1) r o h1 h2
  have hf0:Fr (fun y=>y=b∨vw.ownBlock=some y∨(some c:Option Nat)=some y) w (w.setChan c m.room ((intRow (m.words.drop m.read)).toArray.push (.int .i64 x)) false (s+1) r false):=(Fr.refl _ w).setChan (Or.inr (Or.inr (Or.inr rfl))) _ _ _ _ _ _
  have hblk1:(w.setChan c m.room ((intRow (m.words.drop m.read)).toArray.push (.int .i64 x)) false (s+1) r false).heap[b]? = some (.cells #[.bool false,vw,.int .i64 0,.chan (some c),.int .i64 0] 111 (0,0)):=by
   rw [heap_setChan_ne _ _ _ _ _ _ _ _ _ hbc.symm];exact h.blk
  have hown1:(w.setChan c m.room ((intRow (m.words.drop m.read)).toArray.push (.int .i64 x)) false (s+1) r false).ownsRow 0 3 1 vw m.words.length (intRow m.words):=
   own_of_block h.own fun g hg=>heap_setChan_ne _ _ _ _ _ _ _ _ _ (h.own_ne_chan rfl hg).symm
  have hsz:(w.setChan c m.room ((intRow (m.words.drop m.read)).toArray.push (.int .i64 x)) false (s+1) r false).heap.size=w.heap.size:=size_setChan _ _ _ _ _ _ _ _
  generalize (w.setChan c m.room ((intRow (m.words.drop m.read)).toArray.push (.int .i64 x)) false (s+1) r false)=w0 at *
  have k1:w0.cell? ⟨b,1,none⟩=some vw:=row_cell hblk1 rfl
  have HO:=hide hown1
  have HF0:=hide hf0
  have HSZ:=hide hsz
  have HLT:=hide hlt
  have HV:=hide hvw
  have HB:=hide hb
  have HB1:=hide hblk1
  rw [hvw] at k1 HO
  have hbytes:(m.words.length+1)*8≤140737488355328:=by omega
  have h63:m.words.length+1≤maxLen:=by unfold maxLen;omega
  clear h hc hf0 hsz hlt hblk1 hown1 hvw c1 c3 hcl hbc
  generalize hn:m.words.length=n at *
  have HN:=hide hn
  clear hn
  go_wp2
  refine wpN_of_wp ?_
  go_wp2_with (at_builtin;refine wpList_append_lies _ rfl (.tmp 32) (.tmp 34) 22 rfl 0 3 i0 (.int .i64 0) 1 8 Tryz.underlying22 hi hz0 hz1 hz2 rfl (by decide) (.slice a n cap) n (intRow m.words) rfl (HO.out.alloc _) ⟨w0.heap.size,0,none⟩ 1 1 [.int .i64 x] rfl rfl ?c1 ?c2 (by decide) h63 hbytes (Nat.zero_le _) (w0.heap.size+1) (by simp) ?_)
  case c1=>exact cell_one_new _ _ _
  case c2=>intro u hu;simp at hu;subst hu;rfl
  intro g gcap w1 hown hgrow hor hglt
  rw [← HV.out] at hgrow hor
  obtain ⟨R1,R2,R3⟩:=HP.out g gcap w1 _ hown hgrow
  have k1':w1.cell? ⟨b,1,none⟩=some (.slice a n cap):=by rw [row_cell R2 rfl,HV.out]
  have k2:w1.frozen? ⟨b,1,none⟩=false:=row_frozen R2 1
  have HR:=hide R1
  have HF:Hid (Fr (fun y=>y=b∨vw.ownBlock=some y∨(some c:Option Nat)=some y) w (w1.setCell ⟨b,1,none⟩ (.slice (some ⟨g,0,none⟩) (n+1) gcap))):=
   Fr.setCell (S:=fun y=>y=b∨vw.ownBlock=some y∨(some c:Option Nat)=some y) ((HF0.out.alloc _).grown hgrow (fun k hk=>Or.inr (Or.inr (Or.inl hk)))) (p:=⟨b,1,none⟩) (Or.inr (Or.inl rfl)) _
  have HOR:Hid (vw.ownBlock=some g∨w.heap.size≤g):=by
   rcases hor with h1 | h1
   ·exact Or.inl h1
   ·exact Or.inr (by have:=HSZ.out;omega)
  clear R1 R2 R3 hown hgrow hor hglt HO k1
  generalize n+1=n1 at *
  go_wp2
  go_ret
  refine Or.inl ⟨rfl,fun _=>?_,.slice (some ⟨g,0,none⟩) n1 gcap,fun g' hg'=>?_,HR.out,HF.out⟩
  ·rw [HN.out];exact HLT.out
  ·have e:g=g':=by simpa [Value.ownBlock] using hg'
   subst e
   exact HOR.out
 ·refine wpN_seq (wpN_region_first _ _ (fun b0 k cs hb=>step_lone_select_send_full (c:=c) (v:=.int .i64 x) (z':=.int .i64 0) (comm_of rfl rfl (w':=w) (by simp [go_sem,execOp,scase,Act.eval]) b0 k cs hb) hc (by rw [unread_size];omega)) ?_)
  have HLT:Hid (m.room≤m.words.length-m.read):=by unfold Hid;omega
  clear h hc hlt
  go_wp2
  refine wpN_of_wp ?_
  go_wp2
  go_ret
  exact Or.inr ⟨rfl,by simp,HLT.out,rfl⟩
theorem Tryz.infoInt:∃ i,Tryz.prog.info? 3=some i∧i.bytes=8:=by
 obtain ⟨i0,hi,hz0,hz1,hz2⟩:=info_parts Tryz.info3
 exact ⟨i0,hi,hz2⟩
set_option maxRecDepth 100000 in
set_option maxHeartbeats 1000000 in
theorem sgrow_calls {w:World} {b c:Nat} {vw:Value} {m:Sm} (h:StAt w b vw (some c) false m) (hr:m.room<1000) :
  Calls Tryz.prog 70 #[.pointer (some ⟨b,0,none⟩)] w fun e w'=>e=.returned (.tuple #[]) ∧
   StAt w' b vw (some w.heap.size) false {m with room:=m.room+1}∧Fr (fun y=>y=b∨y=c) w w':=by
 obtain ⟨c0,c1,c2,c3,cf⟩:=h.cells
 obtain ⟨⟨s,r,hc⟩,hcr,hroom⟩:=h.chan c rfl
 obtain ⟨i0,hi,hi8⟩:=Tryz.infoInt
 have hcp:=fun ty=>run_cap_chan (P:=Tryz.prog) 109 ty Tryz.underlying109 hc
 have hmk:=fun (wx:World)=>run_makeChan (P:=Tryz.prog) (w:=wx) (t:=109) Tryz.underlying109 hi .i64 (m.room+1) (by omega) (by rw [hi8];omega)
 have ec:((m.room+1:Nat):Int)=(m.room:Int)+1:=by omega
 simp only [ec] at hmk
 clear ec
 have hbc:=h.ne_chan rfl
 have hcl:=lt_of_blk hc
 have hb:=lt_of_blk h.blk
 clear c0 c1 c2
 refine calls_of_wpN Tryz.func70 rfl ?_
 simp only [Tryz.ntmps70,List.size_toArray,List.length_cons,List.length_nil,Nat.reduceAdd,Nat.reduceSub,Array.replicate_succ,Array.replicate_zero,List.push_toArray,List.append_toArray,List.nil_append,List.cons_append]
 refine wpN_seq (wpN_of_wp ?_)
 go_wp2
 have hcl2:∀ ats ty,(Builtin.close_ ats ty #[.chan (some c)]).run Tryz.prog (w.alloc (.chan (m.room+1) #[] false 0 0 false))=.ok (.tuple #[]) ((w.alloc (.chan (m.room+1) #[] false 0 0 false)).setChan c m.room (intRow (m.words.drop m.read)).toArray true s r false):=
  fun ats ty=>run_close_open (P:=Tryz.prog) (w:=w.alloc (.chan (m.room+1) #[] false 0 0 false)) ats ty (by rw [Below.heap_alloc _ _ _ hcl];exact hc)
 refine wpN_seq (wpN_of_wp ?_)
 go_wp2
 clear hcl2 hcp hmk
 have W1:((w.alloc (.chan (m.room+1) #[] false 0 0 false)).setChan c m.room (intRow (m.words.drop m.read)).toArray true s r false).heap[c]? = some (.chan m.room (intRow (m.words.drop m.read)).toArray true s r false):=
  heap_setChan _ _ _ _ _ _ _ _ (by simp;omega)
 have W2:((w.alloc (.chan (m.room+1) #[] false 0 0 false)).setChan c m.room (intRow (m.words.drop m.read)).toArray true s r false).heap[w.heap.size]? = some (.chan (m.room+1) #[] false 0 0 false):=by
  rw [heap_setChan_ne _ _ _ _ _ _ _ _ _ (by omega)];exact heap_alloc_new _ _
 have W3:Fr (fun y=>y=c) w ((w.alloc (.chan (m.room+1) #[] false 0 0 false)).setChan c m.room (intRow (m.words.drop m.read)).toArray true s r false):=
  Fr.setChan (S:=fun y=>y=c) ((Fr.refl _ w).alloc _) (c:=c) (Or.inr rfl) _ _ _ _ _ _
 have W4:((w.alloc (.chan (m.room+1) #[] false 0 0 false)).setChan c m.room (intRow (m.words.drop m.read)).toArray true s r false).heap.size=w.heap.size+1:=by rw [size_setChan];simp
 generalize ((w.alloc (.chan (m.room+1) #[] false 0 0 false)).setChan c m.room (intRow (m.words.drop m.read)).toArray true s r false)=w2 at *
 obtain ⟨un,hun⟩:∃ un,un=m.words.drop m.read:=⟨_,rfl⟩
 rw [← hun] at W1
 have hunl:un.length≤m.room:=by rw [hun];simpa using hcr
 have HUN:=hide hun
 clear hun
 have b3:w2.cell? ⟨b,3,none⟩=some (.chan (some c)):=by
  have:=W3.block b hb hbc
  rw [← c3];exact World.cell?_of_block (w:=w) this
 have HW1:=hide W1
 have HW2:=hide W2
 have HW3:=hide W3
 have HW4:=hide W4
 clear W1 W2 W3 W4
 refine wpN_seq (wpN_seq (wpN_of_wp ?_))
 go_wp2
 refine wpN_block (wpN_loop (fun n a wr=>∃ (j:Nat) (u3 u19 u20 u21 u22 u23:Value),j≤un.length∧n=un.length-j∧a=⟨#[.pointer (some ⟨b,0,none⟩),undef,.chan (some w.heap.size),u3,.pointer (some ⟨b,0,none⟩),.pointer (some ⟨b,0,none⟩),.pointer (some ⟨b,3,none⟩),.chan (some c),.int .i64 m.room,.int .i64 (m.room+1),.chan (some w.heap.size),.pointer (some ⟨b,0,none⟩),.pointer (some ⟨b,0,none⟩),.pointer (some ⟨b,3,none⟩),.chan (some c),.pointer (some ⟨b,0,none⟩),.pointer (some ⟨b,0,none⟩),.pointer (some ⟨b,3,none⟩),.chan (some c),u19,u20,u21,u22,u23,undef,undef,undef,undef],[]⟩ ∧
   wr.heap[c]? = some (.chan m.room (intRow (un.drop j)).toArray true s (r+j) false)∧wr.heap[w.heap.size]? = some (.chan (m.room+1) (intRow (un.take j)).toArray false j 0 false)∧Fr (fun y=>y=c) w wr∧wr.heap.size=w.heap.size+1) un.length ?_ ?_)
 ·exact ⟨0,undef,undef,undef,undef,undef,undef,Nat.zero_le _,rfl,rfl,HW1.out,HW2.out,HW3.out,HW4.out⟩
 ·rintro n a wr ⟨j,u3,u19,u20,u21,u22,u23,hj,rfl,rfl,G1,G2,G3,G4⟩
  by_cases hlt:j<un.length
  ·have e0:(intRow (un.drop j)).toArray.getD 0 undef=.int .i64 (un.getD j 0):=by simp [intRow,hlt]
   refine wpN_seq (wpN_region_first _ _ (fun b0 k cs hb=>step_lone_recv_buf true (c:=c) (z:=.int .i64 0) (comm_of rfl rfl (w':=wr) (by simp [go_sem,execOp,rcase,Act.eval]) b0 k cs hb) G1 (by simp [intRow];omega)) ?_)
   rw [e0]
   obtain ⟨x,hx⟩:∃ x,x=un.getD j 0:=⟨_,rfl⟩
   rw [← hx]
   have K1:(wr.setChan c m.room ((intRow (un.drop j)).toArray.extract 1 (intRow (un.drop j)).toArray.size) true s (r+j+1) false).heap[c]? = some (.chan m.room (intRow (un.drop (j+1))).toArray true s (r+(j+1)) false):=by
    rw [heap_setChan _ _ _ _ _ _ _ _ (by omega)]
    congr 2
    simp only [intRow,List.extract_toArray,List.size_toArray,List.length_map,List.length_drop,List.map_drop]
    rw [List.extract_eq_take_drop,List.drop_drop,List.take_of_length_le (by simp;omega)]
   have K2:(wr.setChan c m.room ((intRow (un.drop j)).toArray.extract 1 (intRow (un.drop j)).toArray.size) true s (r+j+1) false).heap[w.heap.size]? = some (.chan (m.room+1) (intRow (un.take j)).toArray false j 0 false):=by
    rw [heap_setChan_ne _ _ _ _ _ _ _ _ _ (by omega)];exact G2
   have K3:Fr (fun y=>y=c) w (wr.setChan c m.room ((intRow (un.drop j)).toArray.extract 1 (intRow (un.drop j)).toArray.size) true s (r+j+1) false):=Fr.setChan (S:=fun y=>y=c) G3 (c:=c) (Or.inr rfl) _ _ _ _ _ _
   have K4:(wr.setChan c m.room ((intRow (un.drop j)).toArray.extract 1 (intRow (un.drop j)).toArray.size) true s (r+j+1) false).heap.size=w.heap.size+1:=by rw [size_setChan];exact G4
   generalize (wr.setChan c m.room ((intRow (un.drop j)).toArray.extract 1 (intRow (un.drop j)).toArray.size) true s (r+j+1) false)=w3 at *
   have hgot:got true (.int .i64 x) true=.tuple #[.int .i64 x,.bool true]:=rfl
   rw [hgot]
   have HX:=hide hx
   clear hx e0 hgot G1 G2 G3 G4
   have HK1:=hide K1
   have HK2:=hide K2
   have HK3:=hide K3
   have HK4:=hide K4
   clear K1 K2 K3 K4
   go_wp2
   refine wpN_seq (wpN_of_wp ?_)
   go_wp2
   refine wpN_block (wpN_seq (wpN_of_wp ?_))
   go_wp2
   refine wpN_region (rest_value _ rfl rfl (.chan (some w.heap.size)) w3 (by simp [go_sem,execOp,Act.eval]) (rest_value _ rfl rfl (.int .i64 x) w3 (by simp [go_sem,execOp,Act.eval,Act.put]) (rest_step _ rfl undef (w3.setChan w.heap.size (m.room+1) ((intRow (un.take j)).toArray.push (.int .i64 x)) false (j+1) 0 false) (fun b0 k cs hb=>step_lone_send_room (c:=w.heap.size) (v:=.int .i64 x) (z':=.tuple #[]) (comm_of rfl rfl (w':=w3) (by simp [go_sem,execOp,scase,Act.eval,Act.put]) b0 k cs hb) HK2.out (by simp [intRow];omega)) (rest_nil ?_))))
   have J1:(w3.setChan w.heap.size (m.room+1) ((intRow (un.take j)).toArray.push (.int .i64 x)) false (j+1) 0 false).heap[c]? = some (.chan m.room (intRow (un.drop (j+1))).toArray true s (r+(j+1)) false):=by
    rw [heap_setChan_ne _ _ _ _ _ _ _ _ _ (by omega)];exact HK1.out
   have J2:(w3.setChan w.heap.size (m.room+1) ((intRow (un.take j)).toArray.push (.int .i64 x)) false (j+1) 0 false).heap[w.heap.size]? = some (.chan (m.room+1) (intRow (un.take (j+1))).toArray false (j+1) 0 false):=by
    rw [heap_setChan _ _ _ _ _ _ _ _ (by have:=HK4.out;omega)]
    congr 2
    rw [List.take_succ_eq_append_getElem hlt,intRow_snoc,HX.out,getD_eq _ _ _ hlt]
    simp
   have J3:Fr (fun y=>y=c) w (w3.setChan w.heap.size (m.room+1) ((intRow (un.take j)).toArray.push (.int .i64 x)) false (j+1) 0 false):=Fr.setChan (S:=fun y=>y=c) HK3.out (c:=w.heap.size) (Or.inl (Nat.le_refl _)) _ _ _ _ _ _
   have J4:(w3.setChan w.heap.size (m.room+1) ((intRow (un.take j)).toArray.push (.int .i64 x)) false (j+1) 0 false).heap.size=w.heap.size+1:=by rw [size_setChan];exact HK4.out
   exact ⟨un.length-(j+1),by omega,j+1,_,_,_,_,_,_,by omega,rfl,rfl,J1,J2,J3,J4⟩
  ·have hjj:j=un.length:=by omega
   subst hjj
   have G1':wr.heap[c]? = some (.chan m.room #[] true s (r+un.length) false):=by rw [G1,List.drop_of_length_le (Nat.le_refl _)];rfl
   refine wpN_seq (wpN_region_first _ _ (fun b0 k cs hb=>step_lone_recv_shut true (c:=c) (z:=.int .i64 0) (comm_of rfl rfl (w':=wr) (by simp [go_sem,execOp,rcase,Act.eval]) b0 k cs hb) G1') ?_)
   have hgot:got true (.int .i64 0) false=.tuple #[.int .i64 0,.bool false]:=rfl
   rw [hgot]
   have hblk:wr.heap[b]? = some (.cells #[.bool false,vw,.int .i64 0,.chan (some c),.int .i64 0] 111 (0,0)):=(G3.block b hb hbc).trans h.blk
   have k3:wr.cell? ⟨b,3,none⟩=some (.chan (some c)):=row_cell hblk rfl
   have kf:wr.frozen? ⟨b,3,none⟩=false:=row_frozen hblk 3
   have HT:Hid (StAt (wr.setCell ⟨b,3,none⟩ (.chan (some w.heap.size))) b vw (some w.heap.size) false {m with room:=m.room+1}):=by
    refine ⟨?_,?_,h.le,h.small,fun c' hc'=>?_,fun _ _=>rfl⟩
    ·have:=blk_set hblk 3 (.chan (some w.heap.size))
     simpa using this
    ·refine own_of_block h.own fun g hg=>?_
     obtain ⟨cur,hcur⟩:=own_block h.own hg
     rw [Below.heap_setCell _ _ _ _ (h.ne_own hg)]
     exact G3.block g (lt_of_blk hcur) (h.own_ne_chan rfl hg)
    ·cases hc'
     refine ⟨⟨un.length,0,?_⟩,by dsimp only;omega,by dsimp only;omega⟩
     rw [Below.heap_setCell _ _ _ _ (by dsimp only;omega),G2,List.take_of_length_le (Nat.le_refl _),HUN.out]
   have HF:Hid (Fr (fun y=>y=b∨y=c) w (wr.setCell ⟨b,3,none⟩ (.chan (some w.heap.size)))):=
    Fr.setCell (S:=fun y=>y=b∨y=c) (G3.mono fun k _ hk=>Or.inr hk) (p:=⟨b,3,none⟩) (Or.inr (Or.inl rfl)) _
   clear hgot G1 G1' G2 G3 G4 hblk h
   go_wp2
   refine wpN_seq (wpN_of_wp ?_)
   go_wp2
   refine wpN_of_wp ?_
   go_wp2
   go_end0
   exact ⟨rfl,HT.out,HF.out⟩
section
variable {P:Program} {w:World}
theorem run_append_fresh (t ty e:TypeId) (i:TypeInfo) (z:Value) (size bytes:Nat) (ht:P.underlying t=some (.slice e)) (hi:P.info? e=some i) (hz:i.zero=some z)
  (hsize:i.size=size) (hby:i.bytes=bytes) (hzs:z.cells.size=size) (hsz:0<size)
  (a:Option Addr) (m c:Nat) (news:List Value) (hl:news.length=m*size) (hnews:0<m→∃ ad:Addr,a=some ad∧∀ j u,news[j]? = some u→w.cell? (ad.add j)=some u) (h1:∀ u∈news,u.oneCell'=true)
  (h63:m≤maxLen) (hbytes:m*bytes≤140737488355328) :
  ∃ a' c' w',(Builtin.append_ #[t,t] ty #[.slice none 0 0,.slice a m c]).run P w=.ok (.slice a' m c') w' ∧
   w'.ownsRow w.heap.size e size (.slice a' m c') m news∧Below w.heap.size w w':=by
 rcases Nat.eq_zero_or_pos m with h0 | h0
 ·subst h0
  have hn:news=[]:=List.eq_nil_of_length_eq_zero (by simpa using hl)
  subst hn
  refine ⟨none,0,w,?_,⟨by simp,Or.inl ⟨rfl,rfl⟩⟩,Below.refl _ _⟩
  refine run_append_nothing w t t ty e i ht hi none 0 0 (Nat.le_refl _) _ ?_
  cases a with
  | none=>exact Src.ofNil w ht c
  | some ad=>exact Src.ofSlice w ht ad 0 c [] (by simp) (by simp) (by simp)
 ·obtain ⟨ad,rfl,hc⟩:=hnews h0
  obtain ⟨g,cap,w',hr,ho,hg,hgH,hlt⟩:=run_append_lies (P:=P) w t ty w.heap.size e i z size bytes ht hi hz hsize hby hzs hsz (.slice none 0 0) 0 [] ⟨by simp,Or.inl ⟨rfl,rfl⟩⟩ ad m c news hl hc h1 h0 (by omega) (by simpa using hbytes) (Nat.le_refl _) w.heap.size rfl
  rw [Nat.zero_add] at hr ho
  refine ⟨_,_,w',hr,by simpa using ho,?_⟩
  exact ⟨hg.os,hg.tape,hg.output,hg.size,fun k hk=>hg.block k hk (by simp [Value.ownBlock])⟩
theorem wpList_append_fresh {ops:Array Oper} {rest:List Oper} {o:Oper} {b:Act} {Q:Exit→Act→World→Prop} (hgd:o.guard=none) (s x:Operand) (t:TypeId)
  (ho:o.op=.call {callee:=.builtin .append,args:=#[s,x],argTypes:=#[t,t]})
  (e:TypeId) (i:TypeInfo) (z:Value) (size bytes:Nat) (ht:P.underlying t=some (.slice e)) (hi:P.info? e=some i) (hz:i.zero=some z)
  (hsize:i.size=size) (hby:i.bytes=bytes) (hzs:z.cells.size=size) (hsz:0<size)
  (a:Option Addr) (m c:Nat) (news:List Value) (hs:b.eval s=.slice none 0 0) (hx:b.eval x=.slice a m c) (hl:news.length=m*size) (hnews:0<m→∃ ad:Addr,a=some ad∧∀ j u,news[j]? = some u→w.cell? (ad.add j)=some u) (h1:∀ u∈news,u.oneCell'=true)
  (h63:m≤maxLen) (hbytes:m*bytes≤140737488355328)
  (h:∀ a' c' w',w'.ownsRow w.heap.size e size (.slice a' m c') m news→Below w.heap.size w w'→wpList P ops Q rest (b.put o.dst (.slice a' m c')) w'):wpList P ops Q (o::rest) b w:=by
 refine wpList_plain hgd fun _ hK=>?_
 obtain ⟨a',c',w',hr,h2,h3⟩:=run_append_fresh (P:=P) (w:=w) t o.type e i z size bytes ht hi hz hsize hby hzs hsz a m c news hl hnews h1 h63 hbytes
 unfold Oper.wp execOp
 simp only [ho,resolve,invoke,builtin,Sem.run_bind,Sem.run_pure,Result.andThen_ok,List.map_toArray,List.map_cons,List.map_nil,hs,hx,hr]
 exact hK _ _ (h a' c' w' h2 h3)
end
set_option maxHeartbeats 1000000 in
theorem reckoned_calls (op b c:Int) (w:World) (ho:op=4∨op=5∨op=6∨op=7) :
  Calls Tryz.prog 80 #[.int .i64 op,.int .i64 b,.int .i64 c] w fun e w'=>e=.returned (.int .i64 (alu op b c))∧w'=w:=by
 rcases ho with rfl | rfl | rfl | rfl
 ·go_enter Tryz.func80,Tryz.ntmps80
  go_wp2
  go_ret
  exact ⟨ret_int (by simp [alu]),rfl⟩
 ·go_enter Tryz.func80,Tryz.ntmps80
  go_wp2
  go_ret
  exact ⟨ret_int (by simp [alu]),rfl⟩
 ·go_enter Tryz.func80,Tryz.ntmps80
  go_wp2
  go_ret
  exact ⟨ret_int (by simp [alu]),rfl⟩
 ·by_cases h:b<c
  ·go_enter Tryz.func80,Tryz.ntmps80
   go_wp2
   go_ret
   exact ⟨ret_int (by simp [alu,h]),rfl⟩
  ·have h':decide (b<c)=false:=by simpa using h
   go_enter Tryz.func80,Tryz.ntmps80
   go_wp2
   go_ret
   exact ⟨ret_int (by
     have:¬ b<c:=by omega
     simp [alu,this]),rfl⟩
def codeRow (l:List Ins):List Value:=l.flatMap fun i=>[.int .i64 i.op,.int .i64 i.a,.int .i64 i.b,.int .i64 i.c]
structure WkAt (w:World) (b:Nat) (vc:Value) (code:List Ins) (x:Wk):Prop where
 blk:w.heap[b]? = some (.cells #[vc,.int .i64 x.place,.int .i64 (x.r 0),.int .i64 (x.r 1),.int .i64 (x.r 2),.int .i64 (x.r 3),.int .i64 x.steps] 139 (0,0))
 own:w.ownsRow 0 44 4 vc code.length (codeRow code)
 le:x.place≤code.length
 small:code.length≤20
theorem codeRow_length (l:List Ins):(codeRow l).length=l.length*4:=by
 induction l with
 | nil=>rfl
 | cons i l ih=>simp only [codeRow,List.flatMap_cons,List.length_append,List.length_cons,List.length_nil] at ih ⊢;omega
theorem codeRow_get:∀ (l:List Ins) (k:Nat) (hk:k<l.length) (j:Nat),j<4→(codeRow l)[k*4+j]? = some (l[k].cell j)
 | i::l,0,_,j,hj=>by
  rcases (show j=0∨j=1∨j=2∨j=3 by omega) with rfl | rfl | rfl | rfl<;>rfl
 | i::l,k+1,hk,j,hj=>by
  have ih:=codeRow_get l k (by simpa using hk) j hj
  have e:codeRow (i::l)=[.int .i64 i.op,.int .i64 i.a,.int .i64 i.b,.int .i64 i.c]++codeRow l:=rfl
  rw [e,List.getElem?_append_right (by simp;omega)]
  simp only [List.length_cons,List.length_nil,List.getElem_cons_succ]
  rw [show (k+1)*4+j-(0+1+1+1+1)=k*4+j by omega]
  exact ih
theorem code_form {w:World} {vc:Value} {l:List Ins} (h:w.ownsRow 0 44 4 vc l.length (codeRow l)):∃ a cap,vc=.slice a l.length cap∧l.length≤cap∧(∀ i (hi:i<l.length),∃ g,a=some ⟨g,0,none⟩ ∧
  w.cell? ⟨g,i*4,none⟩=some (.int .i64 l[i].op)∧w.cell? ⟨g,i*4+1,none⟩=some (.int .i64 l[i].a)∧w.cell? ⟨g,i*4+2,none⟩=some (.int .i64 l[i].b)∧w.cell? ⟨g,i*4+3,none⟩=some (.int .i64 l[i].c)):=by
 obtain ⟨h1,h2⟩:=h
 rcases h2 with ⟨h3,h4⟩ | ⟨g,cap,cur,hv,hg,hh,hn,hm,hs,ht⟩
 ·exact ⟨none,0,by rw [h3,h4],by omega,fun i hi=>by omega⟩
 ·refine ⟨some ⟨g,0,none⟩,cap,hv,hn,fun i hi=>⟨g,rfl,?_⟩⟩
  have cell:∀ j,j<4→w.cell? ⟨g,i*4+j,none⟩=some (l[i].cell j):=by
   intro j hj
   have e:=codeRow_get l i hi j hj
   rw [← ht,List.getElem?_take_of_lt (by omega)] at e
   simp [World.cell?,hh]
   simpa using e
  exact ⟨cell 0 (by decide),cell 1 (by decide),cell 2 (by decide),cell 3 (by decide)⟩
theorem WkAt.cells {w:World} {b:Nat} {vc:Value} {code:List Ins} {x:Wk} (h:WkAt w b vc code x) :
  w.cell? ⟨b,0,none⟩=some vc∧w.cell? ⟨b,1,none⟩=some (.int .i64 x.place)∧w.cell? ⟨b,2,none⟩=some (.int .i64 (x.r 0))∧w.cell? ⟨b,3,none⟩=some (.int .i64 (x.r 1))∧w.cell? ⟨b,4,none⟩=some (.int .i64 (x.r 2))∧w.cell? ⟨b,5,none⟩=some (.int .i64 (x.r 3))∧w.cell? ⟨b,6,none⟩=some (.int .i64 x.steps) ∧
   (∀ i,w.frozen? ⟨b,i,none⟩=false):=
 ⟨row_cell h.blk rfl,row_cell h.blk rfl,row_cell h.blk rfl,row_cell h.blk rfl,row_cell h.blk rfl,row_cell h.blk rfl,row_cell h.blk rfl,fun i=>row_frozen h.blk i⟩
theorem WkAt.stays {w w':World} {b:Nat} {vc:Value} {code:List Ins} {x:Wk} (h:WkAt w b vc code x) (hk:∀ y,y=b∨vc.ownBlock=some y→w'.heap[y]? = w.heap[y]?):WkAt w' b vc code x:=
 ⟨by rw [hk b (Or.inl rfl)];exact h.blk,own_of_block h.own fun g hg=>hk g (Or.inr hg),h.le,h.small⟩
theorem WkAt.ne_own {w:World} {b:Nat} {vc:Value} {code:List Ins} {x:Wk} (h:WkAt w b vc code x) {g:Nat} (hg:vc.ownBlock=some g):g≠b:=by
 obtain ⟨cur,hc⟩:=own_block h.own hg
 exact ne_of_types hc h.blk (by decide)
structure Along (w:World) (v:Value) (st:Nat→Nat) (n:Nat):Prop where
 form:∃ g cap,v=.slice (some ⟨g,0,none⟩) n cap∧∃ cs:List Value,w.heap[g]? = some (.cells cs.toArray 70 (0,0))∧∀ i,i<n→cs[i]? = some (.pointer (some ⟨st i,0,none⟩))
 small:n≤8
end Go.Proofs.YthfdgdfnflilfaaGreatDoor

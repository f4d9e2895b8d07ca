/- Part 26: Load5, Load6, Load7, Load8. -/
import Derived.Defers
import Derived.Recover
import Derived.Test.YthfdgdfnflilfaaGreatDoorPart16
import Derived.Test.YthfdgdfnflilfaaGreatDoorPart22
namespace Go.Proofs.YthfdgdfnflilfaaGreatDoor
open Go.RowKit Go.Conc
variable {rs:List Int}
set_option maxRecDepth 100000 in
set_option maxHeartbeats 4000000 in
theorem sloadHeld_calls {B:Nat} {w:World} {b rb c:Nat} {vw:Value} {m0 m:Sm} {l:List Int} (h:StAt w b vw (some c) false m0) (hr:RdAt rs B w rb ((m.room:Int)::(m.read:Int)::(m.words.length:Int)::(m.words++l))) (hbB:B≤b) (hB:B≤w.heap.size)
  (hro0:m0.room≤m.room) (hro:m.room≤40) (hrd:m.read≤m.words.length) (hin:m.words.length-m.read≤m.room) (hws:∀ x∈m.words,Fits64 x) (hwl:m.words.length≤1099511627776) :
  Calls Tryz.prog 107 #[.pointer (some ⟨b,0,none⟩),.pointer (some ⟨rb,0,none⟩)] w fun e w'=>e=.returned (.tuple #[])∧Loaded rs B w b rb false true m l w':=by
 obtain ⟨c0,c1,c2,c3,cf⟩:=h.cells
 obtain ⟨⟨s0,r0,hc⟩,hcr,hroom0⟩:=h.chan c rfl
 have hne:b≠rb:=(h.rd hr (Fr.refl _ _)).2
 have hb:=lt_of_blk h.blk
 have hcp:=fun ty=>run_cap_chan (P:=Tryz.prog) 109 ty Tryz.underlying109 hc
 obtain ⟨i0,hi,hi8⟩:=Tryz.infoInt
 have hmk:=fun (wx:World)=>run_makeChan (P:=Tryz.prog) (w:=wx) (t:=109) Tryz.underlying109 hi .i64 m.room (by omega) (by rw [hi8];omega)
 have H1:Hid (Calls Tryz.prog 104 #[.pointer (some ⟨rb,0,none⟩),.int .i64 m0.room,.int .i64 40] w fun e w'=>e=.returned (.int .i64 m.room)∧RdAt rs B w' rb ((m.read:Int)::(m.words.length:Int)::(m.words++l))∧Fr (fun y=>y=rb) w w'):=within_calls hr ⟨by omega,by omega⟩ _ _ (by omega) (by omega)
 have H2:Hid (∀ wx,RdAt rs B wx rb ((m.read:Int)::(m.words.length:Int)::(m.words++l))→Calls Tryz.prog 109 #[.pointer (some ⟨rb,0,none⟩)] wx fun e w'=>e=.returned (.int .i64 m.read)∧RdAt rs B w' rb ((m.words.length:Int)::(m.words++l))∧Fr (fun y=>y=rb) wx w'):=fun wx hx=>count_calls hx ⟨by omega,by omega⟩ (by omega) (by simp;omega)
 have H3:Hid (∀ wx,RdAt rs B wx rb ((m.words.length:Int)::(m.words++l))→Calls Tryz.prog 104 #[.pointer (some ⟨rb,0,none⟩),.int .i64 m.read,.int .i64 ((m.read:Int)+m.room)] wx fun e w'=>e=.returned (.int .i64 m.words.length)∧RdAt rs B w' rb (m.words++l)∧Fr (fun y=>y=rb) wx w'):=fun wx hx=>within_calls hx ⟨by omega,by omega⟩ _ _ (by omega) (by omega)
 have H4:Hid (∀ wx,RdAt rs B wx rb (m.words++l)→Fr (fun y=>y=rb) w wx→Calls Tryz.prog 108 #[.pointer (some ⟨rb,0,none⟩),.int .i64 m.words.length] wx fun e w'=>∃ a cap,e=.returned (.slice a m.words.length cap)∧((∃ u,w'.cell? ⟨b,1,none⟩=some u)∧w'.frozen? ⟨b,1,none⟩=false) ∧
   (w'.setCell ⟨b,1,none⟩ (.slice a m.words.length cap)).heap[b]? = some (.cells #[.bool false,.slice a m.words.length cap,.int .i64 0,.chan (some c),.int .i64 0] 111 (0,0)) ∧
   (w'.setCell ⟨b,1,none⟩ (.slice a m.words.length cap)).ownsRow w.heap.size 3 1 (.slice a m.words.length cap) m.words.length (intRow m.words)∧RdAt rs B (w'.setCell ⟨b,1,none⟩ (.slice a m.words.length cap)) rb l∧Fr (fun z=>z=b∨z=rb) w (w'.setCell ⟨b,1,none⟩ (.slice a m.words.length cap))):=fun wx hx hfx=>by
  refine (numbers_calls hx hws (Nat.le_trans hB hfx.size) hwl).mono fun e w' ⟨v,q1,q2,q3,q4⟩=>?_
  obtain ⟨av,cv,rfl⟩:=own_slice q2
  have hf:=hfx.trans q4 fun _ _ e=>e
  have hk:=(h.rd hr hf).1
  have hg:∀ g,(Value.slice av m.words.length cv).ownBlock=some g→w.heap.size≤g:=fun g hg=>Nat.le_trans hfx.size (own_baseB q2 hg)
  refine ⟨av,cv,q1,⟨⟨_,hk.cells.2.1⟩,row_frozen hk.blk 1⟩,?_,?_,q3.set hbB (Nat.le_trans hB hf.size) hne _,Fr.setCell (S:=fun z=>z=b∨z=rb) (hf.mono fun _ _ e=>Or.inr e) (p:=⟨b,1,none⟩) (Or.inr (Or.inl rfl)) _⟩
  ·have:=blk_set hk.blk 1 (.slice av m.words.length cv)
   simpa using this
  ·have h0:w'.ownsRow w.heap.size 3 1 (.slice av m.words.length cv) m.words.length (intRow m.words):=by
    rcases q2 with ⟨e1,e2 | ⟨g,cap,cur,e2,e3,e4⟩⟩
    ·exact ⟨e1,Or.inl e2⟩
    ·exact ⟨e1,Or.inr ⟨g,cap,cur,e2,Nat.le_trans hfx.size e3,e4⟩⟩
   exact own_of_blockB h0 fun g e=>Below.heap_setCell _ _ _ _ (by have:=hg g e;dsimp only;omega)
 clear hc cf h hr
 refine calls_of_wpN Tryz.func107 rfl ?_
 simp only [Tryz.ntmps107,List.size_toArray,List.length_cons,List.length_nil,Nat.reduceAdd,Nat.reduceSub,Array.replicate_succ,Array.replicate_zero,List.push_toArray,List.append_toArray,List.nil_append,List.cons_append]
 refine wpN_seq (wpN_of_wp ?_)
 go_wp2_with fail
 refine (unhide H1).mono ?_
 rintro e w1 ⟨rfl,hr1,hf1⟩
 have HR1:=hide hr1
 have HF1:=hide hf1
 clear hr1 hf1 H1 hcp
 go_wp2
 refine wpN_seq (wpN_of_wp ?_)
 go_wp2_with fail
 refine (unhide H2 _ HR1.out).mono ?_
 rintro e w2 ⟨rfl,hr2,hf2⟩
 have HR2:=hide hr2
 have HF2:=hide (HF1.out.trans hf2 fun _ _ e=>e)
 clear hr2 hf2 HR1 HF1 H2
 go_wp2
 refine wpN_seq (wpN_of_wp ?_)
 go_wp2_with fail
 refine (unhide H3 _ HR2.out).mono ?_
 rintro e w3 ⟨rfl,hr3,hf3⟩
 have HR3:=hide hr3
 have HF3:=hide (HF2.out.trans hf3 fun _ _ e=>e)
 clear hr3 hf3 HR2 HF2 H3
 go_wp2
 refine wpN_seq (wpN_of_wp ?_)
 go_wp2_with fail
 refine (unhide H4 _ HR3.out HF3.out).mono ?_
 rintro e w4 ⟨av,cv,rfl,⟨⟨u,hu⟩,hfz⟩,k1,k2,k3,k4⟩
 have K1:=hide k1
 have K2:=hide k2
 have K3:=hide k3
 have K4:=hide k4
 clear k1 k2 k3 k4 HR3 HF3 H4
 go_wp2
 generalize w4.setCell ⟨b,1,none⟩ (.slice av m.words.length cv)=w5 at *
 have d3:w5.cell? ⟨b,3,none⟩=some (.chan (some c)):=row_cell K1.out rfl
 have d1:w5.cell? ⟨b,1,none⟩=some (.slice av m.words.length cv):=row_cell K1.out rfl
 have f3:w5.frozen? ⟨b,3,none⟩=false:=row_frozen K1.out 3
 have hb5:b<w5.heap.size:=lt_of_blk K1.out
 clear hu hfz
 refine wpN_seq (wpN_of_wp ?_)
 go_wp2
 have hsz5:(w5.setCell ⟨b,3,none⟩ (.chan (some w5.heap.size))).heap.size=w5.heap.size:=by simp [World.setCell]
 have J1:((w5.setCell ⟨b,3,none⟩ (.chan (some w5.heap.size))).alloc (.chan m.room #[] false 0 0 false)).heap[b]? = some (.cells #[.bool false,.slice av m.words.length cv,.int .i64 0,.chan (some w5.heap.size),.int .i64 0] 111 (0,0)):=by
  rw [Below.heap_alloc _ _ _ (by omega)]
  have:=blk_set K1.out 3 (.chan (some w5.heap.size))
  simpa using this
 have J2:((w5.setCell ⟨b,3,none⟩ (.chan (some w5.heap.size))).alloc (.chan m.room #[] false 0 0 false)).heap[w5.heap.size]? = some (.chan m.room #[] false 0 0 false):=by
  have:=heap_alloc_new (w5.setCell ⟨b,3,none⟩ (.chan (some w5.heap.size))) (.chan m.room #[] false 0 0 false)
  rw [hsz5] at this
  exact this
 have J3:∀ k,k<w5.heap.size→k≠b→((w5.setCell ⟨b,3,none⟩ (.chan (some w5.heap.size))).alloc (.chan m.room #[] false 0 0 false)).heap[k]? = w5.heap[k]? := fun k hk hkb=>by
  rw [Below.heap_alloc _ _ _ (by omega),Below.heap_setCell _ _ _ _ (by dsimp only;omega)]
 have J4:((w5.setCell ⟨b,3,none⟩ (.chan (some w5.heap.size))).alloc (.chan m.room #[] false 0 0 false)).heap.size=w5.heap.size+1:=by simp [World.setCell]
 have J5:Fr (fun z=>z=b∨z=rb) w ((w5.setCell ⟨b,3,none⟩ (.chan (some w5.heap.size))).alloc (.chan m.room #[] false 0 0 false)):=(Fr.setCell (S:=fun z=>z=b∨z=rb) K4.out (p:=⟨b,3,none⟩) (Or.inr (Or.inl rfl)) _).alloc _
 have HJO:Hid (((w5.setCell ⟨b,3,none⟩ (.chan (some w5.heap.size))).alloc (.chan m.room #[] false 0 0 false)).os=w5.os∧((w5.setCell ⟨b,3,none⟩ (.chan (some w5.heap.size))).alloc (.chan m.room #[] false 0 0 false)).tape=w5.tape∧((w5.setCell ⟨b,3,none⟩ (.chan (some w5.heap.size))).alloc (.chan m.room #[] false 0 0 false)).output=w5.output):=⟨rfl,rfl,rfl⟩
 generalize ((w5.setCell ⟨b,3,none⟩ (.chan (some w5.heap.size))).alloc (.chan m.room #[] false 0 0 false))=w6 at *
 have e1:w6.cell? ⟨b,1,none⟩=some (.slice av m.words.length cv):=row_cell J1 rfl
 have e3:w6.cell? ⟨b,3,none⟩=some (.chan (some w5.heap.size)):=row_cell J1 rfl
 have HJ1:=hide J1
 have HJ2:=hide J2
 have HJ3:=hide J3
 have HJ4:=hide J4
 have HJ5:=hide J5
 clear J1 J2 J3 J4 J5 d3 d1 f3 hmk hsz5
 obtain ⟨un,hun⟩:∃ un,un=m.words.drop m.read:=⟨_,rfl⟩
 have hunl:un.length=m.words.length-m.read:=by rw [hun];simp
 have HUN:=hide hun
 have HLd:Hid (∀ wr,wr.heap[w5.heap.size]? = some (.chan m.room (intRow un).toArray false un.length 0 false)→Fr (fun y=>y=w5.heap.size) w6 wr→wr.heap.size=w6.heap.size→Loaded rs B w b rb false true m l wr):=fun wr g1 g2 g3=>by
  have hsz6:=HJ4.out
  have hwsz:=K4.out.size
  have hq:∀ k,k<w5.heap.size→k≠b→wr.heap[k]? = w5.heap[k]? := fun k hk hkb=>(g2.block k (by omega) (by omega)).trans (HJ3.out k hk hkb)
  have hrb5:rb<w5.heap.size:=by obtain ⟨v,hv, -⟩:=K3.out.blk;exact lt_of_blk hv
  refine ⟨⟨_,some w5.heap.size,⟨(g2.block b (by omega) (by omega)).trans HJ1.out,?_,hrd,by omega,fun c' hc'=>?_,fun _ _=>rfl⟩,fun g hg=>Or.inl (own_baseB K2.out hg),fun c' hc'=>(by cases hc';exact hwsz),rfl⟩,?_,HJ5.out.trans g2 fun k hk e=>by subst e;omega⟩
  ·have h0:w5.ownsRow 0 3 1 (.slice av m.words.length cv) m.words.length (intRow m.words):=by
    rcases K2.out with ⟨e1,e2 | ⟨g,cap,cur,e2,e3,e4⟩⟩
    ·exact ⟨e1,Or.inl e2⟩
    ·exact ⟨e1,Or.inr ⟨g,cap,cur,e2,Nat.zero_le _,e4⟩⟩
   refine own_of_block h0 fun g hg=>?_
   obtain ⟨cur,hc⟩:=own_block h0 hg
   have:=own_baseB K2.out hg
   exact hq g (lt_of_blk hc) (by omega)
  ·cases hc'
   exact ⟨⟨un.length,0,by rw [← HUN.out];exact g1⟩,hin,by omega⟩
  ·refine K3.out.keep ⟨g2.os.trans (HJO.out.1),g2.tape.trans (HJO.out.2.1),g2.output.trans (HJO.out.2.2),by omega,fun k hk=>hq k (by omega) (by omega)⟩ (hq rb hrb5 (fun e=>hne e.symm))
 clear hun
 refine wpN_seq (wpN_of_wp ?_)
 rcases Nat.lt_or_ge m.read m.words.length with hlt | hge
 ·obtain ⟨g,rfl,hg0, -⟩:=own_get K2.out 0 (by omega)
  have hcv:m.words.length≤cv:=by
   obtain ⟨-,h2 | ⟨g',cap,cur,e, -, -,hn, -⟩⟩:=K2.out
   ·cases h2.1
   ·cases e;exact hn
  have hk0:(0:Int)≤(m.read:Int):=by omega
  have HCl:Hid (∀ wr,Fr (fun y=>y=w5.heap.size) w6 wr→(∀ j,j<un.length→wr.cell? ⟨g,m.read+j,none⟩=some (.int .i64 (un.getD j 0)))∧wr.cell? ⟨b,3,none⟩=some (.chan (some w5.heap.size))):=fun wr g2=>by
   refine ⟨fun j hj=>?_,?_⟩
   ·obtain ⟨g',e,hg',hx⟩:=own_get K2.out (m.read+j) (by omega)
    cases e
    have hgl:g<w5.heap.size:=lt_of_cell hx
    have e2:un.getD j 0=m.words.getD (m.read+j) 0:=by
     rw [HUN.out];simp [List.getD,List.getElem?_drop]
    rw [e2, ← hx]
    have hq:wr.heap[g]? = w5.heap[g]? := (g2.block g (by have:=HJ4.out;omega) (by omega)).trans (HJ3.out g hgl (by omega))
    exact World.cell?_of_block (w:=w5) hq
   ·rw [← e3];exact World.cell?_of_block (w:=w6) (g2.block b (by have:=HJ4.out;omega) (by omega))
  have hsz6:=HJ4.out
  clear K1 K2 K3 K4 HJ1 HJ3 HJ5 HJO HUN
  go_wp2
  refine wpN_block (wpN_loop (fun n a wr=>∃ (j:Nat) (u8 u43 u44 u45 u46 u47 u48 u49 u50 u51:Value),j≤un.length∧n=un.length-j∧a=⟨#[.pointer (some ⟨b,0,none⟩),.pointer (some ⟨rb,0,none⟩),undef,undef,.int .i64 m.room,.int .i64 m.read,.int .i64 m.words.length,undef,u8,.pointer (some ⟨rb,0,none⟩),.pointer (some ⟨b,0,none⟩),.pointer (some ⟨b,0,none⟩),.pointer (some ⟨b,3,none⟩),.chan (some c),.int .i64 m0.room,.int .i64 m.room,.pointer (some ⟨rb,0,none⟩),.int .i64 m.read,.pointer (some ⟨rb,0,none⟩),.int .i64 m.read,.int .i64 m.read,.int .i64 m.room,.int .i64 ((m.read:Int)+m.room),.int .i64 m.words.length,.pointer (some ⟨b,0,none⟩),.pointer (some ⟨rb,0,none⟩),.int .i64 m.words.length,(.slice (some ⟨g,0,none⟩) m.words.length cv),.pointer (some ⟨b,0,none⟩),.pointer (some ⟨b,1,none⟩),.pointer (some ⟨b,0,none⟩),.int .i64 m.room,.chan (some w5.heap.size),.pointer (some ⟨b,0,none⟩),.pointer (some ⟨b,3,none⟩),.pointer (some ⟨b,0,none⟩),.pointer (some ⟨b,0,none⟩),.pointer (some ⟨b,1,none⟩),(.slice (some ⟨g,0,none⟩) m.words.length cv),.int .i64 m.read,(.slice (some ⟨g,m.read,none⟩) (m.words.length-m.read) (cv-m.read)),.int .i64 ((m.words.length-m.read:Nat):Int),.int .i64 j,u43,u44,u45,u46,u47,u48,u49,u50,u51],[]⟩∧wr.heap[w5.heap.size]? = some (.chan m.room (intRow (un.take j)).toArray false j 0 false)∧Fr (fun y=>y=w5.heap.size) w6 wr∧wr.heap.size=w6.heap.size) un.length ?_ ?_)
  ·exact ⟨0,undef,undef,undef,undef,undef,undef,undef,undef,undef,undef,Nat.zero_le _,rfl,rfl,HJ2.out,Fr.refl _ _,rfl⟩
  rintro n a wr ⟨j,u8,u43,u44,u45,u46,u47,u48,u49,u50,u51,hj,rfl,rfl,G1,G2,G3⟩
  by_cases hjl:j<un.length
  ·obtain ⟨hcl,q3⟩:=HCl.out wr G2
   have d0:=hcl j hjl
   have hj0:(0:Int)≤(j:Int):=by omega
   have hj1:(j:Int)<((m.words.length-m.read:Nat):Int):=by omega
   have HT:Hid (intRow (un.take (j+1))=intRow (un.take j)++[.int .i64 (un.getD j 0)]):=by
    unfold Hid
    rw [List.take_succ_eq_append_getElem hjl,getD_eq _ _ _ hjl];exact intRow_snoc _ _
   have HG1:=hide G1
   have HG2:=hide G2
   clear hcl HCl G1 G2 HLd
   generalize un.getD j 0=x at *
   refine wpN_seq (wpN_of_wp ?_)
   go_wp2
   refine wpN_seq (wpN_of_wp ?_)
   go_wp2
   refine wpN_seq (wpN_block (wpN_seq (wpN_of_wp ?_)))
   go_wp2
   refine wpN_region (rest_value _ rfl rfl (.pointer (some ⟨b,0,none⟩)) wr (by simp [go_sem,execOp,Act.eval]) (rest_value _ rfl rfl (.pointer (some ⟨b,0,none⟩)) wr (by simp [go_sem,execOp,Act.eval,Act.put]) (rest_value _ rfl rfl (.pointer (some ⟨b,3,none⟩)) wr (by simp [go_sem,execOp,Act.eval,Act.put]) (rest_value _ rfl rfl (.chan (some w5.heap.size)) wr (by simp [go_sem,execOp,Act.eval,Act.put,q3]) (rest_value _ rfl rfl (.int .i64 x) wr (by simp [go_sem,execOp,Act.eval,Act.put]) (rest_step _ rfl undef (wr.setChan w5.heap.size m.room ((intRow (un.take j)).toArray.push (.int .i64 x)) false (j+1) 0 false) (fun b0 k cs hb=>step_lone_send_room (c:=w5.heap.size) (v:=.int .i64 x) (z':=.tuple #[]) (comm_of rfl rfl (w':=wr) (by simp [go_sem,execOp,scase,Act.eval,Act.put]) b0 k cs hb) HG1.out (by simp [intRow];omega)) (rest_nil ?_)))))))
   have L1:(wr.setChan w5.heap.size m.room ((intRow (un.take j)).toArray.push (.int .i64 x)) false (j+1) 0 false).heap[w5.heap.size]? = some (.chan m.room (intRow (un.take (j+1))).toArray false (j+1) 0 false):=by
    rw [heap_setChan _ _ _ _ _ _ _ _ (by omega),HT.out]
    simp
   have L2:Fr (fun y=>y=w5.heap.size) w6 (wr.setChan w5.heap.size m.room ((intRow (un.take j)).toArray.push (.int .i64 x)) false (j+1) 0 false):=Fr.setChan (S:=fun y=>y=w5.heap.size) HG2.out (c:=w5.heap.size) (Or.inr rfl) _ _ _ _ _ _
   have L3:(wr.setChan w5.heap.size m.room ((intRow (un.take j)).toArray.push (.int .i64 x)) false (j+1) 0 false).heap.size=w6.heap.size:=by rw [size_setChan];exact G3
   generalize wr.setChan w5.heap.size m.room ((intRow (un.take j)).toArray.push (.int .i64 x)) false (j+1) 0 false=w7 at *
   have HL1:=hide L1
   have HL2:=hide L2
   have HL3:=hide L3
   clear L1 L2 L3 HG1 HG2 G3
   refine wpN_of_wp ?_
   go_wp2
   exact ⟨un.length-(j+1),by omega,j+1,.int .i64 x,.bool true,.pointer (some ⟨g,m.read+j,none⟩),.int .i64 x,.pointer (some ⟨b,0,none⟩),.pointer (some ⟨b,0,none⟩),.pointer (some ⟨b,3,none⟩),.chan (some w5.heap.size),.int .i64 x,.int .i64 ((j:Int)+1),by omega,rfl,by simp,HL1.out,HL2.out,HL3.out⟩
  ·have hjj:j=un.length:=by omega
   subst hjj
   have hcond:decide ((un.length:Int)<((m.words.length-m.read:Nat):Int))=false:=by simp;omega
   have HL:Hid (Loaded rs B w b rb false true m l wr):=HLd.out wr (by rw [G1,List.take_length]) G2 G3
   clear G1 G2 G3 HLd
   refine wpN_seq (wpN_of_wp ?_)
   go_wp2
   refine wpN_seq (wpN_of_wp ?_)
   go_wp2
   go_end0
   exact ⟨rfl,HL.out⟩
 ·have hun0:un.length=0:=by omega
  have hrl:m.read=m.words.length:=by omega
  have hcv:m.words.length≤cv:=by
   obtain ⟨-,h2 | ⟨g',cap,cur,e, -, -,hn, -⟩⟩:=K2.out
   ·have:=h2.2;omega
   ·cases e;exact hn
  have hnil:av=none→m.words.length=0∧cv=0:=fun e=>by
   obtain ⟨-,h2 | ⟨g',cap,cur,e', -⟩⟩:=K2.out
   ·have h3:=h2.1
    have h4:=h2.2
    injection h3 with _ _ h5
    exact ⟨h4,h5⟩
   ·rw [e] at e';cases e'
  have HL:Hid (Loaded rs B w b rb false true m l w6):=by
   have hu:un=[]:=List.eq_nil_of_length_eq_zero hun0
   refine HLd.out w6 ?_ (Fr.refl _ _) rfl
   rw [hu]
   exact HJ2.out
  clear K1 K2 K3 K4 HJ1 HJ3 HJ5 HJO HUN HLd HJ2 HJ4
  cases av with
  | none=>
   obtain ⟨hw0,hcv0⟩:=hnil rfl
   have hr0:m.read=0:=by omega
   rw [hw0,hcv0] at e1
   go_wp2
   all_goals (refine wpN_block (wpN_loop (fun _ a' wr'=>a'=_∧wr'=w6) 0 ⟨rfl,rfl⟩ ?_);rintro n a' wr' ⟨rfl,rfl⟩;refine wpN_seq (wpN_of_wp ?_);go_wp2;refine wpN_seq (wpN_of_wp ?_);go_wp2;go_end0;exact ⟨rfl,HL.out⟩)
  | some ad=>
   go_wp2
   all_goals (refine wpN_block (wpN_loop (fun _ a' wr'=>a'=_∧wr'=w6) 0 ⟨rfl,rfl⟩ ?_);rintro n a' wr' ⟨rfl,rfl⟩;refine wpN_seq (wpN_of_wp ?_);go_wp2;refine wpN_seq (wpN_of_wp ?_);go_wp2;go_end0;exact ⟨rfl,HL.out⟩)
theorem foot_w {L:Lay} {N:Net} {k:Nat} (hk:k<N.workers.length):Foot L N (L.wb k):=Or.inr (Or.inr (Or.inr (Or.inr ⟨k,hk,Or.inl rfl⟩)))
theorem foot_s {L:Lay} {N:Net} {s:Nat} (hs:s<N.streams.length):Foot L N (L.st s):=Or.inr (Or.inr (Or.inr (Or.inl ⟨s,hs,Or.inl rfl⟩)))
theorem RaceAt.setW {L:Lay} {w w':World} {N:Net} {R:Rc} (h:RaceAt L w N R) {k:Nat} (hk:k<N.workers.length) {y:Wk}
  (hw':WkAt w' (L.wb k) (L.VC k) (codeOf N k) y) (hf:∀ z,Foot L N z→z≠L.wb k→w'.heap[z]? = w.heap[z]?):RaceAt L w' N ⟨R.W.set k y,R.S⟩:=by
 have hwb:=(h.wk k hk).blk
 obtain ⟨⟨ga,gcap,hva,csa,hga,hcsa⟩,hsm⟩:=h.env.along
 obtain ⟨gw,wcap,hvw',csw,hgw,hcsw⟩:=h.rowW
 have hlk:k<R.W.length:=by rw [h.lenW];exact hk
 refine ⟨?_,⟨⟨⟨ga,gcap,hva,csa,?_,hcsa⟩,hsm⟩,fun t ht=>?_⟩,⟨gw,wcap,hvw',csw,?_,hcsw⟩,fun j hj=>?_,h.ch,h.injS,h.injW,by simp [h.lenW],h.lenS,h.ok⟩
 ·rw [hf _ (Or.inl rfl) (ne_of_types h.blk hwb (by decide))];exact h.blk
 ·rw [hf _ (Or.inr (Or.inl (by rw [hva];rfl))) (ne_of_types hga hwb (by decide))];exact hga
 ·have hT:=h.env.at' t ht
  refine hT.stays fun z hz=>hf z (Or.inr (Or.inr (Or.inr (Or.inl ⟨t,ht,hz⟩)))) ?_
  rcases hz with rfl | hz | hz
  ·exact ne_of_types hT.blk hwb (by decide)
  ·obtain ⟨cur,hc⟩:=own_block hT.own hz;exact ne_of_types hc hwb (by decide)
  ·obtain ⟨⟨a,r,h1⟩,_⟩:=hT.chan z hz;exact chan_ne_cells h1 hwb
 ·rw [hf _ (Or.inr (Or.inr (Or.inl (by rw [hvw'];rfl)))) (ne_of_types hgw hwb (by decide))];exact hgw
 ·by_cases e:j=k
  ·subst e
   have:(⟨R.W.set j y,R.S⟩:Rc).w j=y:=getD_set_self _ _ _ _ hlk
   rw [this];exact hw'
  ·have:(⟨R.W.set k y,R.S⟩:Rc).w j=R.w j:=getD_set_ne _ _ _ _ _ (fun e'=>e e'.symm)
   rw [this]
   have hJ:=h.wk j hj
   refine hJ.stays fun z hz=>hf z (Or.inr (Or.inr (Or.inr (Or.inr ⟨j,hj,hz⟩)))) ?_
   rcases hz with rfl | hz
   ·exact h.injW j k hj hk e
   ·obtain ⟨cur,hc⟩:=own_block hJ.own hz;exact ne_of_types hc hwb (by decide)
theorem RaceAt.setS {L:Lay} {w w':World} {N:Net} {R:Rc} (h:RaceAt L w N R) {s:Nat} (hs:s<N.streams.length) {vw':Value} {ch':Option Nat} {m':Sm}
  (hst:StAt w' (L.st s) vw' ch' (srcd N s) m') (hvw:∀ g,vw'.ownBlock=some g→(L.VW s).ownBlock=some g∨w.heap.size≤g) (hch:∀ c,ch'=some c→L.CH s=some c∨w.heap.size≤c) (hsome:ch'.isSome=(L.CH s).isSome)
  (hf:∀ z,Foot L N z→z≠L.st s→w'.heap[z]? = w.heap[z]?) :
  RaceAt { L with VW:=fun t=>if t=s then vw' else L.VW t,CH:=fun t=>if t=s then ch' else L.CH t} w' N ⟨R.W,R.S.set s m'⟩:=by
 have hsA:=h.env.at' s hs
 have hsb:=hsA.blk
 obtain ⟨⟨ga,gcap,hva,csa,hga,hcsa⟩,hsm⟩:=h.env.along
 obtain ⟨gw,wcap,hvw',csw,hgw,hcsw⟩:=h.rowW
 have hls:s<R.S.length:=by rw [h.lenS];exact hs
 refine ⟨?_,⟨⟨⟨ga,gcap,hva,csa,?_,hcsa⟩,hsm⟩,fun t ht=>?_⟩,⟨gw,wcap,hvw',csw,?_,hcsw⟩,fun j hj=>?_,fun t ht hq=>?_,fun t u ht hu hne=>?_,h.injW,h.lenW,by simp [h.lenS],h.ok⟩
 ·rw [hf _ (Or.inl rfl) (ne_of_types h.blk hsb (by decide))];exact h.blk
 ·rw [hf _ (Or.inr (Or.inl (by rw [hva];rfl))) (ne_of_types hga hsb (by decide))];exact hga
 ·dsimp only
  by_cases e:t=s
  ·subst e
   rw [if_pos rfl,if_pos rfl]
   have:(⟨R.W,R.S.set t m'⟩:Rc).s t=m':=getD_set_self _ _ _ _ hls
   rw [this];exact hst
  ·rw [if_neg e,if_neg e]
   have:(⟨R.W,R.S.set s m'⟩:Rc).s t=R.s t:=getD_set_ne _ _ _ _ _ (fun e'=>e e'.symm)
   rw [this]
   have hT:=h.env.at' t ht
   refine hT.stays fun z hz=>hf z (Or.inr (Or.inr (Or.inr (Or.inl ⟨t,ht,hz⟩)))) ?_
   rcases hz with rfl | hz | hz
   ·exact (h.injS t s ht hs e).1
   ·obtain ⟨cur,hc⟩:=own_block hT.own hz;exact ne_of_types hc hsb (by decide)
   ·obtain ⟨⟨a,r,h1⟩,_⟩:=hT.chan z hz;exact chan_ne_cells h1 hsb
 ·rw [hf _ (Or.inr (Or.inr (Or.inl (by rw [hvw'];rfl)))) (ne_of_types hgw hsb (by decide))];exact hgw
 ·have hJ:=h.wk j hj
  refine hJ.stays fun z hz=>hf z (Or.inr (Or.inr (Or.inr (Or.inr ⟨j,hj,hz⟩)))) ?_
  rcases hz with rfl | hz
  ·exact ne_of_types hJ.blk hsb (by decide)
  ·obtain ⟨cur,hc⟩:=own_block hJ.own hz;exact ne_of_types hc hsb (by decide)
 ·dsimp only
  by_cases e:t=s
  ·subst e
   rw [if_pos rfl,hsome];exact h.ch t ht hq
  ·rw [if_neg e];exact h.ch t ht hq
 ·obtain ⟨i1,i2,i3⟩:=h.injS t u ht hu hne
  have own_lt:∀ x,x<N.streams.length→∀ g,(L.VW x).ownBlock=some g→g<w.heap.size:=fun x hx g hg=>by
   obtain ⟨cur,hc⟩:=own_block (h.env.at' x hx).own hg;exact lt_of_blk hc
  have ch_lt:∀ x,x<N.streams.length→∀ c,L.CH x=some c→c<w.heap.size:=fun x hx c hc=>by
   obtain ⟨⟨a,r,h1⟩,_⟩:=(h.env.at' x hx).chan c hc;exact lt_of_blk h1
  refine ⟨i1,fun g hg hg'=>?_,fun c hc hc'=>?_⟩
  ·dsimp only at hg hg'
   by_cases e:t=s
   ·subst e
    rw [if_pos rfl] at hg
    rw [if_neg (fun e'=>hne e'.symm)] at hg'
    rcases hvw g hg with h1 | h1
    ·exact i2 g h1 hg'
    ·have:=own_lt u hu g hg';omega
   ·rw [if_neg e] at hg
    by_cases e2:u=s
    ·subst e2
     rw [if_pos rfl] at hg'
     rcases hvw g hg' with h1 | h1
     ·exact i2 g hg h1
     ·have:=own_lt t ht g hg;omega
    ·rw [if_neg e2] at hg'
     exact i2 g hg hg'
  ·dsimp only at hc hc'
   by_cases e:t=s
   ·subst e
    rw [if_pos rfl] at hc
    rw [if_neg (fun e'=>hne e'.symm)] at hc'
    rcases hch c hc with h1 | h1
    ·exact i3 c h1 hc'
    ·have:=ch_lt u hu c hc';omega
   ·rw [if_neg e] at hc
    by_cases e2:u=s
    ·subst e2
     rw [if_pos rfl] at hc'
     rcases hch c hc' with h1 | h1
     ·exact i3 c hc h1
     ·have:=ch_lt t ht c hc;omega
    ·rw [if_neg e2] at hc'
     exact i3 c hc hc'
theorem RaceAt.not_rd {L:Lay} {w:World} {N:Net} {R:Rc} (h:RaceAt L w N R) {rb:Nat} {v:Value} (hb:w.heap[rb]? = some (.cells #[v] 158 (0,0))):¬ Foot L N rb:=fun hf=>by
 rcases hf with rfl | hf | hf | ⟨s,hs,hf⟩ | ⟨j,hj,hf⟩
 ·exact ne_of_types h.blk hb (by decide) rfl
 ·obtain ⟨g2,cap2,hv2,cs2,hg2,hcs2⟩:=h.env.along.form
  rw [hv2] at hf
  have:g2=rb:=by simpa [Value.ownBlock] using hf
  subst this
  exact ne_of_types hg2 hb (by decide) rfl
 ·obtain ⟨g,cap,hv,cs,hg,hcs⟩:=h.rowW
  rw [hv] at hf
  have:g=rb:=by simpa [Value.ownBlock] using hf
  subst this
  exact ne_of_types hg hb (by decide) rfl
 ·have hst:=h.env.at' s hs
  rcases hf with rfl | hf | hf
  ·exact ne_of_types hst.blk hb (by decide) rfl
  ·obtain ⟨cur,hc⟩:=own_block hst.own hf;exact ne_of_types hc hb (by decide) rfl
  ·obtain ⟨⟨s',r,h1⟩,_⟩:=hst.chan rb hf;exact ne_of_chan hb h1 rfl
 ·have hw:=h.wk j hj
  rcases hf with rfl | hf
  ·exact ne_of_types hw.blk hb (by decide) rfl
  ·obtain ⟨cur,hc⟩:=own_block hw.own hf;exact ne_of_types hc hb (by decide) rfl
variable {rs:List Int}
structure LoadsS (sourced held:Bool) (m0 m:Sm):Prop where
 src:sourced=true→m.words=m0.words∧m.room=m0.room
 un:sourced=false→held=false→m.read=0∧m.room=m0.room∧m0.room≤1000
 hold:sourced=false→held=true→m0.room≤m.room∧m.room≤40∧m.words.length-m.read≤m.room
 le:m.read≤m.words.length
 fits:∀ x∈m.words,Fits64 x
 len:m.words.length≤274877906944
def StLoaded (rs:List Int) (B:Nat) (w:World) (b rb:Nat) (vw:Value) (ch:Option Nat) (sourced:Bool) (m:Sm) (l:List Int) (w':World):Prop:=
 ∃ vw' ch',StAt w' b vw' ch' sourced m∧(∀ g,vw'.ownBlock=some g→vw.ownBlock=some g∨w.heap.size≤g)∧(∀ c,ch'=some c→ch=some c∨w.heap.size≤c)∧ch'.isSome=ch.isSome∧RdAt rs B w' rb l∧Fr (fun z=>z=b∨z=rb) w w'
set_option maxRecDepth 100000 in
set_option maxHeartbeats 2000000 in
theorem sload_calls {B:Nat} {w:World} {b rb:Nat} {vw:Value} {ch:Option Nat} {sourced:Bool} {m0 m:Sm} {l:List Int} (h:StAt w b vw ch sourced m0) (hr:RdAt rs B w rb (stNums sourced m++l)) (hbB:B≤b) (hB:B≤w.heap.size) (hl:LoadsS sourced ch.isSome m0 m) :
  Calls Tryz.prog 101 #[.pointer (some ⟨b,0,none⟩),.pointer (some ⟨rb,0,none⟩)] w fun e w'=>e=.returned (.tuple #[])∧StLoaded rs B w b rb vw ch sourced m l w':=by
 cases sourced with
 | true=>
  cases ch with
  | some c=>have:=h.nosrc c rfl;cases this
  | none=>
   obtain ⟨h1,h2⟩:=hl.src rfl
   have hle:=hl.le
   refine (sload_src h (r:=m.read) hr hbB hB (by rw [← h1];exact hle)).mono fun e w' ⟨q1,q2,q3,q4⟩=>⟨q1,vw,none,?_,fun g hg=>Or.inl hg,fun c hc=>(by cases hc),rfl,q3,q4⟩
   have e:({m0 with read:=m.read}:Sm)=m:=by cases m;simp at h1 h2;simp [h1,h2]
   rw [← e];exact q2
 | false=>
  have hne:=fun (wx:World) (a:Option Nat)=>run_eql_chan_nil (P:=Tryz.prog) wx 109 a Tryz.underlying109
  obtain ⟨c0,c1,c2,c3,cf⟩:=h.cells
  cases ch with
  | none=>
   obtain ⟨h1,h2,h3⟩:=hl.un rfl rfl
   have HU:Hid (Calls Tryz.prog 106 #[.pointer (some ⟨b,0,none⟩),.pointer (some ⟨rb,0,none⟩)] w fun e w'=>e=.returned (.tuple #[])∧StLoaded rs B w b rb vw none false m l w'):=by
    have hr':RdAt rs B w rb ((m0.room:Int)::0::(m.words.length:Int)::(m.words++l)):=by
     have:=hr
     simp only [stNums] at this
     rw [h1,h2] at this
     exact this
    refine (sloadUnread_calls h hr' hbB hB h3 hl.fits (by have:=hl.len;omega)).mono fun e w' ⟨q1,q2⟩=>⟨q1,?_⟩
    obtain ⟨vw',ch',a1,a2,a3,a4⟩:=q2.at'
    have e:(⟨m.words,0,m0.room⟩:Sm)=m:=by cases m;simp at h1 h2;simp [h1,h2]
    rw [e] at a1
    exact ⟨vw',ch',a1,fun g hg=>Or.inr ((a2 g hg).resolve_right (by decide)),fun c hc=>Or.inr (a3 c hc),a4,q2.rd,q2.fr⟩
   clear h hr hl cf
   go_enter Tryz.func101,Tryz.ntmps101
   go_wp2_with fail
   refine (unhide HU).mono ?_
   rintro e w1 ⟨rfl,h1⟩
   have H1:=hide h1
   clear h1 HU
   go_wp2
   go_end0
   exact ⟨rfl,H1.out⟩
  | some c=>
   obtain ⟨h1,h2,h3⟩:=hl.hold rfl rfl
   have HU:Hid (Calls Tryz.prog 107 #[.pointer (some ⟨b,0,none⟩),.pointer (some ⟨rb,0,none⟩)] w fun e w'=>e=.returned (.tuple #[])∧StLoaded rs B w b rb vw (some c) false m l w'):=by
    refine (sloadHeld_calls h (m:=m) hr hbB hB h1 h2 hl.le h3 hl.fits (by have:=hl.len;omega)).mono fun e w' ⟨q1,q2⟩=>⟨q1,?_⟩
    obtain ⟨vw',ch',a1,a2,a3,a4⟩:=q2.at'
    exact ⟨vw',ch',a1,fun g hg=>Or.inr ((a2 g hg).resolve_right (by decide)),fun c hc=>Or.inr (a3 c hc),a4,q2.rd,q2.fr⟩
   clear h hr hl cf
   go_enter Tryz.func101,Tryz.ntmps101
   go_wp2_with fail
   refine (unhide HU).mono ?_
   rintro e w1 ⟨rfl,h1⟩
   have H1:=hide h1
   clear h1 HU
   go_wp2
   go_end0
   exact ⟨rfl,H1.out⟩
def Loading (rs:List Int) (B:Nat) (p:Nat) (ga ca gw cw:Nat) (w:World) (N:Net) (R:Rc) (rb:Nat) (l:List Int) (wr:World):Prop:=
 ∃ L,(L.p=p∧L.vS=.slice (some ⟨ga,0,none⟩) N.streams.length ca∧L.vW=.slice (some ⟨gw,0,none⟩) N.workers.length cw)∧RaceAt L wr N R∧(∀ b,Foot L N b→B≤b)∧RdAt rs B wr rb l∧Below B w wr∧B≤wr.heap.size
theorem read_idle (w:World):CallsD Tryz.prog 98 #[] .returning w fun e u' w'=>e=.returned (.tuple #[])∧u'=.returning∧w'=w:=by
 refine callsD_of_wpS Tryz.func98 rfl fun c₀ cs hu=>?_
 apply wpS_seq
 apply wpS_region
 simp [wpOpsS,go_sem,recoverD,hu,Tryz.ntmps98,Exit.thenS]
 refine wpS_of_wp ?_
 go_wp2
 cases c₀
 simp_all [bodyPostS,results,Tryz.results98]
end Go.Proofs.YthfdgdfnflilfaaGreatDoor

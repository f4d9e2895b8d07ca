/- Part 16: Load4, RefV1. -/
import Derived.Test.YthfdgdfnflilfaaGreatDoorPart7
import Derived.Test.YthfdgdfnflilfaaGreatDoorPart11
namespace Go.Proofs.YthfdgdfnflilfaaGreatDoor
open Go.RowKit Go.Conc
variable {rs:List Int}
theorem StAt.rd {B:Nat} {w w':World} {b rb:Nat} {vw:Value} {ch:Option Nat} {sourced:Bool} {m:Sm} {l:List Int} (h:StAt w b vw ch sourced m) (hr:RdAt rs B w rb l) (hf:Fr (fun y=>y=rb) w w'):StAt w' b vw ch sourced m∧b≠rb:=by
 obtain ⟨v,hblk, -⟩:=hr.blk
 have hne:b≠rb:=ne_of_types h.blk hblk (by decide)
 refine ⟨h.stays fun y hy=>?_,hne⟩
 rcases hy with rfl | hy | hy
 ·exact hf.block _ (lt_of_blk h.blk) hne
 ·obtain ⟨cur,hc⟩:=own_block h.own hy
  exact hf.block _ (lt_of_blk hc) (ne_of_types hc hblk (by decide))
 ·obtain ⟨⟨p,q,hc⟩, -⟩:=h.chan y hy
  exact hf.block _ (lt_of_blk hc) (fun e=>ne_of_chan hblk hc e.symm)
structure Loaded (rs:List Int) (B:Nat) (w:World) (b rb:Nat) (sourced:Bool) (some':Bool) (m:Sm) (l:List Int) (w':World):Prop where
 at':∃ vw ch,StAt w' b vw ch sourced m∧(∀ g,vw.ownBlock=some g→w.heap.size≤g∨sourced=true)∧(∀ c,ch=some c→w.heap.size≤c)∧ch.isSome=some'
 rd:RdAt rs B w' rb l
 fr:Fr (fun z=>z=b∨z=rb) w w'
set_option maxRecDepth 100000 in
set_option maxHeartbeats 2000000 in
theorem sload_src {B:Nat} {w:World} {b rb:Nat} {vw:Value} {m0:Sm} {r:Nat} {l:List Int} (h:StAt w b vw none true m0) (hr:RdAt rs B w rb ((r:Int)::l)) (hbB:B≤b) (hB:B≤w.heap.size) (hle:r≤m0.words.length) :
  Calls Tryz.prog 101 #[.pointer (some ⟨b,0,none⟩),.pointer (some ⟨rb,0,none⟩)] w fun e w'=>e=.returned (.tuple #[])∧StAt w' b vw none true {m0 with read:=r}∧RdAt rs B w' rb l∧Fr (fun z=>z=b∨z=rb) w w':=by
 obtain ⟨c0,c1,c2,c3,cf⟩:=h.cells
 have hsm:=h.small
 have hne:b≠rb:=(h.rd hr (Fr.refl _ _)).2
 obtain ⟨aw,capw,hvw, -, -⟩:=own_form h.own
 have HP:Hid (Calls Tryz.prog 104 #[.pointer (some ⟨rb,0,none⟩),.int .i64 0,.int .i64 m0.words.length] w fun e w'=>e=.returned (.int .i64 r)∧((∃ u,w'.cell? ⟨b,2,none⟩=some u)∧w'.frozen? ⟨b,2,none⟩=false) ∧
   StAt (w'.setCell ⟨b,2,none⟩ (.int .i64 r)) b vw none true {m0 with read:=r}∧RdAt rs B (w'.setCell ⟨b,2,none⟩ (.int .i64 r)) rb l∧Fr (fun z=>z=b∨z=rb) w (w'.setCell ⟨b,2,none⟩ (.int .i64 r))):=by
  refine (within_calls hr ⟨by omega,by omega⟩ 0 m0.words.length (by omega) (by omega)).mono fun e w' ⟨q1,q2,q3⟩=>?_
  have hk:=(h.rd hr q3).1
  refine ⟨q1,⟨⟨_,hk.cells.2.2.1⟩,row_frozen hk.blk 2⟩,⟨?_,?_,hle,hk.small,fun c hc=>(by cases hc),fun c hc=>(by cases hc)⟩,q2.set hbB (Nat.le_trans hB q3.size) hne _,Fr.setCell (S:=fun z=>z=b∨z=rb) (q3.mono fun _ _ e=>Or.inr e) (p:=⟨b,2,none⟩) (Or.inr (Or.inl rfl)) _⟩
  ·have:=blk_set hk.blk 2 (.int .i64 r)
   simpa using this
  ·exact own_of_block hk.own fun g hg=>Below.heap_setCell _ _ _ _ (hk.ne_own hg)
 clear h hr cf
 subst hvw
 generalize m0.words.length=ml at *
 go_enter Tryz.func101,Tryz.ntmps101
 go_wp2_with fail
 refine (unhide HP).mono ?_
 rintro e w1 ⟨rfl,⟨⟨u,hu⟩,hfz⟩,h1,h2,h3⟩
 have H1:=hide h1
 have H2:=hide h2
 have H3:=hide h3
 clear h1 h2 h3 HP
 go_wp2
 go_end0
 exact ⟨rfl,H1.out,H2.out,H3.out⟩
set_option maxRecDepth 100000 in
set_option maxHeartbeats 2000000 in
theorem sloadUnread_calls {B:Nat} {w:World} {b rb:Nat} {vw:Value} {m0:Sm} {ws l:List Int} (h:StAt w b vw none false m0) (hr:RdAt rs B w rb ((m0.room:Int)::0::(ws.length:Int)::(ws++l))) (hbB:B≤b) (hB:B≤w.heap.size) (hro:m0.room≤1000) (hws:∀ x∈ws,Fits64 x) (hwl:ws.length≤1099511627776) :
  Calls Tryz.prog 106 #[.pointer (some ⟨b,0,none⟩),.pointer (some ⟨rb,0,none⟩)] w fun e w'=>e=.returned (.tuple #[])∧Loaded rs B w b rb false false ⟨ws,0,m0.room⟩ l w':=by
 have c4:w.cell? ⟨b,4,none⟩=some (.int .i64 (m0.room:Int)):=row_cell h.blk rfl
 have hne:b≠rb:=(h.rd hr (Fr.refl _ _)).2
 have hb:=lt_of_blk h.blk
 have H1:Hid (∀ q,Calls Tryz.prog 104 #[.pointer (some ⟨rb,0,none⟩),.int .i64 m0.room,.int .i64 m0.room] (w.drewN q) fun e w'=>e=.returned (.int .i64 m0.room)∧(RdAt rs B w' rb (0::(ws.length:Int)::(ws++l))∧Fr (fun y=>y=rb) w w')∧w'.cell? ⟨b,4,none⟩=some (.int .i64 (m0.room:Int))):=fun q=>by
  refine (within_calls (w:=w.drewN q) (hr.keep (below_drewN (Below.refl _ _) q) rfl) ⟨by omega,by omega⟩ _ _ (Int.le_refl _) (Int.le_refl _)).mono fun e w' ⟨q1,q2,q3⟩=>⟨q1,⟨q2,⟨q3.os,q3.tape,q3.output,q3.size,q3.block⟩⟩,?_⟩
  rw [← c4];exact World.cell?_of_block (w:=w) (q3.block b hb hne)
 have H2:Hid (∀ wx,RdAt rs B wx rb (0::(ws.length:Int)::(ws++l))→Calls Tryz.prog 104 #[.pointer (some ⟨rb,0,none⟩),.int .i64 0,.int .i64 0] wx fun e w'=>e=.returned (.int .i64 0)∧RdAt rs B w' rb ((ws.length:Int)::(ws++l))∧Fr (fun y=>y=rb) wx w'):=fun wx hx=>within_calls hx ⟨by omega,by omega⟩ 0 0 (Int.le_refl _) (Int.le_refl _)
 have H3:Hid (∀ wx,RdAt rs B wx rb ((ws.length:Int)::(ws++l))→Calls Tryz.prog 109 #[.pointer (some ⟨rb,0,none⟩)] wx fun e w'=>e=.returned (.int .i64 ws.length)∧RdAt rs B w' rb (ws++l)∧Fr (fun y=>y=rb) wx w'):=fun wx hx=>count_calls hx ⟨by omega,by omega⟩ (by omega) (by simp;omega)
 have H4:Hid (∀ wx,RdAt rs B wx rb (ws++l)→Fr (fun y=>y=rb) w wx→Calls Tryz.prog 108 #[.pointer (some ⟨rb,0,none⟩),.int .i64 ws.length] wx fun e w'=>∃ a cap,e=.returned (.slice a ws.length cap)∧((∃ u,w'.cell? ⟨b,1,none⟩=some u)∧w'.frozen? ⟨b,1,none⟩=false)∧Loaded rs B w b rb false false ⟨ws,0,m0.room⟩ l (w'.setCell ⟨b,1,none⟩ (.slice a ws.length cap))):=fun wx hx hfx=>by
  refine (numbers_calls hx hws (Nat.le_trans hB hfx.size) hwl).mono fun e w' ⟨v,q1,q2,q3,q4⟩=>?_
  obtain ⟨av,cv,rfl⟩:=own_slice q2
  refine ⟨av,cv,q1,?_⟩
  have hf:=hfx.trans q4 fun _ _ e=>e
  have hk:=(h.rd hr hf).1
  have hg:∀ g,(Value.slice av ws.length cv).ownBlock=some g→w.heap.size≤g:=fun g hg=>Nat.le_trans hfx.size (own_baseB q2 hg)
  refine ⟨⟨⟨_,hk.cells.2.1⟩,row_frozen hk.blk 1⟩,⟨.slice av ws.length cv,none,⟨?_,?_,Nat.zero_le _,by dsimp only;omega,fun c hc=>(by cases hc),fun c hc=>(by cases hc)⟩,fun g e=>Or.inl (hg g e),fun c hc=>(by cases hc),rfl⟩,q3.set hbB (Nat.le_trans hB hf.size) hne _,Fr.setCell (S:=fun z=>z=b∨z=rb) (hf.mono fun _ _ e=>Or.inr e) (p:=⟨b,1,none⟩) (Or.inr (Or.inl rfl)) _⟩
  ·have:=blk_set hk.blk 1 (.slice av ws.length cv)
   simpa using this
  ·have h0:w'.ownsRow 0 3 1 (.slice av ws.length cv) ws.length (intRow ws):=by
    rcases q2 with ⟨e1,e2 | ⟨g,cap,cur,e2,e3,e4⟩⟩
    ·exact ⟨e1,Or.inl e2⟩
    ·exact ⟨e1,Or.inr ⟨g,cap,cur,e2,Nat.zero_le _,e4⟩⟩
   exact own_of_block h0 fun g e=>Below.heap_setCell _ _ _ _ (by have:=hg g e;dsimp only;omega)
 clear h hr hws
 generalize (m0.room:Int)=mr at *
 go_enter Tryz.func106,Tryz.ntmps106
 go_wp2
 go_region_held3 (fun w'=>w'.cell? ⟨b,4,none⟩=some (.int .i64 mr)) (go_keep)
  ((go_at_call 104;refine (unhide H1 _).mono ?_;rintro e w1 ⟨rfl,⟨hr1,hf1⟩,s1⟩;have HR1:=hide hr1;have HF1:=hide hf1;clear hr1 hf1))
 go_wp2_with fail
 refine (unhide H2 _ HR1.out).mono ?_
 rintro e w2 ⟨rfl,hr2,hf2⟩
 have HR2:=hide hr2
 have HF2:=hide (HF1.out.trans hf2 fun _ _ e=>e)
 clear hr2 hf2 HR1 HF1 H1 H2
 go_wp2_with fail
 refine (unhide H3 _ HR2.out).mono ?_
 rintro e w3 ⟨rfl,hr3,hf3⟩
 have HR3:=hide hr3
 have HF3:=hide (HF2.out.trans hf3 fun _ _ e=>e)
 clear hr3 hf3 HR2 HF2 H3
 go_wp2_with fail
 refine (unhide H4 _ HR3.out HF3.out).mono ?_
 rintro e w4 ⟨av,cv,rfl,⟨⟨u,hu⟩,hfz⟩,hl4⟩
 have HL:=hide hl4
 clear hl4 HR3 HF3 H4
 go_wp2
 go_end0
 exact ⟨rfl,HL.out⟩
theorem byte_shift (x:Int) (j:Nat) (hj:j<8):x / 2^(56-8*j)%256=byteAt x (56-8*j):=by
 unfold byteAt
 rcases (show j=0∨j=1∨j=2∨j=3∨j=4∨j=5∨j=6∨j=7 by omega) with rfl | rfl | rfl | rfl | rfl | rfl | rfl | rfl<;>simp<;>omega
set_option maxRecDepth 100000 in
set_option maxHeartbeats 2000000 in
theorem refEight_calls {B:Nat} {w:World} {v:Value} {s:List Int} (x:Int) (hB:B≤w.heap.size) (hs:SvAt B w v s) (hlen:s.length+8≤70368744177664) :
  Calls Tryz.prog 74 #[v,.int .i64 x] w fun e w'=>∃ v',e=.returned v'∧Wrote B w v (s++eightB x) v' w':=by
 obtain ⟨i0,hi,hz0,hz1,hz2⟩:=info_parts Tryz.infoU8
 have HS:Hid (Wrote B w v (s++(eightB x).take 0) v w):=⟨by simpa using hs,Fr.refl _ _,fun g hg=>Or.inl hg⟩
 clear hs
 go_enter Tryz.func74,Tryz.ntmps74
 go_wp2
 go_loopw [0,5] (fun st i wq=>∃ (j:Nat) (v':Value),j≤8∧i=.int .i64 (7-(j:Int))∧v'=st∧Wrote B w v (s++(eightB x).take j) v' wq) (fun _ i _=>(intOf i+1).toNat)
 case atStart=>exact ⟨0,v,Nat.zero_le _,rfl,rfl,HS.out⟩
 case round=>
  clear HS
  obtain ⟨j,v2,hj,rfl,rfl,hwr⟩:=hrel
  have HW:=hide hwr
  by_cases hj8:j<8
  ·have hge:decide ((0:Int)≤7-(j:Int))=true:=by simp;omega
   have hj0:(0:Int)≤7-(j:Int):=by omega
   have wr1:wrap64 (8*(7-(j:Int)))=((56-8*j:Nat):Int):=by unfold wrap64;omega
   have hs0:(0:Int)≤((56-8*j:Nat):Int):=by omega
   have HBs:Hid (x / 2^(8*(7-j))%256=byteAt x (56-8*j)):=by
    have:=byte_shift x j hj8
    rw [show 56-8*j=8*(7-j) by omega] at this ⊢
    exact this
   have HO:Hid (wr.ownsRow B 5 1 v2 (s++(eightB x).take j).length (byteRow (s++(eightB x).take j))):=hwr.at'
   have hsz:B≤wr.heap.size:=Nat.le_trans hB hwr.fr.size
   have hsl2:(s++(eightB x).take j).length≤70368744177664:=by
    rw [List.length_append,List.length_take,eightB_length];omega
   obtain ⟨a2,cap2,hv2⟩:=own_slice hwr.at'
   clear hwr
   generalize hsn:(s++(eightB x).take j).length=n at *
   have HSN:=hide hsn
   clear hsn
   have h63:n+1≤maxLen:=by unfold maxLen;omega
   have hbytes:(n+1)*1≤140737488355328:=by omega
   subst hv2
   go_wp2_with (at_builtin;refine wpList_append_lies _ rfl (.tmp 10) (.tmp 16) 100 rfl B 5 i0 (.int .u8 0) 1 1 Tryz.underlying100 hi hz0 hz1 hz2 rfl (by decide) (.slice a2 n cap2) n (byteRow (s++(eightB x).take j)) rfl (HO.out.alloc _) ⟨wr.heap.size,0,none⟩ 1 1 [.int .u8 (x / 2^(8*(7-j))%256)] rfl rfl ?c1 ?c2 (by decide) h63 hbytes (by simp;omega) (wr.heap.size+1) (by simp) ?_)
   case c1=>exact cell_one_new _ _ _
   case c2=>intro u hu;simp at hu;subst hu;rfl
   intro g gcap w1 hown hgrow hor hglt
   have HN:Hid (Wrote B w v (s++(eightB x).take (j+1)) (.slice (some ⟨g,0,none⟩) (n+1) gcap) w1):=by
    refine ⟨?_,(HW.out.fr.alloc _).grown hgrow fun y hy=>?_,fun y hy=>?_⟩
    ·unfold SvAt
     rw [eightB_take_succ x j hj8, ← List.append_assoc,List.length_append,HSN.out,byteRow_snoc, ← HBs.out]
     exact hown
    ·rcases HW.out.own y hy with h1 | h1
     ·exact Or.inr h1
     ·exact Or.inl h1
    ·have hyg:g=y:=by simpa [Value.ownBlock] using hy
     subst hyg
     rcases hor with h1 | h1
     ·exact HW.out.own g h1
     ·exact Or.inr (by have:=HW.out.fr.size;omega)
   clear hown hgrow hor HO HW
   go_wp2
   go_roundw
   case rel=>exact ⟨j+1,_,by omega,by go_num,rfl,HN.out⟩
   case measure=>simp [intOf];omega
  ·have hj8':j=8:=by omega
   subst hj8'
   have HN:Hid (Wrote B w v (s++eightB x) v2 wr):=by
    have e8:(eightB x).take 8=eightB x:=List.take_of_length_le (by rw [eightB_length];exact Nat.le_refl _)
    have:=hwr
    rw [e8] at this
    exact this
   clear hwr HW
   go_wp2
   go_ret
   exact ⟨_,rfl,HN.out⟩
end Go.Proofs.YthfdgdfnflilfaaGreatDoor

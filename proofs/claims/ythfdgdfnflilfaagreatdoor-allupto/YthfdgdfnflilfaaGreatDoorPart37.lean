/- Part 37: LoadH, LoadI, LoadJ, LoadK. -/
import Derived.LaidEql
import Derived.Test.YthfdgdfnflilfaaGreatDoorPart26
import Derived.Test.YthfdgdfnflilfaaGreatDoorPart30
import Derived.Test.YthfdgdfnflilfaaGreatDoorPart34
namespace Go.Proofs.YthfdgdfnflilfaaGreatDoor
open Go.RowKit Go.Conc
variable {rs:List Int}
theorem within_any {B:Nat} {w:World} {rb:Nat} {l:List Int} {a:TypeId×Addr} (h:RdAt rs B w rb l) (hx:∀ x∈l,Fits64 x) (hB:B≤w.heap.size) (hB0:0<B) (he:ErrAt w a) (least most:Int) :
  Calls Tryz.prog 104 #[.pointer (some ⟨rb,0,none⟩),.int .i64 least,.int .i64 most] w fun e w'=>(∃ x l',l=x::l'∧(least≤x∧x≤most)∧e=.returned (.int .i64 x)∧RdAt rs B w' rb l'∧Fr (fun y=>y=rb) w w')∨(e=gave a∧Below B w w'):=by
 by_cases hin:∃ x l',l=x::l'∧(least≤x∧x≤most)
 ·obtain ⟨x,l',rfl,h1,h2⟩:=hin
  exact (within_calls h (hx x (by simp)) least most h1 h2).mono fun e w' ⟨q1,q2,q3⟩=>Or.inl ⟨x,l',rfl,⟨h1,h2⟩,q1,q2,q3⟩
 ·refine (within_gives h hx hB hB0 he least most fun x l' e=>?_).mono fun e w' q=>Or.inr q
  by_cases h0:x<least
  ·exact Or.inl h0
  ·by_cases h1:most<x
   ·exact Or.inr h1
   ·exact absurd ⟨x,l',e,by omega,by omega⟩ hin
theorem count_any {B:Nat} {w:World} {rb:Nat} {l:List Int} {a:TypeId×Addr} (h:RdAt rs B w rb l) (hx:∀ x∈l,Fits64 x) (hB:B≤w.heap.size) (hB0:0<B) (he:ErrAt w a) :
  Calls Tryz.prog 109 #[.pointer (some ⟨rb,0,none⟩)] w fun e w'=>(∃ x l',l=x::l'∧(0≤x∧x≤l'.length)∧e=.returned (.int .i64 x)∧RdAt rs B w' rb l'∧Fr (fun y=>y=rb) w w')∨(e=gave a∧Below B w w'):=by
 by_cases hin:∃ x l',l=x::l'∧(0≤x∧x≤(l'.length:Int))
 ·obtain ⟨x,l',rfl,h1,h2⟩:=hin
  exact (count_calls h (hx x (by simp)) h1 h2).mono fun e w' ⟨q1,q2,q3⟩=>Or.inl ⟨x,l',rfl,⟨h1,h2⟩,q1,q2,q3⟩
 ·refine (count_gives h hx hB hB0 he fun x l' e=>?_).mono fun e w' q=>Or.inr q
  by_cases h0:x<0
  ·exact Or.inl h0
  ·by_cases h1:(l'.length:Int)<x
   ·exact Or.inr h1
   ·exact absurd ⟨x,l',e,by omega,by omega⟩ hin
set_option maxRecDepth 100000 in
set_option maxHeartbeats 4000000 in
theorem sloadUnread_gives {B:Nat} {w:World} {b rb:Nat} {vw:Value} {m0:Sm} {l:List Int} {a:TypeId×Addr} (h:StAt w b vw none false m0) (hr:RdAt rs B w rb l) (hx:∀ x∈l,Fits64 x) (hB:B≤w.heap.size) (hB0:0<B) (he:ErrAt w a) (hro:m0.room≤40) (hno:getS false false m0 l=none) :
  Calls Tryz.prog 106 #[.pointer (some ⟨b,0,none⟩),.pointer (some ⟨rb,0,none⟩)] w fun e w'=>e=gave a∧Below B w w':=by
 have c4:w.cell? ⟨b,4,none⟩=some (.int .i64 (m0.room:Int)):=row_cell h.blk rfl
 have hne:b≠rb:=(h.rd hr (Fr.refl _ _)).2
 have hb:=lt_of_blk h.blk
 by_cases hin:∃ l1,l=(m0.room:Int)::l1
 ·obtain ⟨l1,rfl⟩:=hin
  have hx1:∀ x∈l1,Fits64 x:=fun x h=>hx x (by simp [h])
  have H1:Hid (∀ q,Calls Tryz.prog 104 #[.pointer (some ⟨rb,0,none⟩),.int .i64 m0.room,.int .i64 m0.room] (w.drewN q) fun e w'=>e=.returned (.int .i64 m0.room)∧(RdAt rs B w' rb l1∧Below B w w'∧ErrAt w' a)∧w'.cell? ⟨b,4,none⟩=some (.int .i64 (m0.room:Int))):=fun q=>by
   refine (within_calls (w:=w.drewN q) (hr.keep (below_drewN (Below.refl _ _) q) rfl) ⟨by omega,by omega⟩ _ _ (Int.le_refl _) (Int.le_refl _)).mono fun e w' ⟨q1,q2,q3⟩=>⟨q1,?_,?_⟩
   ·have hb':=hr.fr_below hB (⟨q3.os,q3.tape,q3.output,q3.size,q3.block⟩:Fr (fun y=>y=rb) w w')
    exact ⟨q2,hb',he.below hb' hB0⟩
   ·rw [← c4];exact World.cell?_of_block (w:=w) (q3.block b hb hne)
  have H2:Hid (∀ wx,RdAt rs B wx rb l1→Below B w wx→ErrAt wx a→Calls Tryz.prog 104 #[.pointer (some ⟨rb,0,none⟩),.int .i64 0,.int .i64 0] wx fun e w'=>(∃ l2,l1=0::l2∧e=.returned (.int .i64 0)∧RdAt rs B w' rb l2∧Below B w w'∧ErrAt w' a)∨(e=gave a∧Below B w w')):=fun wx k1 k2 k3=>by
   refine (within_any k1 hx1 (Nat.le_trans hB k2.size) hB0 k3 0 0).mono fun e w' q=>?_
   rcases q with ⟨x,l',q1,q2,q3,q4,q5⟩ | ⟨q1,q2⟩
   ·have hx0:x=0:=by omega
    subst hx0
    have hb':=k1.fr_below (Nat.le_trans hB k2.size) q5
    exact Or.inl ⟨l',q1,q3,q4,k2.trans hb',k3.below hb' hB0⟩
   ·exact Or.inr ⟨q1,k2.trans q2⟩
  have H3:Hid (∀ wx l2,l1=0::l2→RdAt rs B wx rb l2→Below B w wx→ErrAt wx a→Calls Tryz.prog 109 #[.pointer (some ⟨rb,0,none⟩)] wx fun e w'=>e=gave a∧Below B w w'):=fun wx l2 e2 k1 k2 k3=>by
   subst e2
   refine (count_gives k1 (fun x h=>hx1 x (by simp [h])) (Nat.le_trans hB k2.size) hB0 k3 fun x l' e=>?_).mono fun e w' ⟨q1,q2⟩=>⟨q1,k2.trans q2⟩
   subst e
   simp only [getS,Bool.false_eq_true,if_false] at hno
   split at hno
   ·cases hno
   ·rename_i hc
    by_cases h0:x<0
    ·exact Or.inl h0
    ·by_cases h1:(l'.length:Int)<x
     ·exact Or.inr h1
     ·refine absurd ?_ hc
      simp
      omega
  clear h hr hx hno hx1 he
  generalize (m0.room:Int)=mr at *
  go_enter Tryz.func106,Tryz.ntmps106
  go_wp2
  go_region_held3 (fun w'=>w'.cell? ⟨b,4,none⟩=some (.int .i64 mr)) (go_keep)
   ((go_at_call 104;refine (unhide H1 _).mono ?_;rintro e w1 ⟨rfl,⟨hr1,hf1,he1⟩,s1⟩;have HR1:=hide hr1;have HF1:=hide hf1;have HE1:=hide he1;clear hr1 hf1 he1))
  go_wp2_with fail
  refine (unhide H2 _ HR1.out HF1.out HE1.out).mono ?_
  rintro e w2 (⟨l2,e2,rfl,hr2,hf2,he2⟩ | ⟨rfl,hb2⟩)
  ·have H31:=hide (H3.out w2 l2 e2 hr2 hf2 he2)
   clear e2 hr2 hf2 he2 HR1 HF1 HE1 H1 H2 H3
   go_wp2_with fail
   refine (unhide H31).mono ?_
   rintro e w3 ⟨rfl,hb3⟩
   exact ⟨rfl,rfl,hb3⟩
  ·exact ⟨rfl,rfl,hb2⟩
 ·have H1:Hid (∀ q,Calls Tryz.prog 104 #[.pointer (some ⟨rb,0,none⟩),.int .i64 m0.room,.int .i64 m0.room] (w.drewN q) fun e w'=>e=gave a∧Below B w w'):=fun q=>by
   refine (within_gives (w:=w.drewN q) (hr.keep (below_drewN (Below.refl _ _) q) rfl) hx hB hB0 ⟨he.cell,he.ty⟩ _ _ fun x l' e=>?_).mono fun e w' ⟨q1,q2⟩=>⟨q1,⟨q2.os,q2.tape,q2.output,q2.size,q2.block⟩⟩
   by_cases h0:x<(m0.room:Int)
   ·exact Or.inl h0
   ·by_cases h1:(m0.room:Int)<x
    ·exact Or.inr h1
    ·have:x=m0.room:=by omega
     subst this
     exact absurd ⟨l',e⟩ hin
  clear h hr hx hno he hin
  generalize (m0.room:Int)=mr at *
  go_enter Tryz.func106,Tryz.ntmps106
  go_wp2
  refine wp_region_held_drew (S:=fun w'=>w'.cell? ⟨b,4,none⟩=some (.int .i64 mr)) (by kernel_rfl) c4 (fun hHeld=>?_)
  refine wpAnyH_take (i:=0) (v:=?v0) rfl (by kernel_rfl) (by kernel_rfl) (by kernel_rfl) (fun _ _ _ h=>h) (Or.inl ⟨by rfl,?hy0⟩) (by assumption) ?r0
  case hy0=>intro w' hSw;go_simp;try with_reducible rfl
  refine wpAnyH_take (i:=1) (v:=?v1) rfl (by kernel_rfl) (by kernel_rfl) (by kernel_rfl) (fun _ _ _ h=>h) (Or.inl ⟨by rfl,?hy1⟩) (by assumption) ?r1
  case hy1=>intro w' hSw;go_simp;try with_reducible rfl
  refine wpAnyH_take (i:=2) (v:=?v2) rfl (by kernel_rfl) (by kernel_rfl) (by kernel_rfl) (fun _ _ _ h=>h) (Or.inl ⟨by rfl,?hy2⟩) (by assumption) ?r2
  case hy2=>intro w' hSw;go_simp;try with_reducible rfl
  refine wpAnyH_take (i:=3) (v:=?v3) rfl (by kernel_rfl) (by kernel_rfl) (by kernel_rfl) (fun _ _ _ h=>h) (Or.inl ⟨by rfl,?hy3⟩) (by assumption) ?r3
  case hy3=>intro w' hSw;go_simp;try with_reducible rfl
  refine wpAnyH_take (i:=4) (v:=?v4) rfl (by kernel_rfl) (by kernel_rfl) (by kernel_rfl) (fun _ _ _ h=>h) (Or.inl ⟨by rfl,?hy4⟩) (by assumption) ?r4
  case hy4=>intro w' hSw;go_simp;try with_reducible rfl
  refine wpAnyH_take (i:=5) (v:=?v5) rfl (by kernel_rfl) (by kernel_rfl) (by kernel_rfl) (fun _ _ _ h=>h) (Or.inl ⟨by rfl,?hy5⟩) (by assumption) ?r5
  case hy5=>intro w' hSw;go_simp;try with_reducible rfl
  refine wpAnyH_take (i:=6) (v:=?v6) rfl (by kernel_rfl) (by kernel_rfl) (by kernel_rfl) (fun _ _ _ h=>h) (Or.inl ⟨by rfl,?hy6⟩) (by assumption) ?r6
  case hy6=>intro w' hSw;go_simp;try with_reducible rfl
  refine wpAnyH_take (i:=7) (v:=?v7) rfl (by kernel_rfl) (by kernel_rfl) (by kernel_rfl) (fun _ _ _ h=>h) (Or.inl ⟨by rfl,?hy7⟩) (by assumption) ?r7
  case hy7=>intro w' hSw;go_simp;try with_reducible rfl
  refine wpAnyH_take (i:=8) (v:=?v8) rfl (by kernel_rfl) (by kernel_rfl) (by kernel_rfl) (fun _ _ _ h=>h) (Or.inl ⟨by rfl,?hy8⟩) (by assumption) ?r8
  case hy8=>intro w' hSw;go_simp;try with_reducible rfl
  refine wpAnyH_ready (rs:=[9]) (by kernel_rfl) (by simp) (AllReadyH.cons rfl (fun K' hK=>?_) AllReadyH.nil)
  go_simp
  refine (unhide H1 1).mono ?_
  rintro e w2 ⟨rfl,hb⟩
  exact ⟨rfl,rfl,hb⟩
set_option maxRecDepth 100000 in
set_option maxHeartbeats 4000000 in
theorem sloadHeld_gives {B:Nat} {w:World} {b rb c:Nat} {vw:Value} {m0:Sm} {l:List Int} {a:TypeId×Addr} (h:StAt w b vw (some c) false m0) (hr:RdAt rs B w rb l) (hx:∀ x∈l,Fits64 x) (hB:B≤w.heap.size) (hB0:0<B) (he:ErrAt w a) (hlen:l.length≤274877907500) (hno:getS false true m0 l=none) :
  Calls Tryz.prog 107 #[.pointer (some ⟨b,0,none⟩),.pointer (some ⟨rb,0,none⟩)] w fun e w'=>e=gave a∧Below B w w':=by
 obtain ⟨c0,c1,c2,c3,cf⟩:=h.cells
 obtain ⟨⟨s0,r0,hc⟩,hcr,hroom0⟩:=h.chan c rfl
 have hcp:=fun ty=>run_cap_chan (P:=Tryz.prog) 109 ty Tryz.underlying109 hc
 have H1:Hid (Calls Tryz.prog 104 #[.pointer (some ⟨rb,0,none⟩),.int .i64 m0.room,.int .i64 40] w fun e w'=>(∃ (x:Nat) (l1:List Int),(l=(x:Int)::l1∧m0.room≤x∧x≤40)∧e=.returned (.int .i64 x)∧RdAt rs B w' rb l1∧Below B w w'∧ErrAt w' a)∨(e=gave a∧Below B w w')):=by
  refine (within_any hr hx hB hB0 he _ _).mono fun e w' q=>?_
  rcases q with ⟨x,l',q1,q2,q3,q4,q5⟩ | q
  ·obtain ⟨xn,rfl⟩:∃ xn:Nat,x=xn:=⟨x.toNat,by omega⟩
   have hb':=hr.fr_below hB q5
   exact Or.inl ⟨xn,l',⟨q1,by omega,by omega⟩,q3,q4,hb',he.below hb' hB0⟩
  ·exact Or.inr q
 have H2:Hid (∀ wx (x:Nat) l1,(l=(x:Int)::l1∧m0.room≤x∧x≤40)→RdAt rs B wx rb l1→Below B w wx→ErrAt wx a→Calls Tryz.prog 109 #[.pointer (some ⟨rb,0,none⟩)] wx fun e w'=>(∃ (y:Nat) (l2:List Int),(l1=(y:Int)::l2∧y≤l2.length)∧e=.returned (.int .i64 y)∧RdAt rs B w' rb l2∧Below B w w'∧ErrAt w' a)∨(e=gave a∧Below B w w')):=fun wx x l1 e1 k1 k2 k3=>by
  refine (count_any k1 (fun y h=>hx y (by rw [e1.1];simp [h])) (Nat.le_trans hB k2.size) hB0 k3).mono fun e w' q=>?_
  rcases q with ⟨y,l',q1,q2,q3,q4,q5⟩ | ⟨q1,q2⟩
  ·obtain ⟨yn,rfl⟩:∃ yn:Nat,y=yn:=⟨y.toNat,by omega⟩
   have hb':=k1.fr_below (Nat.le_trans hB k2.size) q5
   exact Or.inl ⟨yn,l',⟨q1,by omega⟩,q3,q4,k2.trans hb',k3.below hb' hB0⟩
  ·exact Or.inr ⟨q1,k2.trans q2⟩
 have H3:Hid (∀ wx (x y:Nat) l1 l2,(l=(x:Int)::l1∧m0.room≤x∧x≤40)→(l1=(y:Int)::l2∧y≤l2.length)→RdAt rs B wx rb l2→Below B w wx→ErrAt wx a→Calls Tryz.prog 104 #[.pointer (some ⟨rb,0,none⟩),.int .i64 y,.int .i64 ((y:Int)+x)] wx fun e w'=>(∃ (z:Nat) (l3:List Int),(l2=(z:Int)::l3∧y≤z∧z≤y+x)∧e=.returned (.int .i64 z)∧RdAt rs B w' rb l3∧Below B w w'∧ErrAt w' a)∨(e=gave a∧Below B w w')):=fun wx x y l1 l2 e1 e2 k1 k2 k3=>by
  refine (within_any k1 (fun y h=>hx y (by rw [e1.1,e2.1];simp [h])) (Nat.le_trans hB k2.size) hB0 k3 _ _).mono fun e w' q=>?_
  rcases q with ⟨z,l',q1,q2,q3,q4,q5⟩ | ⟨q1,q2⟩
  ·obtain ⟨zn,rfl⟩:∃ zn:Nat,z=zn:=⟨z.toNat,by omega⟩
   have hb':=k1.fr_below (Nat.le_trans hB k2.size) q5
   exact Or.inl ⟨zn,l',⟨q1,by omega,by omega⟩,q3,q4,k2.trans hb',k3.below hb' hB0⟩
  ·exact Or.inr ⟨q1,k2.trans q2⟩
 have H4:Hid (∀ wx (x y z:Nat) l1 l2 l3,(l=(x:Int)::l1∧m0.room≤x∧x≤40)→(l1=(y:Int)::l2∧y≤l2.length)→(l2=(z:Int)::l3∧y≤z∧z≤y+x)→RdAt rs B wx rb l3→Below B w wx→ErrAt wx a→Calls Tryz.prog 108 #[.pointer (some ⟨rb,0,none⟩),.int .i64 z] wx fun e w'=>e=gave a∧Below B w w'):=fun wx x y z l1 l2 l3 e1 e2 e3 k1 k2 k3=>by
  obtain ⟨rfl,e1,e1'⟩:=e1
  obtain ⟨rfl,e2⟩:=e2
  obtain ⟨rfl,e3,e3'⟩:=e3
  refine (numbers_gives k1 (fun y h=>hx y (by simp [h])) (Nat.le_trans hB k2.size) hB0 k3 z (Nat.lt_of_not_le fun hle=>?_) ?_).mono fun e w' ⟨q1,q2⟩=>⟨q1,k2.trans q2⟩
  ·simp only [getS,Bool.false_eq_true,if_false] at hno
   split at hno
   ·cases hno
   ·rename_i hc
    exact hc ⟨⟨by omega,by omega,by omega,by omega⟩,⟨by omega,by omega⟩,(fun e=>by cases e),fun _=>by omega⟩
  ·simp only [List.length_cons] at hlen e2;omega
 have HL:Hid (∀ (x y:Nat) l1 l2,(l=(x:Int)::l1∧m0.room≤x∧x≤40)→(l1=(y:Int)::l2∧y≤l2.length)→wrap64 ((y:Int)+x)=y+x):=fun x y l1 l2 e1 e2=>by
  have h1:=e1.2.2
  have h2:=e2.2
  have h3:=congrArg List.length e1.1
  have h4:=congrArg List.length e2.1
  simp only [List.length_cons] at h3 h4
  unfold wrap64
  omega
 clear h hr hx hno he cf hlen
 go_enter Tryz.func107,Tryz.ntmps107
 go_wp2_with fail
 refine (unhide H1).mono ?_
 rintro e w1 (⟨x,l1,e1,rfl,hr1,hf1,he1⟩ | ⟨rfl,hb1⟩)
 rotate_left
 ·exact ⟨rfl,rfl,hb1⟩
 have H21:=hide (H2.out w1 x l1 e1 hr1 hf1 he1)
 have HE1:=hide e1
 clear e1 hr1 hf1 he1 H1 H2
 go_wp2_with fail
 refine (unhide H21).mono ?_
 rintro e w2 (⟨y,l2,e2,rfl,hr2,hf2,he2⟩ | ⟨rfl,hb2⟩)
 rotate_left
 ·exact ⟨rfl,rfl,hb2⟩
 have H31:=hide (H3.out w2 x y l1 l2 HE1.out e2 hr2 hf2 he2)
 have hwr:=HL.out x y l1 l2 HE1.out e2
 have HE2:=hide e2
 clear e2 hr2 hf2 he2 H21 H3 HL
 go_wp2_with fail
 refine (unhide H31).mono ?_
 rintro e w3 (⟨z,l3,e3,rfl,hr3,hf3,he3⟩ | ⟨rfl,hb3⟩)
 rotate_left
 ·exact ⟨rfl,rfl,hb3⟩
 have H41:=hide (H4.out w3 x y z l1 l2 l3 HE1.out HE2.out e3 hr3 hf3 he3)
 clear e3 hr3 hf3 he3 H31 H4 HE1 HE2
 go_wp2_with fail
 refine (unhide H41).mono ?_
 rintro e w4 ⟨rfl,hb4⟩
 exact ⟨rfl,rfl,hb4⟩
set_option maxRecDepth 100000 in
set_option maxHeartbeats 2000000 in
theorem sload_gives {B:Nat} {w:World} {b rb:Nat} {vw:Value} {ch:Option Nat} {sourced used:Bool} {m0:Sm} {l:List Int} {a:TypeId×Addr} (h:StAt w b vw ch sourced m0) (hu:sourced=false→used=ch.isSome) (hr:RdAt rs B w rb l) (hx:∀ x∈l,Fits64 x) (hB:B≤w.heap.size) (hB0:0<B) (he:ErrAt w a) (hro:m0.room≤40) (hlen:l.length≤274877907500) (hno:getS sourced used m0 l=none) :
  Calls Tryz.prog 101 #[.pointer (some ⟨b,0,none⟩),.pointer (some ⟨rb,0,none⟩)] w fun e w'=>e=gave a∧Below B w w':=by
 obtain ⟨c0,c1,c2,c3,cf⟩:=h.cells
 cases sourced with
 | true=>
  obtain ⟨aw,capw,hvw, -, -⟩:=own_form h.own
  have HP:=hide (within_gives hr hx hB hB0 he 0 (m0.words.length:Int) fun x l' e=>by
   subst e
   simp only [getS,if_true] at hno
   split at hno
   ·cases hno
   ·omega)
  clear h hr hx hno he cf
  subst hvw
  generalize m0.words.length=ml at *
  go_enter Tryz.func101,Tryz.ntmps101
  go_wp2_with fail
  refine (unhide HP).mono ?_
  rintro e w1 ⟨rfl,hb⟩
  exact ⟨rfl,rfl,hb⟩
 | false=>
  have hne:=fun (wx:World) (a:Option Nat)=>run_eql_chan_nil (P:=Tryz.prog) wx 109 a Tryz.underlying109
  have hu':=hu rfl
  subst hu'
  cases ch with
  | none=>
   have HU:=hide (sloadUnread_gives h hr hx hB hB0 he hro hno)
   clear h hr hx hno he cf hu
   go_enter Tryz.func101,Tryz.ntmps101
   go_wp2_with fail
   refine (unhide HU).mono ?_
   rintro e w1 ⟨rfl,hb⟩
   exact ⟨rfl,rfl,hb⟩
  | some c=>
   have HU:=hide (sloadHeld_gives h hr hx hB hB0 he hlen hno)
   clear h hr hx hno he cf hu
   go_enter Tryz.func101,Tryz.ntmps101
   go_wp2_with fail
   refine (unhide HU).mono ?_
   rintro e w1 ⟨rfl,hb⟩
   exact ⟨rfl,rfl,hb⟩
variable {rs:List Int}
theorem wkfits {y:Wk} (h:FitsA y):FitsW y:=⟨fun i _=>h.r i,h.steps⟩
theorem loadingW {B p rb k ga ca gw cw:Nat} {w wr:World} {N:Net} {R:Rc} {l:List Int} {a:TypeId×Addr} (hk:k<N.workers.length) (hx:∀ x∈l,Fits64 x) (hB0:0<B) (he:ErrAt w a) (h:Loading rs B p ga ca gw cw w N R rb l wr) :
  ∃ pk,Calls Tryz.prog 100 #[.pointer (some ⟨pk,0,none⟩),.pointer (some ⟨rb,0,none⟩)] wr (fun e w'=>(∃ y l',getW (codeOf N k).length l=some (y,l')∧e=.returned (.tuple #[])∧Loading rs B p ga ca gw cw w N ⟨R.W.set k y,R.S⟩ rb l' w')∨(getW (codeOf N k).length l=none∧e=gave a∧Below B w w'))∧wr.cell? ⟨gw,k,none⟩=some (.pointer (some ⟨pk,0,none⟩)):=by
 obtain ⟨L,⟨rfl,hvS,hvW⟩,hra,hfo,hrd,hbe,hsz⟩:=h
 obtain ⟨g,cap,hv,cs,hg,hcs⟩:=hra.rowW
 rw [hvW] at hv
 cases hv
 refine ⟨L.wb k,?_,row_cell hg (hcs k hk)⟩
 have hbB:=hfo _ (foot_w hk)
 cases hgw:getW (codeOf N k).length l with
 | none=>exact (wload_gives (hra.wk k hk) hrd hx hbB hsz hB0 (he.below hbe hB0) (getW_none hgw)).mono fun e w' ⟨q1,q2⟩=>Or.inr ⟨rfl,q1,hbe.trans q2⟩
 | some yl=>
  obtain ⟨y,l'⟩:=yl
  obtain ⟨rfl,hp,hf⟩:=getW_some hgw
  refine (wload_calls (hra.wk k hk) hrd hbB hsz hp (wkfits (hf hx))).mono fun e w' ⟨q1,q2,q3,q4⟩=>Or.inl ⟨y,l',rfl,q1,?_⟩
  obtain ⟨v,hvb, -⟩:=hrd.blk
  have hb:Below B wr w':=⟨q4.os,q4.tape,q4.output,q4.size,fun z hz=>q4.block z (by omega) fun e=>by rcases e with e | e;omega;have:=hrd.ge;omega⟩
  have hra':=hra.setW hk q2 fun z hz hne=>q4.block z (hra.foot_lt hz) fun e=>e.elim hne fun e=>by subst e;exact hra.not_rd hvb hz
  exact ⟨L,⟨rfl,hvS,hvW⟩,hra',hfo,q3,hbe.trans hb,Nat.le_trans hsz q4.size⟩
theorem loads_of {N:Net} {R:Rc} {s:Nat} {l l':List Int} {m:Sm} (hok:validB N=true) (hs:s<N.streams.length) (hh:Half N R) (hx:∀ x∈l,Fits64 x) (hlen:l.length≤274877906944) (hg:getS (srcd N s) (used N s) (R.s s) l=some (m,l')):LoadsS (srcd N s) (heldB N s) (R.s s) m:=by
 obtain ⟨q1,q2,q3,q4⟩:=getS_some hg
 have hro:=hh.room s hs
 refine ⟨q3,fun e1 e2=>?_,fun e1 e2=>?_,q2,?_,?_⟩
 ·have hu:used N s=false:=by simpa [heldB,e1] using e2
  obtain ⟨k1,k2⟩:=(q4 e1).2.2.2.1 hu
  exact ⟨k2,k1,by omega⟩
 ·have hu:used N s=true:=by simpa [heldB,e1] using e2
  obtain ⟨-,k1,k2, -,k3⟩:=q4 e1
  exact ⟨k1,k2,k3 hu⟩
 ·cases e:srcd N s with
  | true=>rw [(q3 e).1];exact hh.fitsS s hs
  | false=>exact fun x hx'=>hx x ((q4 e).1 x hx')
 ·cases e:srcd N s with
  | true=>have:=srcWords_le hok hs e;rw [(q3 e).1,hh.src s hs e];omega
  | false=>
   have:=congrArg List.length q1
   rw [e] at this
   simp [stNums] at this
   omega
theorem loadingS {B p rb s ga ca gw cw:Nat} {w wr:World} {N:Net} {R:Rc} {l:List Int} {a:TypeId×Addr} (hok:validB N=true) (hs:s<N.streams.length) (hh:Half N R) (hx:∀ x∈l,Fits64 x) (hlen:l.length≤274877906944) (hB0:0<B) (he:ErrAt w a) (h:Loading rs B p ga ca gw cw w N R rb l wr) :
  ∃ pk,Calls Tryz.prog 101 #[.pointer (some ⟨pk,0,none⟩),.pointer (some ⟨rb,0,none⟩)] wr (fun e w'=>(∃ m l',getS (srcd N s) (used N s) (R.s s) l=some (m,l')∧e=.returned (.tuple #[])∧Loading rs B p ga ca gw cw w N ⟨R.W,R.S.set s m⟩ rb l' w')∨(getS (srcd N s) (used N s) (R.s s) l=none∧e=gave a∧Below B w w'))∧wr.cell? ⟨ga,s,none⟩=some (.pointer (some ⟨pk,0,none⟩)):=by
 obtain ⟨L,⟨rfl,hvS,hvW⟩,hra,hfo,hrd,hbe,hsz⟩:=h
 obtain ⟨g,cap,hv,cs,hg,hcs⟩:=hra.env.along.form
 rw [hvS] at hv
 cases hv
 refine ⟨L.st s,?_,row_cell hg (hcs s hs)⟩
 have hbB:=hfo _ (foot_s hs)
 have hst:=hra.env.at' s hs
 cases hgs:getS (srcd N s) (used N s) (R.s s) l with
 | none=>
  refine (sload_gives hst (fun e=>?_) hrd hx hsz hB0 (he.below hbe hB0) (hh.room s hs) (by omega) hgs).mono fun e w' ⟨q1,q2⟩=>Or.inr ⟨rfl,q1,hbe.trans q2⟩
  rw [hra.ch_iff hs];simp [heldB,e]
 | some ml=>
  obtain ⟨m,l'⟩:=ml
  have hls:=loads_of hok hs hh hx hlen hgs
  rw [← hra.ch_iff hs] at hls
  rw [(getS_some hgs).1] at hrd
  refine (sload_calls hst hrd hbB hsz hls).mono fun e w' ⟨q1,vw',ch',a1,a2,a3,a4,a5,a6⟩=>Or.inl ⟨m,l',rfl,q1,?_⟩
  obtain ⟨v,hvb, -⟩:=hrd.blk
  have hb:Below B wr w':=⟨a6.os,a6.tape,a6.output,a6.size,fun z hz=>a6.block z (by omega) fun e=>by rcases e with e | e;omega;have:=hrd.ge;omega⟩
  have hra':=hra.setS hs a1 a2 a3 a4 fun z hz hne=>a6.block z (hra.foot_lt hz) fun e=>e.elim hne fun e=>by subst e;exact hra.not_rd hvb hz
  refine ⟨{ L with VW:=fun t=>if t=s then vw' else L.VW t,CH:=fun t=>if t=s then ch' else L.CH t},⟨rfl,hvS,hvW⟩,hra',fun z hz=>?_,a5,hbe.trans hb,Nat.le_trans hsz a6.size⟩
  rcases hz with hz | hz | hz | ⟨t,ht,hz⟩ | hz
  ·exact hfo z (Or.inl hz)
  ·exact hfo z (Or.inr (Or.inl hz))
  ·exact hfo z (Or.inr (Or.inr (Or.inl hz)))
  ·dsimp only at hz
   by_cases et:t=s
   ·subst et
    rw [if_pos rfl,if_pos rfl] at hz
    rcases hz with hz | hz | hz
    ·rw [hz];exact hbB
    ·rcases a2 z hz with h1 | h1
     ·exact hfo z (Or.inr (Or.inr (Or.inr (Or.inl ⟨t,ht,Or.inr (Or.inl h1)⟩))))
     ·omega
    ·rcases a3 z hz with h1 | h1
     ·exact hfo z (Or.inr (Or.inr (Or.inr (Or.inl ⟨t,ht,Or.inr (Or.inr h1)⟩))))
     ·omega
   ·rw [if_neg et,if_neg et] at hz
    exact hfo z (Or.inr (Or.inr (Or.inr (Or.inl ⟨t,ht,hz⟩))))
  ·exact hfo z (Or.inr (Or.inr (Or.inr (Or.inr hz))))
structure AtW (rs:List Int) (B p ga ca gw cw:Nat) (w:World) (N:Net) (rb:Nat) (X:Option (Rc×List Int)) (k:Nat) (wr:World):Prop where
 ex:∃ R l,Loading rs B p ga ca gw cw w N R rb l wr∧Half N R∧(∀ x∈l,Fits64 x)∧l.length≤274877906944∧((parseW N (N.workers.length-k) R l).bind fun q=>parseS N N.streams.length q.1 q.2)=X
structure AtS (rs:List Int) (B p ga ca gw cw:Nat) (w:World) (N:Net) (rb:Nat) (X:Option (Rc×List Int)) (k:Nat) (wr:World):Prop where
 ex:∃ R l,Loading rs B p ga ca gw cw w N R rb l wr∧Half N R∧(∀ x∈l,Fits64 x)∧l.length≤274877906944∧parseS N (N.streams.length-k) R l=X
section
variable {B p rb ga ca gw cw:Nat} {w wr:World} {N:Net} {X:Option (Rc×List Int)} {a:TypeId×Addr}
theorem AtW.step {k:Nat} (h:AtW rs B p ga ca gw cw w N rb X k wr) (hk:k<N.workers.length) (hB0:0<B) (he:ErrAt w a) :
  ∃ pk,Calls Tryz.prog 100 #[.pointer (some ⟨pk,0,none⟩),.pointer (some ⟨rb,0,none⟩)] wr (fun e w'=>(e=.returned (.tuple #[])∧AtW rs B p ga ca gw cw w N rb X (k+1) w')∨(X=none∧e=gave a∧Below B w w'))∧wr.cell? ⟨gw,k,none⟩=some (.pointer (some ⟨pk,0,none⟩)):=by
 obtain ⟨R,l,h1,h2,h3,h4,h5⟩:=h.ex
 obtain ⟨pk,q1,q2⟩:=loadingW hk h3 hB0 he h1
 refine ⟨pk,q1.mono fun e w' q=>?_,q2⟩
 rw [parseW_at hk] at h5
 rcases q with ⟨y,l',r1,r2,r3⟩ | ⟨r1,r2,r3⟩
 ·obtain ⟨e1,e2,e3⟩:=getW_some r1
  refine Or.inl ⟨r2,⟨_,_,r3,h2.setW hk (e3 h3),fun x hx=>h3 x (by rw [e1];exact List.mem_append_right _ hx),?_,?_⟩⟩
  ·have:=congrArg List.length e1;rw [List.length_append] at this;omega
  ·rw [r1] at h5;exact h5
 ·rw [r1] at h5
  exact Or.inr ⟨h5.symm,r2,r3⟩
theorem AtS.step {k:Nat} (h:AtS rs B p ga ca gw cw w N rb X k wr) (hok:validB N=true) (hk:k<N.streams.length) (hB0:0<B) (he:ErrAt w a) :
  ∃ pk,Calls Tryz.prog 101 #[.pointer (some ⟨pk,0,none⟩),.pointer (some ⟨rb,0,none⟩)] wr (fun e w'=>(e=.returned (.tuple #[])∧AtS rs B p ga ca gw cw w N rb X (k+1) w')∨(X=none∧e=gave a∧Below B w w'))∧wr.cell? ⟨ga,k,none⟩=some (.pointer (some ⟨pk,0,none⟩)):=by
 obtain ⟨R,l,h1,h2,h3,h4,h5⟩:=h.ex
 obtain ⟨pk,q1,q2⟩:=loadingS hok hk h2 h3 h4 hB0 he h1
 refine ⟨pk,q1.mono fun e w' q=>?_,q2⟩
 rw [parseS_at hk] at h5
 rcases q with ⟨y,l',r1,r2,r3⟩ | ⟨r1,r2,r3⟩
 ·obtain ⟨e1, -⟩:=getS_some r1
  refine Or.inl ⟨r2,⟨_,_,r3,h2.setS hk h3 r1,fun x hx=>h3 x (by rw [e1];exact List.mem_append_right _ hx),?_,?_⟩⟩
  ·have:=congrArg List.length e1;rw [List.length_append] at this;omega
  ·rw [r1] at h5;exact h5
 ·rw [r1] at h5
  exact Or.inr ⟨h5.symm,r2,r3⟩
set_option maxRecDepth 100000 in
set_option maxHeartbeats 2000000 in
theorem rload_any (hok:validB N=true) (hB0:0<B) (he:ErrAt w a) (h:AtW rs B p ga ca gw cw w N rb X 0 w) :
  Calls Tryz.prog 90 #[.pointer (some ⟨p,0,none⟩),.pointer (some ⟨rb,0,none⟩)] w fun e w'=>(∃ R l,X=some (R,l)∧e=.returned (.tuple #[])∧Loading rs B p ga ca gw cw w N R rb l w')∨(X=none∧e=gave a∧Below B w w'):=by
 obtain ⟨hs1,hs8,hw1,hw6⟩:=valid_counts hok
 have HC:Hid (∀ R' l' wx,Loading rs B p ga ca gw cw w N R' rb l' wx→wx.cell? ⟨p,0,none⟩=some (.slice (some ⟨ga,0,none⟩) N.streams.length ca)∧wx.cell? ⟨p,1,none⟩=some (.slice (some ⟨gw,0,none⟩) N.workers.length cw)):=fun R' l' wx hx=>by
  obtain ⟨L,⟨rfl,hvS,hvW⟩,hra, -⟩:=hx
  exact ⟨by rw [← hvS];exact hra.cells.1,by rw [← hvW];exact hra.cells.2⟩
 have H0:=hide h
 have HW:Hid (∀ k,k<N.workers.length→∀ wx,AtW rs B p ga ca gw cw w N rb X k wx→∃ pk,Calls Tryz.prog 100 #[.pointer (some ⟨pk,0,none⟩),.pointer (some ⟨rb,0,none⟩)] wx (fun e w'=>(e=.returned (.tuple #[])∧AtW rs B p ga ca gw cw w N rb X (k+1) w')∨(X=none∧e=gave a∧Below B w w'))∧wx.cell? ⟨gw,k,none⟩=some (.pointer (some ⟨pk,0,none⟩))):=fun k hk wx hx=>hx.step hk hB0 he
 have HS:Hid (∀ k,k<N.streams.length→∀ wx,AtS rs B p ga ca gw cw w N rb X k wx→∃ pk,Calls Tryz.prog 101 #[.pointer (some ⟨pk,0,none⟩),.pointer (some ⟨rb,0,none⟩)] wx (fun e w'=>(e=.returned (.tuple #[])∧AtS rs B p ga ca gw cw w N rb X (k+1) w')∨(X=none∧e=gave a∧Below B w w'))∧wx.cell? ⟨ga,k,none⟩=some (.pointer (some ⟨pk,0,none⟩))):=fun k hk wx hx=>hx.step hok hk hB0 he
 have HCW:Hid (∀ k wx,AtW rs B p ga ca gw cw w N rb X k wx→wx.cell? ⟨p,0,none⟩=some (.slice (some ⟨ga,0,none⟩) N.streams.length ca)∧wx.cell? ⟨p,1,none⟩=some (.slice (some ⟨gw,0,none⟩) N.workers.length cw)):=fun k wx hx=>let ⟨_,_,h1,_⟩:=hx.ex; HC.out _ _ _ h1
 have HM:Hid (∀ wx,AtW rs B p ga ca gw cw w N rb X N.workers.length wx→AtS rs B p ga ca gw cw w N rb X 0 wx):=fun wx hx=>by
  obtain ⟨R,l,h1,h2,h3,h4,h5⟩:=hx.ex
  rw [Nat.sub_self] at h5
  exact ⟨R,l,h1,h2,h3,h4,h5⟩
 have HE:Hid (∀ wx,AtS rs B p ga ca gw cw w N rb X N.streams.length wx→∃ R l,X=some (R,l)∧Loading rs B p ga ca gw cw w N R rb l wx):=fun wx hx=>by
  obtain ⟨R,l,h1,h2,h3,h4,h5⟩:=hx.ex
  rw [Nat.sub_self] at h5
  exact ⟨R,l,h5.symm,h1⟩
 clear h hok he HC
 generalize N.workers.length=wl at *
 generalize N.streams.length=sl at *
 obtain ⟨c0,c1⟩:=HCW.out _ _ H0.out
 go_enter Tryz.func90,Tryz.ntmps90
 go_wp2
 go_loopw [13] (fun i wr=>∃ k:Nat,k≤wl∧i=.int .i64 k∧AtW rs B p ga ca gw cw w N rb X k wr) (fun i _=>wl-(intOf i).toNat)
 case atStart=>exact ⟨0,Nat.zero_le _,rfl,H0.out⟩
 case round=>
  clear H0 c0 c1
  obtain ⟨k,hk,rfl,hld⟩:=hrel
  by_cases hlt:k<wl
  ·obtain ⟨pk,hcall,d0⟩:=HW.out k hlt wr hld
   have HCa:=hide hcall
   have hk0:(0:Int)≤(k:Int):=by omega
   have hk1:(k:Int)<(wl:Int):=by omega
   clear hcall hld HW HS HM HE HCW
   go_wp2_with fail
   refine (unhide HCa).mono ?_
   rintro e w1 (⟨rfl,h1⟩ | ⟨hX,rfl,hb⟩)
   ·have H1:=hide h1
    clear h1 HCa
    go_wp2
    go_roundw
    case rel=>exact ⟨k+1,by omega,by go_num,H1.out⟩
    case measure=>simp [intOf];omega
   ·exact ⟨rfl,Or.inr ⟨hX,rfl,hb⟩⟩
  ·have hkl:k=wl:=by omega
   subst hkl
   obtain ⟨c0,c1⟩:=HCW.out _ _ hld
   have H1:=hide (HM.out wr hld)
   clear hld HW HM HCW
   go_wp2
   go_loopw [26] (fun i wq=>∃ j:Nat,j≤sl∧i=.int .i64 j∧AtS rs B p ga ca gw cw w N rb X j wq) (fun i _=>sl-(intOf i).toNat)
   case atStart=>exact ⟨0,Nat.zero_le _,rfl,H1.out⟩
   case round=>
    clear H1 c0 c1
    obtain ⟨j,hj,rfl,hld⟩:=hrel
    by_cases hlt2:j<sl
    ·obtain ⟨pk,hcall,d0⟩:=HS.out j hlt2 wr hld
     have HCa:=hide hcall
     have hj0:(0:Int)≤(j:Int):=by omega
     have hj1:(j:Int)<(sl:Int):=by omega
     clear hcall hld HS HE
     go_wp2_with fail
     refine (unhide HCa).mono ?_
     rintro e w1 (⟨rfl,h1⟩ | ⟨hX,rfl,hb⟩)
     ·have H1:=hide h1
      clear h1 HCa
      go_wp2
      go_roundw
      case rel=>exact ⟨j+1,by omega,by go_num,H1.out⟩
      case measure=>simp [intOf];omega
     ·exact ⟨rfl,Or.inr ⟨hX,rfl,hb⟩⟩
    ·have hjl:j=sl:=by omega
     subst hjl
     have H2:=hide (HE.out wr hld)
     clear hld HS HE
     go_wp2
     go_end0
     obtain ⟨R,l,h1,h2⟩:=H2.out
     exact Or.inl ⟨R,l,h1,rfl,h2⟩
end
variable {rs:List Int}
theorem Tryz.undAny:Tryz.prog.underlying 20=some (.interface #[]):=by kernel_rfl
theorem neq_err {a:TypeId×Addr} (h:ErrTy a.1) (w:World):(binOp .neq 20 (.iface a.1 (.pointer (some a.2))) (.iface a.1 (.pointer (some a.2)))).run Tryz.prog w=.ok (.bool false) w:=by
 obtain ⟨i,te,j,hi,hc,hp,hj⟩:=h
 simp only [binOp]
 simp [Op.equal,Op.maxDepth,run_equalIn_iface_ptr_same w 9998 a.2 Tryz.undAny hp hi hc hj]
theorem neq_nil (t:TypeId) (v:Value) (w:World):(binOp .neq 20 (.iface t v) .nilIface).run Tryz.prog w=.ok (.bool true) w:=by
 have h:∀ d:Nat,(Op.equalIn (d+1) 20 (.iface t v) .nilIface).run Tryz.prog w=.ok false w:=fun d=>by simp [Op.equalIn,run_underlying Tryz.undAny]
 simp only [binOp]
 simp [Op.equal,Op.maxDepth,h 9999]
set_option maxHeartbeats 1000000 in
theorem read_catch {w:World} {a:TypeId×Addr} (he:ErrAt w a):CallsD Tryz.prog 98 #[] (.panicking [{v:=.iface a.1 (.pointer (some a.2)),recovered:=false}]) w fun e u' w'=>e=.returned (.tuple #[])∧u'=.panicking [{v:=.iface a.1 (.pointer (some a.2)),recovered:=true}]∧w'=w:=by
 have h1:=fun w=>neq_err he.ty w
 replace he:=he.cell
 have h2:=fun t v w=>neq_nil t v w
 refine callsD_of_wpS Tryz.func98 rfl fun c₀ cs hu=>?_
 apply wpS_seq
 apply wpS_region
 simp [wpOpsS,go_sem,recoverD,hu,Tryz.ntmps98,Exit.thenS]
 refine wpS_of_wp ?_
 simp only [Array.replicate_succ,Array.replicate_zero,List.push_toArray,List.nil_append,List.cons_append,List.setIfInBounds_toArray,List.set_cons_zero,List.set_cons_succ]
 go_wp2
 cases c₀
 simp_all [bodyPostS,results,Tryz.results98]
def readR (X:Option (Rc×List Int)) (rs:List Int):Option Rc:=X.bind fun q=>if q.2=[]∧rs=[] then some q.1 else none
set_option maxRecDepth 100000 in
set_option maxHeartbeats 2000000 in
theorem read_any {B p ga ca gw cw:Nat} {w:World} {v:Value} {N:Net} {l:List Int} {X:Option (Rc×List Int)} {a:TypeId×Addr} (hok:validB N=true) (hB0:0<B) (he:ErrAt w a)
  (hl:∀ wx rb,Below w.heap.size w wx→RdAt rs B wx rb l→AtW rs B p ga ca gw cw wx N rb X 0 wx)
  (hv:BytesAt w v (bytesOf l++rs)) (hsh:rs.length<8) (hvB:∀ g,v.ownBlock=some g→g<B) (hB:B≤w.heap.size) (hlen:l.length≤4398046511104) :
  Calls Tryz.prog 89 #[v,.func (.func 90) #[.pointer (some ⟨p,0,none⟩)] #[]] w fun e w'=>(∃ R,readR X rs=some R∧e=.returned (.bool true)∧(∃ L,L.p=p∧RaceAt L w' N R∧∀ b,Foot L N b→B≤b)∧Below B w w')∨(readR X rs=none∧e=.returned (.bool false)∧Below B w w'):=by
 have hb0:Below B w (w.alloc (.cells #[v] 158)):=(Below.refl _ _).alloc hB _
 have hrd:RdAt rs B (w.alloc (.cells #[v] 158)) w.heap.size l:=⟨⟨v,heap_alloc_new _ _,hv.below ((Below.refl _ _).alloc (Nat.le_refl _) _),hvB⟩,hB,hlen,hsh⟩
 have HL:=hide (rload_any hok hB0 (he.below hb0 hB0) (hl _ _ ((Below.refl _ _).alloc (Nat.le_refl _) _) hrd))
 have HE:Hid (∀ wx R l',X=some (R,l')→Loading rs B p ga ca gw cw (w.alloc (.cells #[v] 158)) N R w.heap.size l' wx→Calls Tryz.prog 99 #[.pointer (some ⟨w.heap.size,0,none⟩)] wx fun e w'=>(readR X rs=some R∧e=.returned (.tuple #[])∧(∃ L,L.p=p∧RaceAt L w' N R∧∀ b,Foot L N b→B≤b)∧Below B w w')∨(readR X rs=none∧e=gave a∧Below B w w')):=fun wx R l' eX hx=>by
  obtain ⟨L,h1,h2,h3,h4,h5,h6⟩:=hx
  have hb:=hb0.trans h5
  by_cases hq:l'=[]∧rs=[]
  ·obtain ⟨rfl,rfl⟩:=hq
   exact (end_calls h4).mono fun e w' ⟨q1,q2⟩=>Or.inl ⟨by rw [eX];rfl,q1,by subst q2;exact ⟨⟨L,h1.1,h2,h3⟩,hb⟩⟩
  ·refine (end_gives h4 (he.below hb hB0) ?_).mono fun e w' ⟨q1,q2⟩=>Or.inr ⟨?_,q1,by subst q2;exact hb⟩
   ·by_cases h:l'=[]
    ·exact Or.inr fun h'=>hq ⟨h,h'⟩
    ·exact Or.inl h
   ·rw [eX];simp only [readR,Option.bind_some];rw [if_neg hq]
 have HN:Hid (X=none→readR X rs=none):=fun e=>by rw [e];rfl
 have HB:Hid (∀ wx,Below B (w.alloc (.cells #[v] 158)) wx→Below B w wx):=fun wx hx=>hb0.trans hx
 have HEr:Hid (∀ wx,Below B w wx→ErrAt wx a):=fun wx hx=>he.below hx hB0
 obtain ⟨av,cv,rfl, -, -⟩:=hv
 clear hl hrd he
 generalize (bytesOf l++rs).length=bl at *
 go_enter_defers Tryz.func89,Tryz.ntmps89
 go_wp2_with fail
 refine (unhide HL).mono ?_
 rintro e w1 (⟨R,l',eX,rfl,h1⟩ | ⟨eX,rfl,hb1⟩)
 ·have HE1:=hide (HE.out w1 R l' eX h1)
  clear h1 HL HE eX
  go_wp2_with fail
  refine (unhide HE1).mono ?_
  rintro e w2 (⟨e2,rfl,h2,h3⟩ | ⟨e2,rfl,hb2⟩)
  ·go_wp2
   refine leaves_cons (f:=98) (args:=#[]) (by simp) (by simp [go_sem]) ?_
   refine (read_idle _).mono ?_
   rintro e u' w'' ⟨rfl,rfl,rfl⟩
   simp [Leaves,settle,results,Tryz.results89,go_sem]
   exact ⟨R,e2,h2,h3⟩
  ·refine leaves_cons (f:=98) (args:=#[]) (by simp) (by simp [go_sem]) ?_
   refine (read_catch (HEr.out _ hb2)).mono ?_
   rintro e u' w'' ⟨rfl,rfl,rfl⟩
   simp [Leaves,settle,results,Tryz.results89,go_sem]
   exact ⟨e2,hb2⟩
 ·have hb2:=HB.out _ hb1
  have e2:=HN.out eX
  refine leaves_cons (f:=98) (args:=#[]) (by simp) (by simp [go_sem]) ?_
  refine (read_catch (HEr.out _ hb2)).mono ?_
  rintro e u' w'' ⟨rfl,rfl,rfl⟩
  simp [Leaves,settle,results,Tryz.results89,go_sem]
  exact ⟨e2,hb2⟩
variable {rs:List Int}
theorem loadR_read (N:Net) (l rs:List Int):loadR N l rs=readR ((parseW N N.workers.length (initR N N.streams) l).bind fun q=>parseS N N.streams.length q.1 q.2) rs:=by
 unfold loadR readR
 rw [Option.bind_assoc]
structure LoadOut (A:Nat→Prop) (n:Net) (l rs:List Int) (x:Option Addr) (en:Int) (w':World):Prop where
 bad:validB n=false→x=none∧en=1
 no:validB n=true→loadR n l rs=none→x=none∧en=3
 yes:validB n=true→∀ R,loadR n l rs=some R→∃ p,x=some ⟨p,0,none⟩∧en=0∧Has A p n R w'
set_option maxRecDepth 100000 in
set_option maxHeartbeats 2000000 in
theorem load_any {n:Net} {v vb:Value} {w:World} {l:List Int} {a:TypeId×Addr} (hn:NetAt w v n) (hf:NetFits n) (hb:BytesAt w vb (bytesOf l++rs)) (hvB:∀ g,vb.ownBlock=some g→g<w.heap.size) (hsh:rs.length<8) (hx:∀ x∈l,Fits64 x) (hlen:l.length≤274877906944) (he:ErrAt w a) :
  Calls Tryz.prog 75 #[v,vb] w fun e w'=>∃ x en,e=.returned (.tuple #[.pointer x,.int .i64 en])∧LoadOut (fun b=>b<w.heap.size) n l rs x en w'∧Below w.heap.size w w':=by
 have hs0:0<w.heap.size:=lt_of_cell he.cell
 obtain ⟨ab,cb,hvb, -, -⟩:=id hb
 obtain ⟨vs,vr,vw,rfl,h1,h2,h3⟩:=id hn
 obtain ⟨sa,sc,rfl⟩:=h1.form
 obtain ⟨ar,cr,rfl⟩:=h2.form
 obtain ⟨aw,cw,rfl⟩:=h3.form
 have hb0:Below w.heap.size w (w.alloc (.cells #[.slice sa n.streams.length sc,.slice ar n.sources.length cr,.slice aw n.workers.length cw] 26)):=(Below.refl _ _).alloc (Nat.le_refl _) _
 cases hok:validB n with
 | false=>
  have HN:Hid (∀ wx,Below w.heap.size w wx→Calls Tryz.prog 13 #[.agg #[.slice sa n.streams.length sc,.slice ar n.sources.length cr,.slice aw n.workers.length cw]] wx fun e w'=>e=.returned (.tuple #[.pointer none,.int .i64 1])∧Below w.heap.size w w'):=fun wx hx=>(new_out (hn.below hx) hok).mono fun e w' ⟨q1,q2⟩=>⟨q1,hx.trans (q2.mono hx.size)⟩
  have HB0:=hide hb0
  subst hvb
  clear hn hb h1 h2 h3 hb0 hx he hvB hf
  generalize (bytesOf l++rs).length=bl at *
  go_enter Tryz.func75,Tryz.ntmps75
  go_wp2_with fail
  refine (unhide HN _ HB0.out).mono ?_
  rintro e w1 ⟨rfl,hb1⟩
  have HB1:=hide hb1
  clear hb1 HN HB0
  go_wp2
  go_ret2
  exact ⟨none,1,rfl,⟨fun _=>⟨rfl,rfl⟩,fun e=>(by rw [hok] at e;cases e),fun e=>by rw [hok] at e;cases e⟩,HB1.out⟩
 | true=>
  have HN:Hid (∀ wx,Below w.heap.size w wx→Calls Tryz.prog 13 #[.agg #[.slice sa n.streams.length sc,.slice ar n.sources.length cr,.slice aw n.workers.length cw]] wx fun e w'=>∃ L:Lay,e=.returned (.tuple #[.pointer (some ⟨L.p,0,none⟩),.int .i64 0])∧RaceAt L w' n (initR n n.streams)∧(∀ b,Foot L n b→w.heap.size≤b)∧Below w.heap.size w w'):=fun wx hx=>(new_calls (hn.below hx) hok).mono fun e w' ⟨L,q1,q2,q3,q4⟩=>⟨L,q1,q2,fun b hb=>Nat.le_trans hx.size (q3 b hb),hx.trans (q4.mono hx.size)⟩
  have HR:Hid (∀ wx (L:Lay),Below w.heap.size w wx→RaceAt L wx n (initR n n.streams)→(∀ b,Foot L n b→w.heap.size≤b)→Calls Tryz.prog 89 #[vb,.func (.func 90) #[.pointer (some ⟨L.p,0,none⟩)] #[]] wx fun e w'=>∃ t,e=.returned (.bool t)∧(t=true→LoadOut (fun b=>b<w.heap.size) n l rs (some ⟨L.p,0,none⟩) 0 w')∧(t=false→LoadOut (fun b=>b<w.heap.size) n l rs none 3 w')∧Below w.heap.size w w'):=fun wx L hwx hra hfo=>by
   obtain ⟨ga,ca,gw,cw,hva,hvw, -⟩:=hra.forms
   refine (read_any (rs:=rs) (l:=l) (X:=(parseW n n.workers.length (initR n n.streams) l).bind fun q=>parseS n n.streams.length q.1 q.2) (B:=w.heap.size) (ga:=ga) (ca:=ca) (gw:=gw) (cw:=cw) (p:=L.p) hok hs0 (he.below hwx hs0) (fun wy rb hy hr=>⟨_,l,⟨L,⟨rfl,hva,hvw⟩,hra.below hy,hfo,hr,Below.refl _ _,Nat.le_trans hwx.size hy.size⟩,(Fine.init hok hf).half,hx,hlen,by rw [Nat.sub_zero]⟩) (Sl.below hb hwx) hsh hvB hwx.size (by omega)).mono fun e w' q=>?_
   rcases q with ⟨R,e1,e2,⟨L',k1,k2,k3⟩,k4⟩ | ⟨e1,e2,k4⟩
   ·refine ⟨true,e2,fun _=>⟨fun e=>(by rw [hok] at e;cases e),fun _ e=>?_,fun _ R' e=>?_⟩,(fun e=>by cases e),hwx.trans k4⟩
    ·rw [loadR_read,e1] at e;cases e
    ·rw [loadR_read,e1] at e
     cases e
     refine ⟨L.p,rfl,rfl,⟨⟨L',k1,k2,fun b hb hlt=>by have:=k3 b hb;omega⟩,fun b hb=>?_⟩⟩
     have:=hwx.size
     have:=k4.size
     omega
   ·refine ⟨false,e2,(fun e=>by cases e),fun _=>⟨fun e=>(by rw [hok] at e;cases e),fun _ _=>⟨rfl,rfl⟩,fun _ R' e=>?_⟩,hwx.trans k4⟩
    rw [loadR_read,e1] at e;cases e
  have hmf:∀ (fn:Fn) (first cap:Array Value) (w:World),(Instr.makeFunc fn first cap).run Tryz.prog w=.ok (.func fn first cap) w:=fun _ _ _ _=>rfl
  have HB0:=hide hb0
  subst hvb
  clear hn hb h1 h2 h3 hb0 hx he hvB hf hok
  generalize (bytesOf l++rs).length=bl at *
  go_enter Tryz.func75,Tryz.ntmps75
  go_wp2_with fail
  refine (unhide HN _ HB0.out).mono ?_
  rintro e w1 ⟨L,rfl,hra,hfo,hb1⟩
  have HR1:=hide (HR.out w1 L hb1 hra hfo)
  clear hra hfo hb1 HR HN HB0
  go_wp2_with fail
  refine (unhide HR1).mono ?_
  rintro e w2 ⟨t,rfl,h1,h2,h3⟩
  have H3:=hide h3
  cases t
  ·have H2:=hide (h2 rfl)
   clear h1 h2 h3 HR1
   go_wp2
   go_ret2
   exact ⟨none,3,rfl,H2.out,H3.out⟩
  ·have H1:=hide (h1 rfl)
   clear h1 h2 h3 HR1
   go_wp2
   go_ret2
   exact ⟨_,0,rfl,H1.out,H3.out⟩
end Go.Proofs.YthfdgdfnflilfaaGreatDoor

/- Part 6: Kept1, Kept2, Ref2. -/
import Derived.WalkSmall
import Derived.Test.YthfdgdfnflilfaaGreatDoorPart1
namespace Go.Proofs.YthfdgdfnflilfaaGreatDoor
open Go.RowKit
structure Handed (w:World) (p:Nat) (v4 v5 v6 v7:Value):Prop where
 c4:w.cell? ⟨p,4,none⟩=some v4
 c5:w.cell? ⟨p,5,none⟩=some v5
 c6:w.cell? ⟨p,6,none⟩=some v6
 c7:w.cell? ⟨p,7,none⟩=some v7
 ints:Lists w v4 1 fun _ _ _=>.int .i64 (-7)
 codes:Lists w v5 4 fun _ _ j=>if j=0 then .int .i64 (-8) else .int .i64 0
 lists:Lists w v6 1 fun _ _ _=>.slice none 0 0
 from':Lists w v7 2 fun _ _ j=>if j=0 then .int .i64 (-9) else .slice none 0 0
set_option maxRecDepth 100000 in
set_option maxHeartbeats 4000000 in
theorem handed_calls {w:World} {p:Nat} {v4 v5 v6 v7:Value} (h:Handed w p v4 v5 v6 v7) :
  Calls Tryz.prog 46 #[.pointer (some ⟨p,0,none⟩)] w fun e w'=>e=.returned (.bool true)∧w'=w:=by
 obtain ⟨c4,c5,c6,c7,h4,h5,h6,h7⟩:=h
 obtain ⟨a4,n4,k4,rfl,hn4,g4⟩:=h4.open
 obtain ⟨a5,n5,k5,rfl,hn5,g5⟩:=h5.open
 obtain ⟨a6,n6,k6,rfl,hn6,g6⟩:=h6.open
 obtain ⟨a7,n7,k7,rfl,hn7,g7⟩:=h7.open
 have G4:=hide g4
 have G5:=hide g5
 have G6:=hide g6
 have G7:=hide g7
 clear g4 g5 g6 g7 h4 h5 h6 h7
 have nn1:=fun (wx:World) (a:Option Addr) (n c n' c':Nat)=>run_neq_slice_nil_any (P:=Tryz.prog) wx 45 44 a n c n' c' Tryz.underlying45
 have nn2:=fun (wx:World) (a:Option Addr) (n c n' c':Nat)=>run_neq_slice_nil_any (P:=Tryz.prog) wx 22 3 a n c n' c' Tryz.underlying22
 go_enter Tryz.func46,Tryz.ntmps46
 go_wp2
 go_loop [3] (fun i=>∃ k:Nat,k≤n4∧i=.int .i64 k) (fun i=>n4-(intOf i).toNat)
 case atStart=>exact ⟨0,Nat.zero_le _,rfl⟩
 case round=>
  obtain ⟨k,hk,rfl⟩:=hrel
  by_cases hlt:k<n4
  ·obtain ⟨b,off,a',m,cap',rfl,d0,hm,hc⟩:=unhide G4 k hlt
   have HC:=hide hc
   clear hc
   go_wp2
   go_loop [4] (fun i=>∃ j:Nat,j≤m∧i=.int .i64 j) (fun i=>m-(intOf i).toNat)
   case atStart=>exact ⟨0,Nat.zero_le _,rfl⟩
   case round=>
    obtain ⟨j,hj,rfl⟩:=hrel
    by_cases hjl:j<m
    ·obtain ⟨b',off',rfl,hd⟩:=unhide HC j hjl
     have e0:=hd 0 (by decide)
     simp at e0
     clear hd
     go_wp2
     go_round
     case rel=>exact ⟨j+1,by omega,by go_num⟩
     case measure=>simp [intOf];omega
    ·go_wp2
     go_round
     case rel=>exact ⟨k+1,by omega,by go_num⟩
     case measure=>simp [intOf];omega
  ·clear G4
   go_wp2
   go_loop [5] (fun i=>∃ k:Nat,k≤n5∧i=.int .i64 k) (fun i=>n5-(intOf i).toNat)
   case atStart=>exact ⟨0,Nat.zero_le _,rfl⟩
   case round=>
    obtain ⟨k,hk,rfl⟩:=hrel
    by_cases hlt:k<n5
    ·obtain ⟨b,off,a',m,cap',rfl,d0,hm,hc⟩:=unhide G5 k hlt
     have HC:=hide hc
     clear hc
     go_wp2
     go_loop [6] (fun i=>∃ j:Nat,j≤m∧i=.int .i64 j) (fun i=>m-(intOf i).toNat)
     case atStart=>exact ⟨0,Nat.zero_le _,rfl⟩
     case round=>
      obtain ⟨j,hj,rfl⟩:=hrel
      by_cases hjl:j<m
      ·obtain ⟨b',off',rfl,hd⟩:=unhide HC j hjl
       have e0:=hd 0 (by decide)
       simp at e0
       clear hd
       go_wp2
       go_round
       case rel=>exact ⟨j+1,by omega,by go_num⟩
       case measure=>simp [intOf];omega
      ·go_wp2
       go_round
       case rel=>exact ⟨k+1,by omega,by go_num⟩
       case measure=>simp [intOf];omega
    ·clear G5
     go_wp2
     go_loop [7] (fun i=>∃ k:Nat,k≤n6∧i=.int .i64 k) (fun i=>n6-(intOf i).toNat)
     case atStart=>exact ⟨0,Nat.zero_le _,rfl⟩
     case round=>
      obtain ⟨k,hk,rfl⟩:=hrel
      by_cases hlt:k<n6
      ·obtain ⟨b,off,a',m,cap',rfl,d0,hm,hc⟩:=unhide G6 k hlt
       have HC:=hide hc
       clear hc
       go_wp2
       go_loop [8] (fun i=>∃ j:Nat,j≤m∧i=.int .i64 j) (fun i=>m-(intOf i).toNat)
       case atStart=>exact ⟨0,Nat.zero_le _,rfl⟩
       case round=>
        obtain ⟨j,hj,rfl⟩:=hrel
        by_cases hjl:j<m
        ·obtain ⟨b',off',rfl,hd⟩:=unhide HC j hjl
         have e0:=hd 0 (by decide)
         simp at e0
         clear hd
         go_wp2
         go_round
         case rel=>exact ⟨j+1,by omega,by go_num⟩
         case measure=>simp [intOf];omega
        ·go_wp2
         go_round
         case rel=>exact ⟨k+1,by omega,by go_num⟩
         case measure=>simp [intOf];omega
      ·clear G6
       go_wp2
       go_loop [9] (fun i=>∃ k:Nat,k≤n7∧i=.int .i64 k) (fun i=>n7-(intOf i).toNat)
       case atStart=>exact ⟨0,Nat.zero_le _,rfl⟩
       case round=>
        obtain ⟨k,hk,rfl⟩:=hrel
        by_cases hlt:k<n7
        ·obtain ⟨b,off,a',m,cap',rfl,d0,hm,hc⟩:=unhide G7 k hlt
         have HC:=hide hc
         clear hc
         go_wp2
         go_loop [10] (fun i=>∃ j:Nat,j≤m∧i=.int .i64 j) (fun i=>m-(intOf i).toNat)
         case atStart=>exact ⟨0,Nat.zero_le _,rfl⟩
         case round=>
          obtain ⟨j,hj,rfl⟩:=hrel
          by_cases hjl:j<m
          ·obtain ⟨b',off',rfl,hd⟩:=unhide HC j hjl
           have e0:=hd 0 (by decide)
           have e1:=hd 1 (by decide)
           simp at e0 e1
           clear hd
           go_wp2
           go_round
           case rel=>exact ⟨j+1,by omega,by go_num⟩
           case measure=>simp [intOf];omega
          ·go_wp2
           go_round
           case rel=>exact ⟨k+1,by omega,by go_num⟩
           case measure=>simp [intOf];omega
        ·clear G7
         go_wp2
         go_ret
         exact ⟨rfl,rfl⟩
def digitI (n i:Int):Int:=1+n / (if i%3=0 then 1 else if i%3=1 then 250 else 62500)%250
set_option maxHeartbeats 1000000 in
theorem digit_calls (n i:Int) (w:World) (hn:0≤n) (hn':n≤4611686018427387904) (hi:0≤i) (hi':i≤4611686018427387904) :
  Calls Tryz.prog 45 #[.int .i64 n,.int .i64 i] w fun e w'=>e=.returned (.int .u8 (digitI n i))∧w'=w:=by
 rcases (show i%3=0∨i%3=1∨i%3=2 by omega) with h | h | h
 ·have F:Hid (digitI n i=1+n%250):=by unfold Hid;simp [digitI,h]
  go_enter Tryz.func45,Tryz.ntmps45
  go_wp2
  refine wp_loop_rounds 1 ?_
  rw [rounds_succ]
  go_wp2
  go_ret
  exact ⟨ret_int (by rw [F.out]),rfl⟩
 ·have F:Hid (digitI n i=1+n / 250%250):=by unfold Hid;simp [digitI,h]
  go_enter Tryz.func45,Tryz.ntmps45
  go_wp2
  refine wp_loop_rounds 2 ?_
  rw [rounds_succ]
  go_wp2
  rw [rounds_succ]
  go_wp2
  go_ret
  exact ⟨ret_int (by rw [F.out]),rfl⟩
 ·have F:Hid (digitI n i=1+n / 250 / 250%250):=by
   unfold Hid
   rw [Int.ediv_ediv_of_nonneg (by decide)]
   simp [digitI,h]
  go_enter Tryz.func45,Tryz.ntmps45
  go_wp2
  refine wp_loop_rounds 3 ?_
  rw [rounds_succ]
  go_wp2
  rw [rounds_succ]
  go_wp2
  rw [rounds_succ]
  go_wp2
  go_ret
  exact ⟨ret_int (by rw [F.out]),rfl⟩
structure Book (w:World) (p:Nat) (v0 v1 v2 v3 v4 v5 v6 v7:Value):Prop where
 c0:w.cell? ⟨p,0,none⟩=some v0
 c1:w.cell? ⟨p,1,none⟩=some v1
 c2:w.cell? ⟨p,2,none⟩=some v2
 c3:w.cell? ⟨p,3,none⟩=some v3
 bytes:Lists w v1 1 fun i k _=>.int .u8 (digitI (i / 4*4:Nat) k)
 nums:Lists w v2 1 fun i _ _=>.int .i64 (-1-(i / 4*4:Nat))
 turned:Lists w v3 1 fun _ _ _=>.int .u8 251
 handed:Handed w p v4 v5 v6 v7
theorem Handed.below {w w':World} {p:Nat} {v4 v5 v6 v7:Value} (h:Handed w p v4 v5 v6 v7) (hb:Below w.heap.size w w'):Handed w' p v4 v5 v6 v7:=
 have hp:p<w.heap.size:=lt_of_cell h.c4
 ⟨(
   hb.cell (p:=⟨p,_,none⟩) hp).trans h.c4,(hb.cell (p:=⟨p,_,none⟩) hp).trans h.c5,(hb.cell (p:=⟨p,_,none⟩) hp).trans h.c6,(hb.cell (p:=⟨p,_,none⟩) hp).trans h.c7,
   h.ints.below hb,h.codes.below hb,h.lists.below hb,h.from'.below hb⟩
set_option maxRecDepth 100000 in
set_option maxHeartbeats 4000000 in
theorem kept_calls {w:World} {p:Nat} {v0 v1 v2 v3 v4 v5 v6 v7:Value} (h:Book w p v0 v1 v2 v3 v4 v5 v6 v7) :
  Calls Tryz.prog 17 #[.pointer (some ⟨p,0,none⟩)] w fun e w'=>e=.returned (.bool true)∧∃ q,w'=w.drewN q:=by
 obtain ⟨-,c1,c2,c3,h1,h2,h3,hh⟩:=h
 have HH:Hid (∀ q,Calls Tryz.prog 46 #[.pointer (some ⟨p,0,none⟩)] (w.drewN q) fun e w'=>e=.returned (.bool true)∧w'=w.drewN q):=
  fun q=>handed_calls (hh.below (below_drewN (Below.refl _ _) q))
 obtain ⟨a1,n1,k1,rfl,hn1,g1⟩:=h1.open
 obtain ⟨a2,n2,k2,rfl,hn2,g2⟩:=h2.open
 obtain ⟨a3,n3,k3,rfl,hn3,g3⟩:=h3.open
 have G1:=hide g1
 have G2:=hide g2
 have G3:=hide g3
 clear g1 g2 g3 h1 h2 h3 hh
 go_enter Tryz.func17,Tryz.ntmps17
 go_wp2
 go_loopw [3] (fun i wr=>∃ k q:Nat,k≤n1∧i=.int .i64 k∧wr=w.drewN q) (fun i _=>n1-(intOf i).toNat)
 case atStart=>exact ⟨0,0,Nat.zero_le _,rfl,rfl⟩
 case round=>
  obtain ⟨k,q,hk,rfl,rfl⟩:=hrel
  by_cases hlt:k<n1
  ·obtain ⟨b,off,a',m,cap',rfl,d0,hm,hc⟩:=unhide G1 k hlt
   have HC:=hide hc
   clear hc
   go_wp2
   go_loopw [4] (fun i wr=>∃ j q:Nat,j≤m∧i=.int .i64 j∧wr=w.drewN q) (fun i _=>m-(intOf i).toNat)
   case atStart=>exact ⟨0,q,Nat.zero_le _,rfl,rfl⟩
   case round=>
    obtain ⟨j,q,hj,rfl,hwr⟩:=hrel
    by_cases hjl:j<m
    ·obtain ⟨b',off',rfl,hd⟩:=unhide HC j hjl
     have e0:=hd 0 (by decide)
     simp at e0
     clear hd
     have c1':wr.cell? ⟨p,1,none⟩=some (.slice (some ⟨b,off,none⟩) n1 k1):=by rw [hwr];exact c1
     have d0':wr.cell? ⟨b,off+k,none⟩=some (.slice (some ⟨b',off',none⟩) m cap'):=by rw [hwr];exact d0
     have e0':wr.cell? ⟨b',off'+j,none⟩=some (.int .u8 (digitI ((k:Int) / 4*4) j)):=by rw [hwr];exact e0
     have HWR:=hide hwr
     clear hwr e0
     have HD:Hid (∀ wx,Calls Tryz.prog 45 #[.int .i64 ((k:Int) / 4*4),.int .i64 j] wx fun e w'=>e=.returned (.int .u8 (digitI ((k:Int) / 4*4) j))∧w'=wx):=
      fun wx=>digit_calls _ _ wx (by omega) (by omega) (by omega) (by omega)
     generalize digitI ((k:Int) / 4*4) j=dg at *
     have hj0:(0:Int)≤(j:Int):=by omega
     have hj1:(j:Int)<(m:Int):=by omega
     have hk0:(0:Int)≤(k:Int):=by omega
     have hk1:(k:Int)<(n1:Int):=by omega
     go_wp2
     have wr1:IntKind.i64.wrap ((k:Int) / 4)=(k:Int) / 4:=by rw [IntKind.wrap_i64];omega
     have wr2:IntKind.i64.wrap ((k:Int) / 4*4)=(k:Int) / 4*4:=by rw [IntKind.wrap_i64];omega
     go_quiet ((go_at_call 45;exact Calls.quiet_of_same (unhide HD _)))
     clear wr1 wr2
     go_wp2
     go_roundw
     case rel=>exact ⟨j+1,q+nq,by omega,by go_num,by rw [HWR.out];simp⟩
     case measure=>simp [intOf];omega
    ·subst hwr
     go_wp2
     go_roundw
     case rel=>exact ⟨k+1,q,by omega,by go_num,rfl⟩
     case measure=>simp [intOf];omega
  ·clear G1
   go_wp2
   go_loop [5] (fun i=>∃ k:Nat,k≤n2∧i=.int .i64 k) (fun i=>n2-(intOf i).toNat)
   case atStart=>exact ⟨0,Nat.zero_le _,rfl⟩
   case round=>
    obtain ⟨k,hk,rfl⟩:=hrel
    by_cases hlt:k<n2
    ·obtain ⟨b,off,a',m,cap',rfl,d0,hm,hc⟩:=unhide G2 k hlt
     have HC:=hide hc
     clear hc
     go_wp2
     go_loop [6] (fun i=>∃ j:Nat,j≤m∧i=.int .i64 j) (fun i=>m-(intOf i).toNat)
     case atStart=>exact ⟨0,Nat.zero_le _,rfl⟩
     case round=>
      obtain ⟨j,hj,rfl⟩:=hrel
      by_cases hjl:j<m
      ·obtain ⟨b',off',rfl,hd⟩:=unhide HC j hjl
       have e0:=hd 0 (by decide)
       simp at e0
       clear hd
       go_wp2
       go_round
       case rel=>exact ⟨j+1,by omega,by go_num⟩
       case measure=>simp [intOf];omega
      ·go_wp2
       go_round
       case rel=>exact ⟨k+1,by omega,by go_num⟩
       case measure=>simp [intOf];omega
    ·clear G2
     go_wp2
     go_loop [7] (fun i=>∃ k:Nat,k≤n3∧i=.int .i64 k) (fun i=>n3-(intOf i).toNat)
     case atStart=>exact ⟨0,Nat.zero_le _,rfl⟩
     case round=>
      obtain ⟨k,hk,rfl⟩:=hrel
      by_cases hlt:k<n3
      ·obtain ⟨b,off,a',m,cap',rfl,d0,hm,hc⟩:=unhide G3 k hlt
       have HC:=hide hc
       clear hc
       go_wp2
       go_loop [8] (fun i=>∃ j:Nat,j≤m∧i=.int .i64 j) (fun i=>m-(intOf i).toNat)
       case atStart=>exact ⟨0,Nat.zero_le _,rfl⟩
       case round=>
        obtain ⟨j,hj,rfl⟩:=hrel
        by_cases hjl:j<m
        ·obtain ⟨b',off',rfl,hd⟩:=unhide HC j hjl
         have e0:=hd 0 (by decide)
         simp at e0
         clear hd
         go_wp2
         go_round
         case rel=>exact ⟨j+1,by omega,by go_num⟩
         case measure=>simp [intOf];omega
        ·go_wp2
         go_round
         case rel=>exact ⟨k+1,by omega,by go_num⟩
         case measure=>simp [intOf];omega
      ·clear G3
       go_wp2_with fail
       refine (unhide HH q).mono ?_
       rintro e w1 ⟨rfl,rfl⟩
       go_wp2
       go_ret
       exact ⟨rfl,q,rfl⟩
def insB (i:Ins) (code streams:Int):Bool:=
 if i.op=1 then inB i.a 4 && inB i.b streams && inB i.c (code+1)
 else if i.op=2 then inB i.a 4 && inB i.b streams && i.c == 0
 else if i.op=3 then inB i.a 4 && i.b == 0
 else if i.op=4∨i.op=5∨i.op=6∨i.op=7 then inB i.a 4 && inB i.b 4 && inB i.c 4
 else if i.op=8 then inB i.a 4 && i.b == 0 && inB i.c (code+1)
 else if i.op=9 then i.a == 0 && i.b == 0 && inB i.c (code+1)
 else false
set_option maxHeartbeats 2000000 in
theorem ins_calls (op a b c:Int) (code:Nat) (streams:Int) (w:World) (hcd:code≤140737488355328) :
  Calls Tryz.prog 59 #[.agg #[.int .i64 op,.int .i64 a,.int .i64 b,.int .i64 c],.int .i64 code,.int .i64 streams] w fun e w'=>e=.returned (.bool (insB ⟨op,a,b,c⟩ code streams))∧Below w.heap.size w w':=by
 have HV:Hid (insB ⟨op,a,b,c⟩ code streams=(if op=1 then inB a 4 && inB b streams && inB c ((code:Int)+1)
  else if op=2 then inB a 4 && inB b streams && c == 0
  else if op=3 then inB a 4 && b == 0
  else if op=4∨op=5∨op=6∨op=7 then inB a 4 && inB b 4 && inB c 4
  else if op=8 then inB a 4 && b == 0 && inB c ((code:Int)+1)
  else if op=9 then a == 0 && b == 0 && inB c ((code:Int)+1)
  else false)):=by unfold Hid;simp only [insB]
 have Ha:Hid (∀ wx:World,Calls Tryz.prog 58 #[.int .i64 a,.int .i64 4] wx fun e w'=>e=.returned (.bool (inB a 4))∧w'=wx):=fun wx=>in_calls a 4 wx
 have Hb:Hid (∀ wx:World,Calls Tryz.prog 58 #[.int .i64 b,.int .i64 4] wx fun e w'=>e=.returned (.bool (inB b 4))∧w'=wx):=fun wx=>in_calls b 4 wx
 have Hc:Hid (∀ wx:World,Calls Tryz.prog 58 #[.int .i64 c,.int .i64 4] wx fun e w'=>e=.returned (.bool (inB c 4))∧w'=wx):=fun wx=>in_calls c 4 wx
 have Hs:Hid (∀ wx:World,Calls Tryz.prog 58 #[.int .i64 b,.int .i64 streams] wx fun e w'=>e=.returned (.bool (inB b streams))∧w'=wx):=fun wx=>in_calls b streams wx
 have Hp:Hid (∀ wx:World,Calls Tryz.prog 58 #[.int .i64 c,.int .i64 ((code:Int)+1)] wx fun e w'=>e=.returned (.bool (inB c ((code:Int)+1)))∧w'=wx):=fun wx=>in_calls c _ wx
 generalize inB a 4=ya at *
 generalize inB b 4=yb at *
 generalize inB c 4=yc at *
 generalize inB b streams=ys at *
 generalize inB c ((code:Int)+1)=yp at *
 have hbl:Below w.heap.size w (w.alloc (.cells #[.int .i64 op,.int .i64 a,.int .i64 b,.int .i64 c] 44)):=(Below.refl _ _).alloc (Nat.le_refl _) _
 go_enter Tryz.func59,Tryz.ntmps59
 go_wp2_with fail
 refine (unhide Ha _).mono ?_
 rintro e w' ⟨rfl,rfl⟩
 go_wp2_with fail
 refine (unhide Hb _).mono ?_
 rintro e w' ⟨rfl,rfl⟩
 go_wp2_with fail
 refine (unhide Hc _).mono ?_
 rintro e w' ⟨rfl,rfl⟩
 go_wp2_with fail
 refine (unhide Hs _).mono ?_
 rintro e w' ⟨rfl,rfl⟩
 go_wp2_with fail
 refine (unhide Hp _).mono ?_
 rintro e w' ⟨rfl,rfl⟩
 clear Ha Hb Hc Hs Hp
 by_cases o1:op=1
 ·subst o1
  cases ya<;>cases ys<;>(go_wp2;go_ret;exact ⟨ret_bool (by rw [HV.out];simp),hbl⟩)
 by_cases o2:op=2
 ·subst o2
  cases ya<;>cases ys<;>(go_wp2;go_ret;exact ⟨ret_bool (by rw [HV.out];simp),hbl⟩)
 by_cases o3:op=3
 ·subst o3
  cases ya<;>(go_wp2;go_ret;exact ⟨ret_bool (by rw [HV.out];simp),hbl⟩)
 by_cases o4:op=4
 ·subst o4
  cases ya<;>cases yb<;>(go_wp2;go_ret;exact ⟨ret_bool (by rw [HV.out];simp),hbl⟩)
 by_cases o5:op=5
 ·subst o5
  cases ya<;>cases yb<;>(go_wp2;go_ret;exact ⟨ret_bool (by rw [HV.out];simp),hbl⟩)
 by_cases o6:op=6
 ·subst o6
  cases ya<;>cases yb<;>(go_wp2;go_ret;exact ⟨ret_bool (by rw [HV.out];simp),hbl⟩)
 by_cases o7:op=7
 ·subst o7
  cases ya<;>cases yb<;>(go_wp2;go_ret;exact ⟨ret_bool (by rw [HV.out];simp),hbl⟩)
 by_cases o8:op=8
 ·subst o8
  cases hb:(b == 0)<;>cases ya<;>(go_wp2;go_ret;exact ⟨ret_bool (by rw [HV.out];simp [hb]),hbl⟩)
 by_cases o9:op=9
 ·subst o9
  cases ha:(a == 0)<;>cases hb:(b == 0)<;>(go_wp2;go_ret;exact ⟨ret_bool (by rw [HV.out];simp [ha,hb]),hbl⟩)
 have F:Hid (insB ⟨op,a,b,c⟩ code streams=false):=by unfold Hid;rw [HV.out];simp [o1,o2,o3,o4,o5,o6,o7,o8,o9]
 have b1:(op == 1)=false:=by simpa using o1
 have b2:(op == 2)=false:=by simpa using o2
 have b3:(op == 3)=false:=by simpa using o3
 have b4:(op == 4)=false:=by simpa using o4
 have b5:(op == 5)=false:=by simpa using o5
 have b6:(op == 6)=false:=by simpa using o6
 have b7:(op == 7)=false:=by simpa using o7
 have b8:(op == 8)=false:=by simpa using o8
 have b9:(op == 9)=false:=by simpa using o9
 go_wp2
 go_ret
 exact ⟨ret_bool (by rw [F.out]),hbl⟩
end Go.Proofs.YthfdgdfnflilfaaGreatDoor

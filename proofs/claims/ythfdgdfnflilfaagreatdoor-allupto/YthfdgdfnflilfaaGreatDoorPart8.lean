/- Part 8: Lent1. -/
import Derived.Test.YthfdgdfnflilfaaGreatDoorPart3
import Derived.Test.YthfdgdfnflilfaaGreatDoorPart6
namespace Go.Proofs.YthfdgdfnflilfaaGreatDoor
open Go.RowKit
set_option maxHeartbeats 400000 in
theorem sameInts_calls {l:List Int} {v u:Value} {w:World} (hv:IntsAt w v l) (hu:IntsAt w u l) :
  Calls Tryz.prog 60 #[v,u] w fun e w'=>e=.returned (.bool true)∧∃ q,w'=w.drewN q:=by
 obtain ⟨a1,k1,rfl,hn,hk1,h1⟩:=hv.openD
 obtain ⟨a2,k2,rfl, -,hk2,h2⟩:=hu.openD
 have H1:=hide h1
 have H2:=hide h2
 clear h1 h2 hv hu
 generalize l.length=n at *
 go_enter Tryz.func60,Tryz.ntmps60
 go_wp2
 go_loopw [5] (fun i wr=>∃ k q:Nat,k≤n∧i=.int .i64 k∧wr=w.drewN q) (fun i _=>n-(intOf i).toNat)
 case atStart=>exact ⟨0,0,Nat.zero_le _,rfl,rfl⟩
 case round=>
  obtain ⟨k,q,hk,rfl,hwr⟩:=hrel
  by_cases hlt:k<n
  ·obtain ⟨b1,o1,rfl, -,d1⟩:=unhide H1 k hlt
   obtain ⟨b2,o2,rfl, -,d2⟩:=unhide H2 k hlt
   have e1:=d1 wr (by rw [hwr];exact below_drewN (Below.refl _ _) q)
   have e2:=d2 wr (by rw [hwr];exact below_drewN (Below.refl _ _) q)
   clear d1 d2
   have HWR:=hide hwr
   clear hwr
   generalize l.getD k 0=x at *
   have hk0:(0:Int)≤(k:Int):=by omega
   have hk1:(k:Int)<(n:Int):=by omega
   go_wp2
   go_quiet (fail)
   go_wp2
   go_roundw
   case rel=>exact ⟨k+1,q+nq,by omega,by go_num,by rw [HWR.out];simp⟩
   case measure=>simp [intOf];omega
  ·subst hwr
   go_wp2
   go_ret
   exact ⟨rfl,q,rfl⟩
set_option maxHeartbeats 1000000 in
theorem lentInts_calls {l:List Int} {v:Value} {w:World} (hv:IntsAt w v l) (hl:l.length≤1048576) :
  Calls Tryz.prog 22 #[v] w fun e w'=>(e=.returned (.tuple #[.slice (some ⟨w.heap.size,0,none⟩) (l.length+1) (l.length+1),.slice (some ⟨w.heap.size,0,none⟩) l.length (l.length+1)]) ∨
    l=[]∧e=.returned (.tuple #[.slice (some ⟨w.heap.size,0,none⟩) (l.length+1) (l.length+1),.slice none 0 0])) ∧
   w'.heap[w.heap.size]? = some (.cells (intRow (l++[78])).toArray 3 (0,0))∧Below w.heap.size w w':=by
 obtain ⟨a1,k1,rfl,hn,hk1,h1⟩:=hv.openD
 have hmk:=run_make_row' (P:=Tryz.prog) 22 3 (.int .i64 0) 8 Tryz.underlying22 Tryz.info3 rfl .i64 .i64 (l.length+1) (by omega) (by omega)
 have ec:((l.length+1:Nat):Int)=(l.length:Int)+1:=by omega
 rw [ec,madeCells_zrow] at hmk
 clear ec
 have hcp:=copy_ints hv
 have hnil:=fun (wx:World) (a:Option Addr) (n c n' c':Nat)=>Lib.run_eql_slice_nil (P:=Tryz.prog) wx 22 3 a n c n' c' Tryz.underlying22
 have hcc:(crow l)[l.length]? = some (.int .i64 0):=by simp [crow,intRow]
 have hcs:(crow l).size=l.length+1:=by simp [crow,intRow]
 have HD:Hid ((crow l).setIfInBounds l.length (.int .i64 78)=(intRow (l++[78])).toArray):=by
  unfold Hid;simp [crow,intRow]
 have HA:Hid (a1=none→l=[]):=by
  intro ha
  rcases Nat.eq_zero_or_pos l.length with h0 | h0
  ·exact List.eq_nil_of_length_eq_zero h0
  ·obtain ⟨b,off,hb, -⟩:=h1 0 h0
   rw [ha] at hb;cases hb
 clear h1 hv
 generalize crow l=cr at *
 go_enter Tryz.func22,Tryz.ntmps22
 have hl0:(0:Int)≤(l.length:Int):=by omega
 have hl1:(l.length:Int)≤(l.length:Int)+1:=by omega
 go_wp2_with fail
 ·have ha:a1=none:=by cases a1<;>simp_all
  go_ret2
  exact ⟨Or.inr ⟨HA.out ha,rfl⟩,by rw [← HD.out];exact heap_alloc_new _ _,(Below.refl _ _).alloc (Nat.le_refl _) _⟩
 ·go_quiet (fail)
  go_wp2
  go_ret2
  exact ⟨Or.inl rfl,by rw [← HD.out];exact heap_alloc_new _ _,below_drewN ((Below.refl _ _).alloc (Nat.le_refl _) _) _⟩
end Go.Proofs.YthfdgdfnflilfaaGreatDoor

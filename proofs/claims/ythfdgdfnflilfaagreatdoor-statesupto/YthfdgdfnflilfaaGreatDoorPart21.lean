/- Part 21: Keep6, Side3, Side4, AppKeep, KNums, KNums2, KeepH, KeepI, KeepJ, Side5. -/
import Derived.Laws.StructEq
import Derived.Deep.RegionHeld3
import Derived.Deep.AppendLies
import Derived.Deep.Cut
import Derived.Test.YthfdgdfnflilfaaGreatDoorPart20
namespace Go.Proofs.YthfdgdfnflilfaaGreatDoor
open Go.RowKit Go.Conc
theorem eqRegs (k:Nat) (a b c d a' b' c' d':Int) (w:World):(Op.equalIn (k+2) 90 (.agg #[.int .i64 a,.int .i64 b,.int .i64 c,.int .i64 d]) (.agg #[.int .i64 a',.int .i64 b',.int .i64 c',.int .i64 d'])).run Tryz.prog w=.ok (a == a' && (b == b' && (c == c' && d == d'))) w:=by
 have u3:=Tryz.underlying3
 have a3:=Tryz.isAgg3
 have z3:=Tryz.sizeOf3
 rw [Op.equalIn]
 simp only [Sem.run_bind,run_underlying Tryz.underlying90,Result.andThen_ok]
 simp only [Std.Legacy.Range.forIn_eq_forIn_range',Std.Legacy.Range.size,Nat.sub_zero,Nat.add_sub_cancel,Nat.div_one,List.range'_succ,List.range'_zero,List.forIn_cons,List.forIn_nil]
 go_simp
 by_cases h1:a=a'<;>by_cases h2:b=b'<;>by_cases h3:c=c'<;>by_cases h4:d=d'<;>simp [h1,h2,h3,h4]
theorem eqLook (a0 a1 a2 a3 a4 a5 a6 b0 b1 b2 b3 b4 b5 b6:Int) (w:World):(Op.equalIn 10000 123 (.agg #[.int .i64 a0,.int .i64 a1,.int .i64 a2,.int .i64 a3,.int .i64 a4,.int .i64 a5,.int .i64 a6]) (.agg #[.int .i64 b0,.int .i64 b1,.int .i64 b2,.int .i64 b3,.int .i64 b4,.int .i64 b5,.int .i64 b6])).run Tryz.prog w=.ok (a0 == b0 && ((a1 == b1 && (a2 == b2 && (a3 == b3 && a4 == b4))) && (a5 == b5 && a6 == b6))) w:=by
 have u3:=Tryz.underlying3
 have i3:=Tryz.isAgg3
 have z3:=Tryz.sizeOf3
 have i42:=Tryz.isAgg90
 have z42:=Tryz.sizeOf90
 have hS:Tryz.prog.underlying 123=some (.struct (Tryz.prog.fieldsOf 123)):=by kernel_rfl
 have hp:Tryz.prog.stoodInHeld 123=false:=Tryz.stoodInHeld123
 rw [show (10000:Nat)=9999+1 from rfl,run_equalIn_agg w 9999 123 _ _ hS hp]
 simp only [Program.fieldsOf,Tryz.underlying123]
 have er:=fun (wx:World)=>eqRegs 9997 a1 a2 a3 a4 b1 b2 b3 b4 wx
 go_simp
 by_cases h1:a0=b0<;>by_cases h2:a1=b1<;>by_cases h3:a2=b2<;>by_cases h4:a3=b3<;>by_cases h5:a4=b4<;>by_cases h6:a5=b5<;>by_cases h7:a6=b6<;>simp [h1,h2,h3,h4,h5,h6,h7]
section
variable {wz:World} {base p:Nat} {v0:Value} {c sd cx cy x y:Nat} {n:Net} {vs vr vw:Value} {col:Nat→Nat} {w:World} {Rx Ry:Rc}
theorem Sd.stream (h:Sd wz base p v0 c sd cx cy x y n vs vr vw col w Rx Ry) (s:Nat) (hs:s<n.streams.length):∃ gS cS av cv,w.cell? ⟨y,0,none⟩=some (.slice (some ⟨gS,0,none⟩) n.streams.length cS)∧w.cell? ⟨gS,s*5,none⟩=some (.bool (srcd n s))∧w.cell? ⟨gS,s*5+1,none⟩=some (.bool (used n s))∧w.cell? ⟨gS,s*5+2,none⟩=some (.slice av (Ry.s s).words.length cv)∧w.cell? ⟨gS,s*5+3,none⟩=some (.int .i64 ((Ry.s s).read:Int))∧w.cell? ⟨gS,s*5+4,none⟩=some (.int .i64 ((Ry.s s).room:Int))∧(Ry.s s).read≤(Ry.s s).words.length:=by
 obtain ⟨L,rfl,h2, -, -⟩:=h.at'.hy.ex
 obtain ⟨av,cv,hv⟩:=own_slice (h2.words s hs)
 have c2:=h2.sc hs 2 _ (by decide) rfl
 rw [hv] at c2
 exact ⟨L.gS,L.cS,av,cv,(blk_cell (l:=[_,_]) h2.blk 0 _ rfl).1,h2.sc hs 0 _ (by decide) rfl,h2.sc hs 1 _ (by decide) rfl,c2,h2.sc hs 3 _ (by decide) rfl,h2.sc hs 4 _ (by decide) rfl,h2.le s hs⟩
set_option maxRecDepth 100000 in
set_option maxHeartbeats 4000000 in
theorem rooms_calls {R:Rc} {d:Nat} (h:Sd wz base p v0 c sd cx cy x y n vs vr vw col w R R) (hf:Fine n R d) (hd:d≤1099511627776) (k:Int) :
  Calls Tryz.prog 34 #[.pointer (some ⟨sd,0,none⟩),.int .i64 k] w fun e w'=>e=.returned (.bool true)∧Turn wz base p v0 c sd cx cy x y n vs vr vw col w R R w':=by
 obtain ⟨s0,s1,gS,gW,cS,cW,y0,y1⟩:=h.cells
 rcases in_cases k n.streams.length with ⟨j,rfl,hj⟩ | ⟨hin,hout⟩
 ·have HX:=hide (has_room h.at'.hx j hj)
  have hlen:=hf.words j hj
  have HY:Hid (∀ w1,Below w.heap.size w w1→w1.cell? ⟨sd,0,none⟩=some (.pointer (some ⟨x,0,none⟩))∧w1.cell? ⟨sd,1,none⟩=some (.pointer (some ⟨y,0,none⟩))∧∃ gS cS av cv,w1.cell? ⟨y,0,none⟩=some (.slice (some ⟨gS,0,none⟩) n.streams.length cS)∧w1.cell? ⟨gS,j*5,none⟩=some (.bool (srcd n j))∧w1.cell? ⟨gS,j*5+1,none⟩=some (.bool (used n j))∧w1.cell? ⟨gS,j*5+2,none⟩=some (.slice av (R.s j).words.length cv)∧w1.cell? ⟨gS,j*5+3,none⟩=some (.int .i64 ((R.s j).read:Int))∧w1.cell? ⟨gS,j*5+4,none⟩=some (.int .i64 ((R.s j).room:Int))∧(R.s j).read≤(R.s j).words.length):=fun w1 hb=>by
   have h1:=h.belowQ 22 hb
   obtain ⟨q1,q2, -⟩:=h1.cells
   exact ⟨q1,q2,h1.stream j hj⟩
  have HPo:Hid (∀ w1,Below w.heap.size w w1→Turn wz base p v0 c sd cx cy x y n vs vr vw col w R R w1):=fun w1 hb=>h.below hb
  have hj0:(0:Int)≤(j:Int):=by omega
  have hj1:(j:Int)<(n.streams.length:Int):=by omega
  clear h hf s0 s1 y0 y1 gS cS gW cW
  cases hsr:srcd n j
  ·cases hus:used n j
   ·have hh:heldB n j=false:=by simp [heldB,hus]
    rw [hh] at HX
    simp only [Bool.false_eq_true,if_false] at HX
    rw [hsr,hus] at HY
    go_enter Tryz.func34,Tryz.ntmps34
    obtain ⟨s0, -⟩:=HY.out w (Below.refl _ _)
    go_wp2_with fail
    refine (unhide HX).mono ?_
    rintro e w1 ⟨rfl,hb⟩
    obtain ⟨s0,s1,gS,cS,av,cv,y0,c0,c1,c2,c3,c4,hle⟩:=HY.out w1 hb
    have HPo1:=hide (fun o=>HPo.out _ (hb.alloc hb.size o))
    clear HX HY hb HPo
    go_wp2
    go_ret
    exact ⟨rfl,HPo1.out _⟩
   ·have hh:heldB n j=true:=by simp [heldB,hus,hsr]
    rw [hh] at HX
    simp only [if_true] at HX
    rw [hsr,hus] at HY
    go_enter Tryz.func34,Tryz.ntmps34
    obtain ⟨s0, -⟩:=HY.out w (Below.refl _ _)
    go_wp2_with fail
    refine (unhide HX).mono ?_
    rintro e w1 ⟨rfl,hb⟩
    obtain ⟨s0,s1,gS,cS,av,cv,y0,c0,c1,c2,c3,c4,hle⟩:=HY.out w1 hb
    have HPo1:=hide (fun o=>HPo.out _ (hb.alloc hb.size o))
    have wr1:wrap64 (((R.s j).words.length:Int)-((R.s j).read:Int))=(((R.s j).words.length-(R.s j).read:Nat):Int):=by unfold wrap64;omega
    clear HX HY hb HPo hlen
    go_wp2
    go_ret
    exact ⟨rfl,HPo1.out _⟩
  ·have hh:heldB n j=false:=by simp [heldB,hsr]
   rw [hh] at HX
   simp only [Bool.false_eq_true,if_false] at HX
   rw [hsr] at HY
   go_enter Tryz.func34,Tryz.ntmps34
   obtain ⟨s0, -⟩:=HY.out w (Below.refl _ _)
   go_wp2_with fail
   refine (unhide HX).mono ?_
   rintro e w1 ⟨rfl,hb⟩
   obtain ⟨s0,s1,gS,cS,av,cv,y0,c0,c1,c2,c3,c4,hle⟩:=HY.out w1 hb
   have HPo1:=hide (fun o=>HPo.out _ (hb.alloc hb.size o))
   clear HX HY hb HPo
   go_wp2
   go_ret
   exact ⟨rfl,HPo1.out _⟩
 ·have HX:=hide (has_room_out h.at'.hx k hin)
  have HPo:=hide h.refl
  clear h hf hin hd
  rcases hout with hk | ⟨hk0,hk1⟩
  ·go_enter Tryz.func34,Tryz.ntmps34
   go_wp2_with fail
   refine (unhide HX).mono ?_
   rintro e w1 ⟨rfl,rfl⟩
   go_wp2
   go_ret
   exact ⟨rfl,HPo.out⟩
  ·go_enter Tryz.func34,Tryz.ntmps34
   go_wp2_with fail
   refine (unhide HX).mono ?_
   rintro e w1 ⟨rfl,rfl⟩
   go_wp2
   go_ret
   exact ⟨rfl,HPo.out⟩
end
section
variable {wz:World} {base p:Nat} {v0:Value} {c sd cx cy x y:Nat} {n:Net} {vs vr vw:Value} {col:Nat→Nat} {w:World} {Rx Ry:Rc}
theorem Sd.worker (h:Sd wz base p v0 c sd cx cy x y n vs vr vw col w Rx Ry) (k:Nat) (hk:k<n.workers.length):∃ gW cW vc,w.cell? ⟨y,1,none⟩=some (.slice (some ⟨gW,0,none⟩) n.workers.length cW)∧w.cell? ⟨gW,k*7,none⟩=some vc∧w.cell? ⟨gW,k*7+1,none⟩=some (.int .i64 ((Ry.w k).place:Int))∧w.cell? ⟨gW,k*7+2,none⟩=some (.int .i64 ((Ry.w k).r 0))∧w.cell? ⟨gW,k*7+3,none⟩=some (.int .i64 ((Ry.w k).r 1))∧w.cell? ⟨gW,k*7+4,none⟩=some (.int .i64 ((Ry.w k).r 2))∧w.cell? ⟨gW,k*7+5,none⟩=some (.int .i64 ((Ry.w k).r 3))∧w.cell? ⟨gW,k*7+6,none⟩=some (.int .i64 ((Ry.w k).steps))∧∃ a l cc,vc=.slice a l cc:=by
 obtain ⟨L,rfl,h2, -, -⟩:=h.at'.hy.ex
 obtain ⟨ca,cc,hvc, -⟩:=(h2.code k hk).openD
 exact ⟨L.gW,L.cW,L.VC k,(blk_cell (l:=[_,_]) h2.blk 1 _ rfl).1,h2.wc hk 0 _ (by decide) rfl,h2.wc hk 1 _ (by decide) rfl,h2.wc hk 2 _ (by decide) rfl,h2.wc hk 3 _ (by decide) rfl,h2.wc hk 4 _ (by decide) rfl,h2.wc hk 5 _ (by decide) rfl,h2.wc hk 6 _ (by decide) rfl,_,_,_,hvc⟩
set_option maxRecDepth 100000 in
set_option maxHeartbeats 4000000 in
theorem looks_calls {R:Rc} (h:Sd wz base p v0 c sd cx cy x y n vs vr vw col w R R) (k:Int) :
  Calls Tryz.prog 32 #[.pointer (some ⟨sd,0,none⟩),.int .i64 k] w fun e w'=>e=.returned (.bool true)∧Turn wz base p v0 c sd cx cy x y n vs vr vw col w R R w':=by
 obtain ⟨s0,s1,gS,gW,cS,cW,y0,y1⟩:=h.cells
 rcases in_cases k n.workers.length with ⟨j,rfl,hj⟩ | ⟨hin,hout⟩
 ·have HX:=hide (has_look h.at'.hx j hj)
  have HY:Hid (∀ w1,Below w.heap.size w w1→(w1.cell? ⟨sd,0,none⟩=some (.pointer (some ⟨x,0,none⟩))∧w1.cell? ⟨sd,1,none⟩=some (.pointer (some ⟨y,0,none⟩)))∧(∃ gW cW vc,w1.cell? ⟨y,1,none⟩=some (.slice (some ⟨gW,0,none⟩) n.workers.length cW)∧w1.cell? ⟨gW,j*7,none⟩=some vc∧w1.cell? ⟨gW,j*7+1,none⟩=some (.int .i64 ((R.w j).place:Int))∧w1.cell? ⟨gW,j*7+2,none⟩=some (.int .i64 ((R.w j).r 0))∧w1.cell? ⟨gW,j*7+3,none⟩=some (.int .i64 ((R.w j).r 1))∧w1.cell? ⟨gW,j*7+4,none⟩=some (.int .i64 ((R.w j).r 2))∧w1.cell? ⟨gW,j*7+5,none⟩=some (.int .i64 ((R.w j).r 3))∧w1.cell? ⟨gW,j*7+6,none⟩=some (.int .i64 ((R.w j).steps))∧∃ a l cc,vc=.slice a l cc) ∧
    Calls Tryz.prog 63 #[.pointer (some ⟨y,0,none⟩),.int .i64 j] w1 fun e w'=>e=.returned (.int .i64 (stateOf n R j))∧Below w1.heap.size w1 w'):=fun w1 hb=>by
   have h1:=h.belowQ 22 hb
   obtain ⟨q1,q2, -⟩:=h1.cells
   exact ⟨⟨q1,q2⟩,h1.worker j hj,rhas_state h1.at'.hy j hj⟩
  have HPo:Hid (∀ w1,Below w.heap.size w w1→Turn wz base p v0 c sd cx cy x y n vs vr vw col w R R w1):=fun w1 hb=>h.below hb
  have hj0:(0:Int)≤(j:Int):=by omega
  have hj1:(j:Int)<(n.workers.length:Int):=by omega
  simp only [lookVal] at HX
  generalize (stateOf n R j:Int)=st at *
  generalize ((R.w j).place:Int)=a0 at *
  generalize (R.w j).r 0=a1 at *
  generalize (R.w j).r 1=a2 at *
  generalize (R.w j).r 2=a3 at *
  generalize (R.w j).r 3=a4 at *
  generalize (R.w j).steps=a5 at *
  clear h s1 y0 y1 gS cS gW cW
  have hlk:∀ wx:World,(Op.equalIn 10000 90 (.agg #[.int .i64 a1,.int .i64 a2,.int .i64 a3,.int .i64 a4]) (.agg #[.int .i64 a1,.int .i64 a2,.int .i64 a3,.int .i64 a4])).run Tryz.prog wx=.ok true wx:=fun wx=>by
   have:=eqRegs 9998 a1 a2 a3 a4 a1 a2 a3 a4 wx
   simpa using this
  go_enter Tryz.func32,Tryz.ntmps32
  go_wp2_with fail
  refine (unhide HX).mono ?_
  rintro e w1 ⟨rfl,hb⟩
  obtain ⟨⟨s0,s1⟩,⟨gW,cW,vc,y1,d0,d1,d2,d3,d4,d5,d6,va,vl,vcc,rfl⟩, -⟩:=HY.out w1 hb
  have z0:=lt_of_cell s0
  have z1:=lt_of_cell y1
  have z2:=lt_of_cell d0
  have HB1:=hide hb
  clear hb HX
  go_upto_region 5 with fail
  have hk3:((w1.alloc (.cells #[.int .i64 a0,.int .i64 a1,.int .i64 a2,.int .i64 a3,.int .i64 a4,.int .i64 a5,.int .i64 st] 123)).alloc (.cells #[.slice va vl vcc,.int .i64 a0,.int .i64 a1,.int .i64 a2,.int .i64 a3,.int .i64 a4,.int .i64 a5] 92)).heap[w1.heap.size]? = some (.cells #[.int .i64 a0,.int .i64 a1,.int .i64 a2,.int .i64 a3,.int .i64 a4,.int .i64 a5,.int .i64 st] 123 (0,0)):=heapOld (by simp) (heapNew rfl)
  have hx3:((w1.alloc (.cells #[.int .i64 a0,.int .i64 a1,.int .i64 a2,.int .i64 a3,.int .i64 a4,.int .i64 a5,.int .i64 st] 123)).alloc (.cells #[.slice va vl vcc,.int .i64 a0,.int .i64 a1,.int .i64 a2,.int .i64 a3,.int .i64 a4,.int .i64 a5] 92)).heap[w1.heap.size+1]? = some (.cells #[.slice va vl vcc,.int .i64 a0,.int .i64 a1,.int .i64 a2,.int .i64 a3,.int .i64 a4,.int .i64 a5] 92 (0,0)):=heapNew (by simp)
  have hb3:Below w.heap.size w ((w1.alloc (.cells #[.int .i64 a0,.int .i64 a1,.int .i64 a2,.int .i64 a3,.int .i64 a4,.int .i64 a5,.int .i64 st] 123)).alloc (.cells #[.slice va vl vcc,.int .i64 a0,.int .i64 a1,.int .i64 a2,.int .i64 a3,.int .i64 a4,.int .i64 a5] 92)):=HB1.out.trans ((((Below.refl _ _).alloc (Nat.le_refl _) _).alloc (by simp) _).mono HB1.out.size)
  generalize (w1.alloc (.cells #[.int .i64 a0,.int .i64 a1,.int .i64 a2,.int .i64 a3,.int .i64 a4,.int .i64 a5,.int .i64 st] 123)).alloc (.cells #[.slice va vl vcc,.int .i64 a0,.int .i64 a1,.int .i64 a2,.int .i64 a3,.int .i64 a4,.int .i64 a5] 92)=w3 at *
  generalize w1.heap.size=kb at *
  clear HB1 s0 s1 y1 d0 d1 d2 d3 d4 d5 d6 z0 z1 z2
  have HSt:Hid (Calls Tryz.prog 63 #[.pointer (some ⟨y,0,none⟩),.int .i64 j] w3.drew fun e w'=>e=.returned (.int .i64 st)∧(w'.cell? ⟨sd,1,none⟩=some (.pointer (some ⟨y,0,none⟩))∧w'.cell? ⟨kb,0,none⟩=some (.int .i64 a0)∧w'.cell? ⟨kb,1,none⟩=some (.int .i64 a1)∧w'.cell? ⟨kb,2,none⟩=some (.int .i64 a2)∧w'.cell? ⟨kb,3,none⟩=some (.int .i64 a3)∧w'.cell? ⟨kb,4,none⟩=some (.int .i64 a4)∧w'.cell? ⟨kb,5,none⟩=some (.int .i64 a5)∧w'.cell? ⟨kb,6,none⟩=some (.int .i64 st)∧w'.cell? ⟨kb+1,1,none⟩=some (.int .i64 a0)∧w'.cell? ⟨kb+1,2,none⟩=some (.int .i64 a1)∧w'.cell? ⟨kb+1,3,none⟩=some (.int .i64 a2)∧w'.cell? ⟨kb+1,4,none⟩=some (.int .i64 a3)∧w'.cell? ⟨kb+1,5,none⟩=some (.int .i64 a4)∧w'.cell? ⟨kb+1,6,none⟩=some (.int .i64 a5))∧Turn wz base p v0 c sd cx cy x y n vs vr vw col w R R w'):=by
   have hb4:Below w.heap.size w w3.drew:=hb3.drew
   refine (HY.out w3.drew hb4).2.2.mono fun e w' ⟨q1,q2⟩=>⟨q1,?_,HPo.out w' (hb4.trans (q2.mono hb4.size))⟩
   have k4:=(q2.block _ (lt_of_blk hk3)).trans hk3
   have x4:=(q2.block _ (lt_of_blk hx3)).trans hx3
   exact ⟨((HY.out w' (hb4.trans (q2.mono hb4.size))).1).2,(blk_cell (l:=[_,_,_,_,_,_,_]) k4 0 _ rfl).1,(blk_cell (l:=[_,_,_,_,_,_,_]) k4 1 _ rfl).1,(blk_cell (l:=[_,_,_,_,_,_,_]) k4 2 _ rfl).1,(blk_cell (l:=[_,_,_,_,_,_,_]) k4 3 _ rfl).1,(blk_cell (l:=[_,_,_,_,_,_,_]) k4 4 _ rfl).1,(blk_cell (l:=[_,_,_,_,_,_,_]) k4 5 _ rfl).1,(blk_cell (l:=[_,_,_,_,_,_,_]) k4 6 _ rfl).1,(blk_cell (l:=[_,_,_,_,_,_,_]) x4 1 _ rfl).1,(blk_cell (l:=[_,_,_,_,_,_,_]) x4 2 _ rfl).1,(blk_cell (l:=[_,_,_,_,_,_,_]) x4 3 _ rfl).1,(blk_cell (l:=[_,_,_,_,_,_,_]) x4 4 _ rfl).1,(blk_cell (l:=[_,_,_,_,_,_,_]) x4 5 _ rfl).1,(blk_cell (l:=[_,_,_,_,_,_,_]) x4 6 _ rfl).1⟩
  obtain ⟨-,s1⟩:=(HY.out w3 hb3).1
  have k0:=(blk_cell (l:=[_,_,_,_,_,_,_]) hk3 0 _ rfl).1
  have k1:=(blk_cell (l:=[_,_,_,_,_,_,_]) hk3 1 _ rfl).1
  have k2:=(blk_cell (l:=[_,_,_,_,_,_,_]) hk3 2 _ rfl).1
  have k3:=(blk_cell (l:=[_,_,_,_,_,_,_]) hk3 3 _ rfl).1
  have k4:=(blk_cell (l:=[_,_,_,_,_,_,_]) hk3 4 _ rfl).1
  have k5:=(blk_cell (l:=[_,_,_,_,_,_,_]) hk3 5 _ rfl).1
  have k6:=(blk_cell (l:=[_,_,_,_,_,_,_]) hk3 6 _ rfl).1
  have x1:=(blk_cell (l:=[_,_,_,_,_,_,_]) hx3 1 _ rfl).1
  have x2:=(blk_cell (l:=[_,_,_,_,_,_,_]) hx3 2 _ rfl).1
  have x3:=(blk_cell (l:=[_,_,_,_,_,_,_]) hx3 3 _ rfl).1
  have x4:=(blk_cell (l:=[_,_,_,_,_,_,_]) hx3 4 _ rfl).1
  have x5:=(blk_cell (l:=[_,_,_,_,_,_,_]) hx3 5 _ rfl).1
  have x6:=(blk_cell (l:=[_,_,_,_,_,_,_]) hx3 6 _ rfl).1
  clear hk3 hx3 hb3 HY HPo
  go_region_held3 (fun w'=>w'.cell? ⟨sd,1,none⟩=some (.pointer (some ⟨y,0,none⟩))∧w'.cell? ⟨kb,0,none⟩=some (.int .i64 a0)∧w'.cell? ⟨kb,1,none⟩=some (.int .i64 a1)∧w'.cell? ⟨kb,2,none⟩=some (.int .i64 a2)∧w'.cell? ⟨kb,3,none⟩=some (.int .i64 a3)∧w'.cell? ⟨kb,4,none⟩=some (.int .i64 a4)∧w'.cell? ⟨kb,5,none⟩=some (.int .i64 a5)∧w'.cell? ⟨kb,6,none⟩=some (.int .i64 st)∧w'.cell? ⟨kb+1,1,none⟩=some (.int .i64 a0)∧w'.cell? ⟨kb+1,2,none⟩=some (.int .i64 a1)∧w'.cell? ⟨kb+1,3,none⟩=some (.int .i64 a2)∧w'.cell? ⟨kb+1,4,none⟩=some (.int .i64 a3)∧w'.cell? ⟨kb+1,5,none⟩=some (.int .i64 a4)∧w'.cell? ⟨kb+1,6,none⟩=some (.int .i64 a5)) (first | exact ⟨s1,k0,k1,k2,k3,k4,k5,k6,x1,x2,x3,x4,x5,x6⟩ | assumption | go_keep)
   ((go_at_call 63;refine (unhide HSt).mono ?_;rintro e w4 ⟨rfl,hS4,hT4⟩;have HT4:=hide hT4;clear hT4))
  go_wp2
  go_ret
  exact ⟨rfl,HT4.out⟩
 ·have HX:=hide (has_look_out h.at'.hx k hin)
  have HY:Hid (∀ w1,Below w.heap.size w w1→w1.cell? ⟨sd,0,none⟩=some (.pointer (some ⟨x,0,none⟩))∧w1.cell? ⟨sd,1,none⟩=some (.pointer (some ⟨y,0,none⟩))∧∃ gS gW cS cW,w1.cell? ⟨y,0,none⟩=some (.slice (some ⟨gS,0,none⟩) n.streams.length cS)∧w1.cell? ⟨y,1,none⟩=some (.slice (some ⟨gW,0,none⟩) n.workers.length cW)):=fun w1 hb=>(h.belowQ 22 hb).cells
  have HPo:Hid (∀ w1,Below w.heap.size w w1→Turn wz base p v0 c sd cx cy x y n vs vr vw col w R R w1):=fun w1 hb=>h.below hb
  have hlk:∀ wx:World,(Op.equalIn 10000 123 (.agg #[.int .i64 0,.int .i64 0,.int .i64 0,.int .i64 0,.int .i64 0,.int .i64 0,.int .i64 0]) (.agg #[.int .i64 0,.int .i64 0,.int .i64 0,.int .i64 0,.int .i64 0,.int .i64 0,.int .i64 0])).run Tryz.prog wx=.ok true wx:=fun wx=>by
   have:=eqLook 0 0 0 0 0 0 0 0 0 0 0 0 0 0 wx
   simpa using this
  clear h hin s1 y0 y1
  rcases hout with hk | ⟨hk0,hk1⟩
  ·go_enter Tryz.func32,Tryz.ntmps32
   go_wp2_with fail
   refine (unhide HX).mono ?_
   rintro e w1 ⟨rfl,hb⟩
   have HPo1:=hide (fun o=>HPo.out _ (hb.alloc hb.size o))
   clear HX HY hb HPo
   go_wp2
   go_ret
   exact ⟨rfl,HPo1.out _⟩
  ·go_enter Tryz.func32,Tryz.ntmps32
   go_wp2_with fail
   refine (unhide HX).mono ?_
   rintro e w1 ⟨rfl,hb⟩
   obtain ⟨s0,s1,gS,gW,cS,cW,y0,y1⟩:=HY.out w1 hb
   have HPo1:=hide (fun o=>HPo.out _ (hb.alloc hb.size o))
   have z0:=lt_of_cell s0
   have z1:=lt_of_cell y1
   clear HX HY hb HPo
   go_wp2
   go_ret
   exact ⟨rfl,HPo1.out _⟩
end
section
variable {P:Program} (w:World)
theorem run_append_keep (t ty:TypeId) (base:Nat) (e:TypeId) (i:TypeInfo) (z:Value) (size bytes:Nat) (ht:P.underlying t=some (.slice e)) (hi:P.info? e=some i) (hz:i.zero=some z)
  (hsize:i.size=size) (hby:i.bytes=bytes) (hzs:z.cells.size=size) (hsz:0<size)
  (v:Value) (n:Nat) (xs:List Value) (hown:w.ownsRow base e size v n xs)
  (ad:Addr) (m c:Nat) (news:List Value) (hl:news.length=m*size) (hnews:∀ j u,news[j]? = some u→w.cell? (ad.add j)=some u) (h1:∀ u∈news,u.oneCell'=true)
  (hm:0<m) (h63:n+m≤maxLen) (hbytes:(n+m)*bytes≤140737488355328) (hbase:base≤w.heap.size) (H:Nat) (hH:w.heap.size=H) :
  ∃ g cap w',(Builtin.append_ #[t,t] ty #[v,.slice (some ad) m c]).run P w=.ok (.slice (some ⟨g,0,none⟩) (n+m) cap) w' ∧
   w'.ownsRow base e size (.slice (some ⟨g,0,none⟩) (n+m) cap) (n+m) (xs++news)∧w.grownBy w' v.ownBlock∧(v.ownBlock=some g∨(g=H∧∀ b,b<H→w'.heap[b]? = w.heap[b]?))∧g<w'.heap.size:=by
 obtain ⟨g,cap,w',hr,h2,h3,h4,h5⟩:=run_append_lies (P:=P) w t ty base e i z size bytes ht hi hz hsize hby hzs hsz v n xs hown ad m c news hl hnews h1 hm h63 hbytes hbase H hH
 refine ⟨g,cap,w',hr,h2,h3,?_,h5⟩
 rcases h4 with h4 | h4
 ·exact Or.inl h4
 ·refine Or.inr ⟨h4,fun b hb=>?_⟩
  by_cases hne:v.ownBlock=some b
  ·subst hsize
   subst hby
   subst hH
   have h63':n+m≤9223372036854775807:=by simp only [maxLen] at h63;omega
   rcases hown.2 with ⟨rfl,rfl⟩ | ⟨g0,cap0,cur,rfl,hbg,hg,hnc,hcm,hcs,htake⟩
   ·cases hne
   ·by_cases hroom:n+m≤cap0
    ·have hfit:n*i.size+news.length≤cur.size:=by rw [hl,hcs, ← Nat.add_mul];exact Nat.mul_le_mul_right _ hroom
     have hr':=run_append_room (P:=P) w t ty e i ht hi g0 n cap0 cur hg ad m c news hl hnews h1 hroom hfit
     rw [hr'] at hr
     simp only [Result.ok.injEq,Value.slice.injEq,Option.some.injEq,Addr.mk.injEq] at hr
     have e1:g0=g:=hr.1.1.1
     have:=lt_of_blk hg
     omega
    ·have holds:∀ j u,xs[j]? = some u→w.cell? ((⟨g0,0,none⟩:Addr).add j)=some u:=hown.cells (g:=g0) rfl
     have hr':=run_append_grow (P:=P) w t ty e i z ht hi hz ⟨g0,0,none⟩ n cap0 xs hown.1 holds ad m c news hl hnews (by omega) (by omega) (growslice_fits (by omega) hbytes)
     rw [hr'] at hr
     simp only [Result.ok.injEq] at hr
     rw [← hr.2]
     exact Below.heap_alloc w.drew _ b hb
  ·exact h3.block b (by omega) (fun e=>hne e.symm)
theorem wp_append_keep {o:Oper} {a:Act} {K:Act→World→Prop} {Q:Exit→Act→World→Prop} (s x:Operand) (t:TypeId)
  (ho:o.op=.call {callee:=.builtin .append,args:=#[s,x],argTypes:=#[t,t]})
  (base:Nat) (e:TypeId) (i:TypeInfo) (z:Value) (size bytes:Nat) (ht:P.underlying t=some (.slice e)) (hi:P.info? e=some i) (hz:i.zero=some z)
  (hsize:i.size=size) (hby:i.bytes=bytes) (hzs:z.cells.size=size) (hsz:0<size)
  (v:Value) (n:Nat) (xs:List Value) (hs:a.eval s=v) (hown:w.ownsRow base e size v n xs)
  (ad:Addr) (m c:Nat) (news:List Value) (hx:a.eval x=.slice (some ad) m c) (hl:news.length=m*size) (hnews:∀ j u,news[j]? = some u→w.cell? (ad.add j)=some u) (h1:∀ u∈news,u.oneCell'=true)
  (hm:0<m) (h63:n+m≤maxLen) (hbytes:(n+m)*bytes≤140737488355328) (hbase:base≤w.heap.size) (H:Nat) (hH:w.heap.size=H)
  (h:∀ g cap w',w'.ownsRow base e size (.slice (some ⟨g,0,none⟩) (n+m) cap) (n+m) (xs++news)→w.grownBy w' v.ownBlock→(v.ownBlock=some g∨(g=H∧∀ b,b<H→w'.heap[b]? = w.heap[b]?))→g<w'.heap.size→K (a.put o.dst (.slice (some ⟨g,0,none⟩) (n+m) cap)) w'):o.wp P a w K Q:=by
 obtain ⟨g,cap,w',hr,h2,h3,h4,h5⟩:=run_append_keep (P:=P) w t o.type base e i z size bytes ht hi hz hsize hby hzs hsz v n xs hown ad m c news hl hnews h1 hm h63 hbytes hbase H hH
 unfold Oper.wp execOp
 simp only [ho,resolve,invoke,builtin,Sem.run_bind,Sem.run_pure,Result.andThen_ok,List.map_toArray,List.map_cons,List.map_nil,hs,hx,hr]
 exact h g cap w' h2 h3 h4 h5
theorem wpList_append_keep {ops:Array Oper} {rest:List Oper} {o:Oper} {a:Act} {Q:Exit→Act→World→Prop} (hgd:o.guard=none) (s x:Operand) (t:TypeId)
  (ho:o.op=.call {callee:=.builtin .append,args:=#[s,x],argTypes:=#[t,t]})
  (base:Nat) (e:TypeId) (i:TypeInfo) (z:Value) (size bytes:Nat) (ht:P.underlying t=some (.slice e)) (hi:P.info? e=some i) (hz:i.zero=some z)
  (hsize:i.size=size) (hby:i.bytes=bytes) (hzs:z.cells.size=size) (hsz:0<size)
  (v:Value) (n:Nat) (xs:List Value) (hs:a.eval s=v) (hown:w.ownsRow base e size v n xs)
  (ad:Addr) (m c:Nat) (news:List Value) (hx:a.eval x=.slice (some ad) m c) (hl:news.length=m*size) (hnews:∀ j u,news[j]? = some u→w.cell? (ad.add j)=some u) (h1:∀ u∈news,u.oneCell'=true)
  (hm:0<m) (h63:n+m≤maxLen) (hbytes:(n+m)*bytes≤140737488355328) (hbase:base≤w.heap.size) (H:Nat) (hH:w.heap.size=H)
  (h:∀ g cap w',w'.ownsRow base e size (.slice (some ⟨g,0,none⟩) (n+m) cap) (n+m) (xs++news)→w.grownBy w' v.ownBlock→(v.ownBlock=some g∨(g=H∧∀ b,b<H→w'.heap[b]? = w.heap[b]?))→g<w'.heap.size→wpList P ops Q rest (a.put o.dst (.slice (some ⟨g,0,none⟩) (n+m) cap)) w'):wpList P ops Q (o::rest) a w:=
 wpList_plain hgd fun _ hK=>wp_append_keep w s x t ho base e i z size bytes ht hi hz hsize hby hzs hsz v n xs hs hown ad m c news hx hl hnews h1 hm h63 hbytes hbase H hH fun g cap w' h2 h3 h4 h5=>hK _ _ (h g cap w' h2 h3 h4 h5)
end
theorem own_set {w:World} {base n:Nat} {t:TypeId} {g cap i:Nat} {vals:List Value} (h:w.ownsRow base t 1 (.slice (some ⟨g,0,none⟩) n cap) n vals) (x:Value):(w.setCell ⟨g,i,none⟩ x).ownsRow base t 1 (.slice (some ⟨g,0,none⟩) n cap) n (vals.set i x):=by
 obtain ⟨h1,h2⟩:=h
 refine ⟨by simpa using h1,?_⟩
 rcases h2 with ⟨hv, -⟩ | ⟨g',cap',cur,hv,hg,hh,hn,hm,hs,ht⟩
 ·cases hv
 ·cases hv
  have hh':w.heap[g]? = some (.cells cur.toList.toArray t (0,0)):=by simpa using hh
  refine Or.inr ⟨g,cap,(cur.toList.set i x).toArray,rfl,hg,blk_set hh' i x,hn,hm,by simpa using hs,?_⟩
  rw [← ht,List.take_set]
def NumsAt (w:World) (x:Int) (M:Nat) (u:Value):Prop:=
 ∃ a m c,u=.slice a m c∧m≤M∧m≤c∧((a=none∧m=0)∨∃ b cs,a=some ⟨b,0,none⟩∧w.heap[b]? = some (.cells cs 3 (0,0))∧∀ j,j<m→cs.toList[j]? = some (.int .i64 x))
theorem nums_of_own {w:World} {base M:Nat} {u:Value} {x:Int} (h:w.ownsRow base 3 1 u M (List.replicate M (.int .i64 x))):NumsAt w x M u:=by
 rcases h.2 with ⟨rfl,rfl⟩ | ⟨g,cap,cur,rfl,hg,hh,hn,hm,hs,ht⟩
 ·exact ⟨none,0,0,rfl,Nat.le_refl _,Nat.le_refl _,Or.inl ⟨rfl,rfl⟩⟩
 ·refine ⟨_,M,cap,rfl,Nat.le_refl _,hn,Or.inr ⟨g,cur,rfl,hh,fun j hj=>?_⟩⟩
  have e:(cur.toList.take (M*1))[j]? = (List.replicate M (Value.int .i64 x))[j]? := by rw [ht]
  rw [List.getElem?_take_of_lt (by omega),List.getElem?_replicate] at e
  rw [e,if_pos hj]
theorem NumsAt.sl {w:World} {x:Int} {M:Nat} {u:Value} (h:NumsAt w x M u) (hM:M≤140737488355328):∃ m,Sl w u m 1 fun _ _=>.int .i64 x:=by
 obtain ⟨a,m,c,rfl,h1,h2,h3⟩:=h
 refine ⟨m,a,c,rfl,by omega,h2,?_⟩
 rcases h3 with ⟨rfl,rfl⟩ | ⟨b,cs,rfl,hb,hc⟩
 ·exact Or.inl rfl
 ·refine Or.inr ⟨b,0,rfl,fun i hi j hj=>?_⟩
  have hb':w.heap[b]? = some (.cells cs.toList.toArray 3 (0,0)):=by simpa using hb
  have:0+i*1+j=i:=by omega
  rw [this]
  exact row_cell hb' (hc i hi)
theorem NumsAt.far {w w':World} {x:Int} {M:Nat} {u:Value} (h:NumsAt w x M u) (hk:∀ (b:Nat) (cs:Array Value),w.heap[b]? = some (.cells cs 3 (0,0))→w'.heap[b]? = w.heap[b]?):NumsAt w' x M u:=by
 obtain ⟨a,m,c,rfl,h1,h2,h3⟩:=h
 refine ⟨a,m,c,rfl,h1,h2,?_⟩
 rcases h3 with h3 | ⟨b,cs,rfl,hb,hc⟩
 ·exact Or.inl h3
 ·exact Or.inr ⟨b,cs,rfl,(hk b cs hb).trans hb,hc⟩
theorem NumsAt.app {w w':World} {base:Nat} {x:Int} {M:Nat} {u l:Value} {g cap:Nat} (h:NumsAt w x M u) (ho:w'.ownsRow base 3 1 (.slice (some ⟨g,0,none⟩) (M+1) cap) (M+1) (List.replicate (M+1) (.int .i64 x))) (hg:w.grownBy w' l.ownBlock) (hor:l.ownBlock=some g∨(∀ b,b<w.heap.size→w'.heap[b]? = w.heap[b]?)):NumsAt w' x (M+1) u:=by
 obtain ⟨a,m,c,rfl,h1,h2,h3⟩:=h
 refine ⟨a,m,c,rfl,by omega,h2,?_⟩
 rcases h3 with h3 | ⟨b,cs,rfl,hb,hc⟩
 ·exact Or.inl h3
 ·rcases hor with hor | hor
  ·by_cases e:b=g
   ·subst e
    rcases ho.2 with ⟨hv, -⟩ | ⟨g',cap',cur,hv, -,hh, -, -, -,ht⟩
    ·cases hv
    ·cases hv
     refine Or.inr ⟨b,cur,rfl,hh,fun j hj=>?_⟩
     have e:(cur.toList.take ((M+1)*1))[j]? = (List.replicate (M+1) (Value.int .i64 x))[j]? := by rw [ht]
     rw [List.getElem?_take_of_lt (by omega),List.getElem?_replicate] at e
     rw [e,if_pos (by omega)]
   ·refine Or.inr ⟨b,cs,rfl,(hg.block b (lt_of_blk hb) (fun e'=>e ?_)).trans hb,hc⟩
    rw [hor] at e'
    exact Option.some.inj e'
  ·exact Or.inr ⟨b,cs,rfl,(hor b (lt_of_blk hb)).trans hb,hc⟩
def NumsIn (w0 w:World) (g0:Option Nat) (u:Value):Prop:=∀ b,u.ownBlock=some b→b<w.heap.size∧(g0=some b∨w0.heap.size≤b)∧∃ cs,w.heap[b]? = some (.cells cs 3 (0,0))
structure Kn (base B:Nat) (w0:World) (p:Nat) (cs0 vals0:List Value) (v2:Value) (g0:Option Nat) (x:Int) (M i:Nat) (vn:Value) (news:List Value) (l:Value) (w:World):Prop where
 blk:w.heap[p]? = some (.cells (cs0.set 2 vn).toArray 35 (0,0))
 row:w.ownsRow base 22 1 vn (vals0.length+i) (vals0++news)
 rowAt:∀ b,vn.ownBlock=some b→v2.ownBlock=some b∨w0.heap.size≤b
 len:news.length=i
 nums:∀ u∈news,NumsAt w x M u
 ins:∀ u∈news,NumsIn w0 w g0 u
 own:w.ownsRow B 3 1 l M (List.replicate M (.int .i64 x))
 lin:NumsIn w0 w g0 l
 fr:Fr (fun b=>b=p∨v2.ownBlock=some b∨g0=some b) w0 w
theorem own_typed {w:World} {base n:Nat} {t:TypeId} {v:Value} {vals:List Value} (h:w.ownsRow base t 1 v n vals) {g:Nat} (hg:v.ownBlock=some g):∃ cs,w.heap[g]? = some (.cells cs t (0,0)):=by
 rcases h.2 with ⟨rfl, -⟩ | ⟨g',cap,cur,rfl, -,hh, -⟩
 ·cases hg
 ·have e:g'=g:=by simpa [Value.ownBlock] using hg
  exact ⟨cur,e ▸ hh⟩
theorem NumsIn.far {w0 w w':World} {g0:Option Nat} {u:Value} (h:NumsIn w0 w g0 u) (hsz:w.heap.size≤w'.heap.size) (hk:∀ (b:Nat) (cs:Array Value),w.heap[b]? = some (.cells cs 3 (0,0))→w'.heap[b]? = w.heap[b]?):NumsIn w0 w' g0 u:=fun b hb=>by
 obtain ⟨h1,h2,cs,h3⟩:=h b hb
 exact ⟨Nat.lt_of_lt_of_le h1 hsz,h2,cs,(hk b cs h3).trans h3⟩
theorem Kn.push {base B:Nat} {w0:World} {p:Nat} {cs0 vals0:List Value} {v2:Value} {g0:Option Nat} {x:Int} {M i:Nat} {vn:Value} {news:List Value} {l:Value} {w w1 w2:World} {gr gcap:Nat} (h:Kn base B w0 p cs0 vals0 v2 g0 x M i vn news l w) (h8:2<cs0.length) (hw1:Below w.heap.size w w1)
  (ho:w2.ownsRow base 22 1 (.slice (some ⟨gr,0,none⟩) (vals0.length+i+1) gcap) (vals0.length+i+1) ((vals0++news)++[l])) (hg:w1.grownBy w2 vn.ownBlock) (hor:vn.ownBlock=some gr∨w.heap.size≤gr) :
  (w2.cell? ⟨p,2,none⟩=some vn∧w2.frozen? ⟨p,2,none⟩=false)∧Kn base B w0 p cs0 vals0 v2 g0 x M (i+1) (.slice (some ⟨gr,0,none⟩) (vals0.length+i+1) gcap) (news++[l]) l (w2.setCell ⟨p,2,none⟩ (.slice (some ⟨gr,0,none⟩) (vals0.length+i+1) gcap)):=by
 have hpl:=lt_of_blk h.blk
 have hb':w.heap[p]? = some (.cells (cs0.set 2 vn).toArray 35 (0,0)):=h.blk
 have hvp:vn.ownBlock≠some p:=own_ne_type h.row h.blk (by decide)
 have hA:∀ b,b<w.heap.size→vn.ownBlock≠some b→w2.heap[b]? = w.heap[b]? := fun b hb hne=>(hg.block b (Nat.lt_of_lt_of_le hb hw1.size) (fun e=>hne e.symm)).trans (hw1.block b hb)
 have hp2:=(hA p hpl hvp).trans h.blk
 have hsz2:w.heap.size≤w2.heap.size:=Nat.le_trans hw1.size hg.size
 have hsz0:=h.fr.size
 have hset:∀ b,b≠p→(w2.setCell ⟨p,2,none⟩ (.slice (some ⟨gr,0,none⟩) (vals0.length+i+1) gcap)).heap[b]? = w2.heap[b]? := fun b hb=>heap_setCell_other _ _ _ _ hb
 have hI:∀ (b:Nat) (cs:Array Value),w.heap[b]? = some (.cells cs 3 (0,0))→(w2.setCell ⟨p,2,none⟩ (.slice (some ⟨gr,0,none⟩) (vals0.length+i+1) gcap)).heap[b]? = w.heap[b]? := fun b cs hb=>by
  rw [hset b (ne_of_types hb h.blk (by decide)),hA b (lt_of_blk hb) (own_ne_type h.row hb (by decide))]
 have hsz3:(w2.setCell ⟨p,2,none⟩ (.slice (some ⟨gr,0,none⟩) (vals0.length+i+1) gcap)).heap.size=w2.heap.size:=by simp [World.setCell]
 have hgp:gr≠p:=fun e=>own_ne_type ho hp2 (by decide) (by rw [← e];rfl)
 refine ⟨⟨(blk_cell hp2 2 vn (by simp [h8])).1,row_frozen hp2 2⟩,⟨?_,?_,fun b hb=>?_,by simp [h.len],fun u hu=>?_,fun u hu=>?_,?_,h.lin.far (by rw [hsz3];exact hsz2) hI,?_⟩⟩
 ·have:=blk_set hp2 2 (.slice (some ⟨gr,0,none⟩) (vals0.length+i+1) gcap)
  rw [List.set_set] at this
  exact this
 ·rw [← List.append_assoc]
  exact own_of_blockB ho fun g hg'=>hset g (fun e=>own_ne_type ho hp2 (by decide) (e ▸ hg'))
 ·have e:gr=b:=by simpa [Value.ownBlock] using hb
  subst e
  rcases hor with h1 | h1
  ·exact h.rowAt gr h1
  ·exact Or.inr (by omega)
 ·rcases List.mem_append.1 hu with h1 | h1
  ·exact (h.nums u h1).far hI
  ·rw [List.mem_singleton.1 h1]
   exact (nums_of_own h.own).far hI
 ·rcases List.mem_append.1 hu with h1 | h1
  ·exact (h.ins u h1).far (by rw [hsz3];exact hsz2) hI
  ·rw [List.mem_singleton.1 h1]
   exact h.lin.far (by rw [hsz3];exact hsz2) hI
 ·refine own_of_blockB h.own fun g hg'=>?_
  obtain ⟨-, -,cs,hc⟩:=h.lin g hg'
  exact hI g cs hc
 ·refine Fr.setCell (S:=fun b=>b=p∨v2.ownBlock=some b∨g0=some b) ?_ (p:=⟨p,2,none⟩) (Or.inr (Or.inl rfl)) _
  refine (h.fr.trans (Fr.of_below (S:=fun b=>b=p∨v2.ownBlock=some b∨g0=some b) hw1) (fun _ _ e=>e)).grown hg fun k hk=>?_
  rcases h.rowAt k hk with h1 | h1
  ·exact Or.inr (Or.inr (Or.inl h1))
  ·exact Or.inl h1
theorem Kn.app {base B:Nat} {w0:World} {p:Nat} {cs0 vals0:List Value} {v2:Value} {g0:Option Nat} {x:Int} {M i:Nat} {vn:Value} {news:List Value} {l:Value} {w w1 w2:World} {g cap H:Nat} (h:Kn base B w0 p cs0 vals0 v2 g0 x M i vn news l w) (hw1:Below w.heap.size w w1) (hH:w1.heap.size=H)
  (ho:w2.ownsRow B 3 1 (.slice (some ⟨g,0,none⟩) (M+1) cap) (M+1) (List.replicate M (.int .i64 x)++[.int .i64 x])) (hg:w1.grownBy w2 l.ownBlock) (hor:l.ownBlock=some g∨(g=H∧∀ b,b<H→w2.heap[b]? = w1.heap[b]?)) (hlt:g<w2.heap.size) :
  Kn base B w0 p cs0 vals0 v2 g0 x (M+1) i vn news (.slice (some ⟨g,0,none⟩) (M+1) cap) w2:=by
 subst hH
 rw [← List.replicate_succ'] at ho
 have hpl:=lt_of_blk h.blk
 have hlp:l.ownBlock≠some p:=own_ne_type h.own h.blk (by decide)
 have hA:∀ b,b<w.heap.size→l.ownBlock≠some b→w2.heap[b]? = w.heap[b]? := fun b hb hne=>(hg.block b (Nat.lt_of_lt_of_le hb hw1.size) (fun e=>hne e.symm)).trans (hw1.block b hb)
 have hsz1:=hw1.size
 have hsz2:w.heap.size≤w2.heap.size:=Nat.le_trans hw1.size hg.size
 have hsz0:=h.fr.size
 have hins:∀ u,NumsIn w0 w g0 u→NumsIn w0 w2 g0 u:=fun u hu b hb=>by
  obtain ⟨h1,h2,cs,h3⟩:=hu b hb
  refine ⟨by omega,h2,?_⟩
  by_cases e:l.ownBlock=some b
  ·rcases hor with h4 | h4
   ·rw [h4] at e
    cases e
    exact own_typed ho rfl
   ·exact ⟨cs,((h4.2 b (by omega)).trans (hw1.block b h1)).trans h3⟩
  ·exact ⟨cs,(hA b h1 e).trans h3⟩
 refine ⟨(hA p hpl hlp).trans h.blk,?_,h.rowAt,h.len,fun u hu=>?_,fun u hu=>hins u (h.ins u hu),ho,fun b hb=>?_,?_⟩
 ·refine own_of_blockB h.row fun b hb=>?_
  obtain ⟨cs,hc⟩:=own_typed h.row hb
  exact hA b (lt_of_blk hc) (own_ne_type h.own hc (by decide))
 ·have h1:NumsAt w1 x M u:=(h.nums u hu).far fun b cs hb=>hw1.block b (lt_of_blk hb)
  exact h1.app ho hg (hor.imp id (fun e=>e.2))
 ·have e:g=b:=by simpa [Value.ownBlock] using hb
  subst e
  refine ⟨hlt,?_,own_typed ho rfl⟩
  rcases hor with h4 | h4
  ·exact (h.lin g h4).2.1
  ·exact Or.inr (by omega)
 ·refine (h.fr.trans (Fr.of_below (S:=fun b=>b=p∨v2.ownBlock=some b∨g0=some b) hw1) (fun _ _ e=>e)).grown hg fun k hk=>?_
  rcases (h.lin k hk).2.1 with h1 | h1
  ·exact Or.inr (Or.inr (Or.inr h1))
  ·exact Or.inl h1
structure KeptN (base:Nat) (col:Nat→Nat) (w:World) (p:Nat) (v0:Value) (c:Nat) (g0:Option Nat) (w':World):Prop where
 ex:∃ col',Bk base col' w' p v0 (c+4)∧(∀ b,b<w.heap.size→g0≠some b→col' b=col b)∧∀ b,w.heap.size≤b→col' b≤8
 fr:Fr (fun b=>g0=some b∨(base≤b∧col b≤8)) w w'
theorem Kn.done {base B:Nat} {col:Nat→Nat} {w0:World} {p:Nat} {v0:Value} {c:Nat} {cs0 vals0:List Value} {v2:Value} {g0:Option Nat} {M:Nat} {vn:Value} {news:List Value} {l:Value} {w:World} (hb:Bk base col w0 p v0 c) (hp:w0.heap[p]? = some (.cells cs0.toArray 35 (0,0))) (hl8:cs0.length=8)
  (hrow:w0.ownsRow base 22 1 v2 vals0.length vals0) (hcv:∀ g,v2.ownBlock=some g→col g=2) (hle:vals0.length≤c) (h4:vals0.length%4=0) (h6:∀ i (h:i<vals0.length),∃ m,Sl w0 vals0[i] m 1 (wrN i)) (h7:∀ u∈vals0,∀ g,u.ownBlock=some g→g<w0.heap.size∧col g=8)
  (hg0:∀ g,g0=some g→base≤g∧8<col g∧g<w0.heap.size) (hM:M≤140737488355328) (h:Kn base B w0 p cs0 vals0 v2 g0 (-1-(vals0.length:Int)) M 4 vn news l w):KeptN base col w0 p v0 c g0 w:=by
 have hpl:=lt_of_blk hp
 have hsz:=h.fr.size
 have hbase:base≤w0.heap.size:=Nat.le_trans hb.ge (Nat.le_of_lt hpl)
 have hvl:∀ g,v2.ownBlock=some g→g<w0.heap.size:=fun g hg=>(hrow.lt g hg).2
 let col':Nat→Nat:=fun b=>if b<w0.heap.size then (if g0=some b then 8 else col b) else if vn.ownBlock=some b then 2 else 8
 have k1:∀ b,b<w0.heap.size→g0≠some b→col' b=col b:=fun b h1 h2=>by simp [col',h1,h2]
 have k2:∀ b,w0.heap.size≤b→col' b≤8:=fun b h1=>by
  show (if b<w0.heap.size then (if g0=some b then 8 else col b) else if vn.ownBlock=some b then 2 else 8)≤8
  rw [if_neg (by omega)];split<;>omega
 have n8:∀ b,col b≤8→g0≠some b:=fun b h1 e=>by have:=(hg0 b e).2.1;omega
 have keep:∀ b,b<w0.heap.size→b≠p→v2.ownBlock≠some b→g0≠some b→w.heap[b]? = w0.heap[b]? := fun b h1 h2 h3 h4=>h.fr.block b h1 (fun e=>by rcases e with e | e | e;exact h2 e;exact h3 e;exact h4 e)
 have hk8:∀ b,b<w0.heap.size→col b≤8→col b≠0→col b≠2→w.heap[b]? = w0.heap[b]? := fun b h1 h2 h3 h4=>keep b h1 (fun e=>by rw [e,hb.colp] at h3;exact h3 rfl) (fun e=>h4 (hcv b e)) (n8 b h2)
 have hc2:∀ j,j≠2→w.cell? ⟨p,j,none⟩=w0.cell? ⟨p,j,none⟩:=fun j hj=>by
  rw [cell_of_row w p j _ _ _ h.blk,cell_of_row w0 p j _ _ _ hp]
  simp [List.getElem?_set_ne (fun e=>hj e.symm)]
 refine ⟨⟨col',⟨⟨_,h.blk,by simpa using hl8⟩,(k1 p hpl (n8 p (by rw [hb.colp];omega))).trans hb.colp,hb.ge,(hc2 0 (by decide)).trans hb.c0,fun r hr1 hr7=>?_,fun b hb'=>?_⟩,k1,k2⟩,?_⟩
 ·by_cases e:r=2
  ·subst e
   have hcell:w.cell? ⟨p,2,none⟩=some vn:=(blk_cell h.blk 2 vn (by simp [hl8])).1
   refine ⟨vn,vals0++news,hcell,by rw [List.length_append,h.len];exact h.row,fun g hg=>?_,by rw [List.length_append,h.len];omega,by rw [List.length_append,h.len];show (vals0.length+4)%4=0;omega,fun i hi=>?_,fun u hu g hg=>?_⟩
   ·rcases h.rowAt g hg with h1 | h1
    ·rw [k1 g (hvl g h1) (n8 g (by rw [hcv g h1];omega))];exact hcv g h1
    ·show (if g<w0.heap.size then (if g0=some g then 8 else col g) else if vn.ownBlock=some g then 2 else 8)=2
     rw [if_neg (by omega),if_pos hg]
   ·rcases Nat.lt_or_ge i vals0.length with h1 | h1
    ·obtain ⟨m,hm⟩:=h6 i h1
     refine ⟨m,?_⟩
     rw [List.getElem_append_left h1]
     refine hm.frame fun g hg=>?_
     obtain ⟨q1,q2⟩:=h7 _ (List.getElem_mem h1) g hg
     exact hk8 g q1 (by omega) (by omega) (by omega)
    ·have hi4:i-vals0.length<news.length:=by rw [List.length_append] at hi;omega
     obtain ⟨m,hm⟩:=(h.nums _ (List.getElem_mem hi4)).sl hM
     refine ⟨m,?_⟩
     rw [List.getElem_append_right h1]
     have e:(fun (_ _:Nat)=>Value.int .i64 (-1-(vals0.length:Int)))=rowF 2 i:=by
      funext a b
      show _=wrN i a b
      unfold wrN
      rw [h.len] at hi4
      have:i / 4*4=vals0.length:=by omega
      rw [this]
     rw [← e]
     exact hm
   ·rcases List.mem_append.1 hu with h1 | h1
    ·obtain ⟨q1,q2⟩:=h7 u h1 g hg
     exact ⟨by omega,(k1 g q1 (n8 g (by omega))).trans q2⟩
    ·obtain ⟨q1,q2,cs,q3⟩:=h.ins u h1 g hg
     refine ⟨q1,?_⟩
     show (if g<w0.heap.size then (if g0=some g then 8 else col g) else if vn.ownBlock=some g then 2 else 8)=8
     rcases q2 with q2 | q2
     ·rw [if_pos (hg0 g q2).2.2,if_pos q2]
     ·rw [if_neg (by omega),if_neg (own_ne_type h.row q3 (by decide))]
  ·refine (hb.rows r hr1 hr7).frame (hc2 r e) (fun b h1 h2=>hk8 b h1 (by omega) (by omega) (by omega)) (fun b h1 h2=>k1 b h1 (n8 b (by omega))) hsz (by omega)
 ·rw [k1 b (by omega) (fun e=>by have:=(hg0 b e).1;omega)];exact hb.low b hb'
 ·refine h.fr.mono fun b h1 e=>?_
  rcases e with rfl | e | e
  ·exact Or.inr ⟨hb.ge,by rw [hb.colp];omega⟩
  ·exact Or.inr ⟨(hrow.lt b e).1,by rw [hcv b e];omega⟩
  ·exact Or.inl e
theorem fill_set {x:Value} {l:List Value} {k:Nat} (h:k<l.length):(List.replicate k x++l.drop k).set k x=List.replicate (k+1) x++l.drop (k+1):=by
 rw [List.set_append_right _ _ (by simp),List.length_replicate,Nat.sub_self,List.drop_eq_getElem_cons h,List.set_cons_zero,List.replicate_succ']
 simp
theorem Kn.start {base B:Nat} {w0:World} {p:Nat} {cs0 vals0:List Value} {v2 v:Value} {x:Int} {m:Nat} {w:World} (hp:w0.heap[p]? = some (.cells cs0.toArray 35 (0,0))) (h2:cs0[2]? = some v2) (hrow:w0.ownsRow base 22 1 v2 vals0.length vals0) (hv:w0.ownsRow B 3 1 v m (List.replicate m (.int .i64 0))∨∃ l:List Value,w0.ownsRow B 3 1 v m l)
  (hown:w.ownsRow B 3 1 v m (List.replicate m (.int .i64 x))) (hf:Fr (fun b=>v.ownBlock=some b) w0 w):Kn base B w0 p cs0 vals0 v2 v.ownBlock x m 0 v2 [] v w:=by
 obtain ⟨l,hl⟩:∃ l:List Value,w0.ownsRow B 3 1 v m l:=hv.elim (fun h=>⟨_,h⟩) id
 refine ⟨?_,?_,fun b hb=>Or.inl hb,rfl,(fun u hu=>by cases hu),(fun u hu=>by cases hu),hown,fun b hb=>?_,hf.mono fun b _ e=>Or.inr (Or.inr e)⟩
 ·have e:cs0.set 2 v2=cs0:=by
   obtain ⟨hl2,e2⟩:=List.getElem?_eq_some_iff.1 h2
   rw [← e2,List.set_getElem_self]
  rw [e,hf.block p (lt_of_blk hp) (own_ne_type hl hp (by decide))]
  exact hp
 ·rw [List.append_nil,Nat.add_zero]
  refine own_of_blockB hrow fun b hb=>hf.block b (hrow.lt b hb).2 fun e=>?_
  obtain ⟨cs,hc⟩:=own_typed hrow hb
  exact own_ne_type hl hc (by decide) e
 ·exact ⟨(hown.lt b hb).2,Or.inl hb,own_typed hown hb⟩
set_option maxRecDepth 100000 in
set_option maxHeartbeats 4000000 in
theorem keepNums_calls {base B:Nat} {col:Nat→Nat} {w:World} {p:Nat} {v0:Value} {c m:Nat} {v:Value} {l:List Value} (hb:Bk base col w p v0 c) (hl:w.ownsRow B 3 1 v m l) (hB:B≤w.heap.size) (hg:∀ g,v.ownBlock=some g→base≤g∧8<col g) (hm:m≤4398046511104) (hc:c≤1099511627776) :
  Calls Tryz.prog 65 #[.pointer (some ⟨p,0,none⟩),v] w fun e w'=>e=.returned (.tuple #[])∧KeptN base col w p v0 c v.ownBlock w':=by
 obtain ⟨iI,hiI,hI0,hI1,hI2⟩:=info_parts Tryz.infoLI
 obtain ⟨iN,hiN,hN0,hN1,hN2⟩:=info_parts Tryz.info3
 obtain ⟨v2,vals0,q1,q2,q3,q4,q5,q6,q7⟩:=(hb.rows 2 (by decide) (by decide)).ex
 obtain ⟨cs0,hp,hp8⟩:=hb.blk
 have h2:cs0[2]? = some v2:=by
  have:=cell_of_row w p 2 _ _ _ hp
  rw [q1] at this
  simpa using this.symm
 have hbase:base≤w.heap.size:=Nat.le_trans hb.ge (Nat.le_of_lt (lt_of_blk hp))
 have hll:=hl.1
 rw [Nat.mul_one] at hll
 have HSt:Hid (∀ wr,wr.ownsRow B 3 1 v m (List.replicate m (.int .i64 (-1-(vals0.length:Int))))→Fr (fun b=>v.ownBlock=some b) w wr→Kn base B w p cs0 vals0 v2 v.ownBlock (-1-(vals0.length:Int)) m 0 v2 [] v wr):=fun wr h1 hf=>Kn.start hp h2 q2 (Or.inr ⟨l,hl⟩) h1 hf
 have HDn:Hid (∀ vn news l' wr,Kn base B w p cs0 vals0 v2 v.ownBlock (-1-(vals0.length:Int)) (m+4) 4 vn news l' wr→KeptN base col w p v0 c v.ownBlock wr):=fun vn news l' wr h=>Kn.done hb hp hp8 q2 q3 q4 q5 q6 q7 (fun g e=>⟨(hg g e).1,(hg g e).2,(hl.lt g e).2⟩) (by omega) h
 obtain ⟨av,cv,rfl⟩:=own_slice q2
 obtain ⟨al,cl,rfl⟩:=own_slice hl
 have HL:=hide hl
 have hvn:vals0.length≤1099511627776:=by omega
 have wr1:wrap64 (-1-(vals0.length:Int)) = -1-(vals0.length:Int):=by unfold wrap64;omega
 clear hb hl hg hp h2 q2 q3 q4 q5 q6 q7
 have hxv:∃ xv:Int,xv = -1-(vals0.length:Int):=⟨_,rfl⟩
 obtain ⟨xv,hxv⟩:=hxv
 rw [← hxv] at HSt HDn
 go_enter Tryz.func65,Tryz.ntmps65
 go_wp2
 rw [← hxv] at *
 go_loopw [5] (fun i wr=>∃ k:Nat,k≤m∧i=.int .i64 k∧Fr (fun b=>(Value.slice al m cl).ownBlock=some b) w wr∧wr.ownsRow B 3 1 (.slice al m cl) m (List.replicate k (.int .i64 xv)++l.drop k)) (fun i _=>m-(intOf i).toNat)
 case atStart=>exact ⟨0,Nat.zero_le _,rfl,Fr.refl _ w,by simpa using HL.out⟩
 case round=>
  obtain ⟨k,hk,rfl,hf,hr⟩:=hrel
  by_cases hlt:k<m
  ·obtain ⟨a',c',hv', -,hget⟩:=own_row_get hr
   simp only [Value.slice.injEq,true_and] at hv'
   obtain ⟨rfl,rfl⟩:=hv'
   obtain ⟨g,rfl,d0⟩:=hget k (by simp;omega)
   obtain ⟨cur,hcur⟩:=own_typed hr (g:=g) rfl
   have f0:wr.frozen? ⟨g,k,none⟩=false:=by
    have hcur':wr.heap[g]? = some (.cells cur.toList.toArray 3 (0,0)):=by simpa using hcur
    exact row_frozen hcur' k
   have HNx:Hid (Fr (fun b=>(Value.slice (some ⟨g,0,none⟩) m cl).ownBlock=some b) w (wr.setCell ⟨g,k,none⟩ (.int .i64 xv))∧(wr.setCell ⟨g,k,none⟩ (.int .i64 xv)).ownsRow B 3 1 (.slice (some ⟨g,0,none⟩) m cl) m (List.replicate (k+1) (.int .i64 xv)++l.drop (k+1))):=by
    refine ⟨Fr.setCell (S:=fun b=>(Value.slice (some ⟨g,0,none⟩) m cl).ownBlock=some b) hf (p:=⟨g,k,none⟩) (Or.inr rfl) _,?_⟩
    have:=own_set (i:=k) hr (.int .i64 xv)
    rw [fill_set (by omega)] at this
    exact this
   have hk0:(0:Int)≤(k:Int):=by omega
   have hk1:(k:Int)<(m:Int):=by omega
   obtain ⟨ov,dd⟩:∃ ov,wr.cell? ⟨g,k,none⟩=some ov:=⟨_,d0⟩
   clear hf hr hget hcur q1 d0
   go_wp2
   go_roundw
   case rel=>exact ⟨k+1,by omega,by go_num,HNx.out.1,HNx.out.2⟩
   case measure=>simp [intOf];omega
  ·have hke:k=m:=by omega
   subst hke
   rw [List.drop_of_length_le (by omega),List.append_nil] at hr
   have HK0:=hide (HSt.out wr hr hf)
   clear hr hf HSt HL q1
   obtain ⟨g0,hg0⟩:∃ g0,g0=(Value.slice al k cl).ownBlock:=⟨_,rfl⟩
   rw [← hg0] at HK0 HDn
   have HG0:=hide hg0
   clear hg0
   go_wp2
   go_loopw [1,6,7] (fun lv i _ wr=>∃ (j:Nat) (vn:Value) (news:List Value),j≤4∧i=.int .i64 j∧Kn base B w p cs0 vals0 (.slice av vals0.length cv) g0 xv (k+j) j vn news lv wr) (fun _ i _ _=>4-(intOf i).toNat)
   case atStart=>exact ⟨0,_,_,Nat.zero_le _,rfl,HK0.out⟩
   case round=>
    clear HK0
    obtain ⟨j,vn,news,hj,rfl,hkn⟩:=hrel
    by_cases hj4:j<4
    ·obtain ⟨anv,cnv,hvn2⟩:=own_slice hkn.row
     obtain ⟨alv,clv,hlv⟩:=own_slice hkn.own
     subst hvn2
     subst hlv
     have c2:wr.cell? ⟨p,2,none⟩=some (.slice anv (vals0.length+j) cnv):=(blk_cell hkn.blk 2 _ (by simp [hp8])).1
     have hszr:=hkn.fr.size
     have HRo:=hide hkn.row
     have HPu:Hid (∀ w2 gr gcap,w2.ownsRow base 22 1 (.slice (some ⟨gr,0,none⟩) (vals0.length+j+1) gcap) (vals0.length+j+1) (vals0++(news++[.slice alv (k+j) clv]))→(wr.alloc (.cells #[.slice alv (k+j) clv] 22)).grownBy w2 (Value.slice anv (vals0.length+j) cnv).ownBlock→((Value.slice anv (vals0.length+j) cnv).ownBlock=some gr∨gr=wr.heap.size+1) →
       (w2.cell? ⟨p,2,none⟩=some (.slice anv (vals0.length+j) cnv)∧w2.frozen? ⟨p,2,none⟩=false)∧Kn base B w p cs0 vals0 (.slice av vals0.length cv) g0 xv (k+j) (j+1) (.slice (some ⟨gr,0,none⟩) (vals0.length+j+1) gcap) (news++[.slice alv (k+j) clv]) (.slice alv (k+j) clv) (w2.setCell ⟨p,2,none⟩ (.slice (some ⟨gr,0,none⟩) (vals0.length+j+1) gcap))):=fun w2 gr gcap ho hgr hor=>
      hkn.push (by omega) ((Below.refl _ _).alloc (Nat.le_refl _) _) (by rw [List.append_assoc];exact ho) hgr (hor.imp id (fun e=>by omega))
     have h63:vals0.length+j+1≤maxLen:=by unfold maxLen;omega
     have hbytes:(vals0.length+j+1)*24≤140737488355328:=by omega
     clear hkn HDn
     go_wp2_with (at_builtin;refine wpList_append_lies _ rfl (.tmp 32) (.tmp 34) 31 rfl base 22 iI (.slice none 0 0) 1 24 Tryz.underlying31 hiI hI0 hI1 hI2 rfl (by decide) (.slice anv (vals0.length+j) cnv) (vals0.length+j) (vals0++news) rfl (HRo.out.alloc _) ⟨wr.heap.size,0,none⟩ 1 1 [.slice alv (k+j) clv] rfl rfl ?c1 ?c2 (by decide) h63 hbytes (by simp;omega) (wr.heap.size+1) (by simp) ?_)
     (try case c1=>exact cell_one_new _ _ _)
     case c2=>first | rfl | (intro u hu;simp at hu;subst hu;rfl)
     intro gr gc w2 ho hgr hor hglt
     obtain ⟨⟨y1,yf⟩,y3⟩:=HPu.out w2 gr gc ho hgr hor
     have Y3:=hide y3
     clear ho hgr hor hglt y3 HPu c2 HRo
     go_upto_region 9 with fail
     generalize w2.setCell ⟨p,2,none⟩ (.slice (some ⟨gr,0,none⟩) (vals0.length+j+1) gc)=w3 at *
     have HRo3:=hide Y3.out.own
     have hsz3:=Y3.out.fr.size
     have HAp:Hid (∀ w5 g gc',w5.ownsRow B 3 1 (.slice (some ⟨g,0,none⟩) (k+j+1) gc') (k+j+1) (List.replicate (k+j) (.int .i64 xv)++[.int .i64 xv])→(w3.alloc (.cells #[.int .i64 xv] 3)).grownBy w5 (Value.slice alv (k+j) clv).ownBlock→((Value.slice alv (k+j) clv).ownBlock=some g∨(g=w3.heap.size+1∧∀ b,b<w3.heap.size+1→w5.heap[b]? = (w3.alloc (.cells #[.int .i64 xv] 3)).heap[b]?))→g<w5.heap.size →
       Kn base B w p cs0 vals0 (.slice av vals0.length cv) g0 xv (k+j+1) (j+1) (.slice (some ⟨gr,0,none⟩) (vals0.length+j+1) gc) (news++[.slice alv (k+j) clv]) (.slice (some ⟨g,0,none⟩) (k+j+1) gc') w5):=fun w5 g gc' ho hgr hor hlt=>
      Y3.out.app ((Below.refl _ _).alloc (Nat.le_refl _) _) (by simp) ho hgr hor hlt
     have k63:k+j+1≤maxLen:=by unfold maxLen;omega
     have kbytes:(k+j+1)*8≤140737488355328:=by omega
     clear Y3 y1 yf
     go_wp2_with (at_builtin;refine wpList_append_keep _ rfl (.tmp 38) (.tmp 40) 22 rfl B 3 iN (.int .i64 0) 1 8 Tryz.underlying22 hiN hN0 hN1 hN2 rfl (by decide) (.slice alv (k+j) clv) (k+j) (List.replicate (k+j) (.int .i64 xv)) rfl (HRo3.out.alloc _) ⟨w3.heap.size,0,none⟩ 1 1 [.int .i64 xv] rfl rfl ?c1 ?c2 (by decide) k63 kbytes (by simp;omega) (w3.heap.size+1) (by simp) ?_)
     (try case c1=>exact cell_one_new _ _ _)
     case c2=>first | rfl | (intro u hu;simp at hu;subst hu;rfl)
     intro g gc' w5 ho hgr hor hlt
     have HK5:=hide (HAp.out w5 g gc' ho hgr hor hlt)
     clear ho hgr hor hlt HAp HRo3
     go_wp2
     go_roundw
     case rel=>exact ⟨j+1,_,_,by omega,by go_num,HK5.out⟩
     case measure=>simp [intOf];omega
    ·have:j=4:=by omega
     subst this
     have HDone:=hide (HDn.out _ _ _ _ hkn)
     clear hkn HDn
     go_wp2
     go_end0
     refine ⟨rfl,?_⟩
     rw [← HG0.out]
     exact HDone.out
theorem has_save {A:Nat→Prop} {p:Nat} {N:Net} {R:Rc} {w:World} (h:Has A p N R w) (hs:Saves N R) :
  Calls Tryz.prog 40 #[.pointer (some ⟨p,0,none⟩)] w fun e w'=>∃ v',e=.returned v'∧SvAt w.heap.size w' v' (bytesOf (saveNums N R))∧Below w.heap.size w w':=by
 obtain ⟨L,rfl,h2,h3⟩:=h.ex
 exact rsave_calls h2 hs
theorem ints_own {B:Nat} {w:World} {v:Value} {l:List Int} (h:w.ownsRow B 3 1 v l.length (intRow l)) (hl:l.length≤140737488355328):IntsAt w v l:=by
 obtain ⟨a,cap,rfl⟩:=own_slice h
 rcases Nat.eq_zero_or_pos l.length with h0 | h0
 ·exact ⟨a,cap,rfl,hl,by
   rcases h with ⟨-,e | ⟨g,c,cur,e, -, -,hn, -⟩⟩
   ·omega
   ·cases e;exact hn,Or.inl h0⟩
 ·obtain ⟨g,rfl, -, -⟩:=own_get h 0 h0
  refine ⟨_,cap,rfl,hl,by
   rcases h with ⟨-,e | ⟨g',c,cur,e, -, -,hn, -⟩⟩
   ·cases e.1
   ·cases e;exact hn,Or.inr ⟨g,0,rfl,fun i hi j hj=>?_⟩⟩
  have hj0:j=0:=by omega
  subst hj0
  obtain ⟨g',e, -,d⟩:=own_get h i hi
  cases e
  simpa using d
section
variable {wz:World} {base p:Nat} {v0:Value} {c sd cx cy x y:Nat} {n:Net} {vs vr vw:Value} {col:Nat→Nat} {w:World} {Rx Ry:Rc}
theorem Sd.nums (h:Sd wz base p v0 c sd cx cy x y n vs vr vw col w Rx Ry) {g0:Option Nat} {w':World} (hg0:∀ g,g0=some g→base≤g∧col g=22) (hk:KeptN base col w p v0 c g0 w'):∃ col',Sd wz base p v0 (c+4) sd cx cy x y n vs vr vw col' w' Rx Ry∧Fr (fun b=>g0=some b∨(base≤b∧col b≤8)) w w'∧∀ b,b<w.heap.size→g0≠some b→col' b=col b:=by
 obtain ⟨col',h1,h2,h3⟩:=hk.ex
 have hz:Below wz.heap.size wz w':=h.wzm.trans ⟨hk.fr.os,hk.fr.tape,hk.fr.output,hk.fr.size,fun b hb=>hk.fr.block b (by have:=h.wzm.size;omega) (fun e=>by
  have h9:=h.bk.low b (by have:=h.wzb;omega)
  rcases e with e | e
  ·have:=(hg0 b e).2;omega
  ·omega)⟩
 have hx:=h.x0
 have hy:=h.y0
 refine ⟨col',⟨h.at'.frame (fun b hb e=>?_) hz,h1,hz,h.wzb,h.x0,h.x9,h.y0,h.y9,h.ne,h.fits,h.net,h.short⟩,hk.fr,h2⟩
 have hn:g0≠some b:=fun e'=>by have:=(hg0 b e').2;omega
 exact ⟨hk.fr.block b hb (fun e'=>by rcases e' with e' | e';exact hn e';omega),h2 b hb hn⟩
set_option maxRecDepth 100000 in
set_option maxHeartbeats 4000000 in
theorem histories_calls {R:Rc} {d:Nat} (h:Sd wz base p v0 c sd cx cy x y n vs vr vw col w R R) (hf:Fine n R d) (hd:d≤1099511627776) (hc:c≤1099511627776) (k:Int) :
  Calls Tryz.prog 33 #[.pointer (some ⟨p,0,none⟩),.pointer (some ⟨sd,0,none⟩),.int .i64 k] w fun e w'=>e=.returned (.bool true)∧Turn wz base p v0 (c+4) sd cx cy x y n vs vr vw col w R R w':=by
 obtain ⟨s0,s1,gS,gW,cS,cW,y0,y1⟩:=h.cells
 rcases in_cases k n.streams.length with ⟨j,rfl,hj⟩ | ⟨hin,hout⟩
 ·have hsm:=hf.small hd
  have hlen:=hsm j hj
  have hhl:(histOf (srcd n j) (R.s j)).length≤(R.s j).words.length:=by
   unfold histOf;split
   ·rw [List.length_take];omega
   ·exact Nat.le_refl _
  have HX:=hide (has_history h.at'.hx j hj)
  have HY:Hid (∀ w1,Below w.heap.size w w1→(w1.cell? ⟨sd,0,none⟩=some (.pointer (some ⟨x,0,none⟩))∧w1.cell? ⟨sd,1,none⟩=some (.pointer (some ⟨y,0,none⟩))∧∃ gS gW cS cW,w1.cell? ⟨y,0,none⟩=some (.slice (some ⟨gS,0,none⟩) n.streams.length cS)∧w1.cell? ⟨y,1,none⟩=some (.slice (some ⟨gW,0,none⟩) n.workers.length cW)) ∧
    Calls Tryz.prog 64 #[.pointer (some ⟨y,0,none⟩),.int .i64 j] w1 fun e w'=>(∃ v,e=.returned v∧IntsAt w' v (histOf (srcd n j) (R.s j)))∧∃ q,w'=w1.drewN q):=fun w1 hb=>by
   have h1:=h.belowQ 22 hb
   exact ⟨h1.cells,rhas_history h1.at'.hy j hj hsm⟩
  have HKp:Hid (∀ w1,Below w.heap.size w w1→Calls Tryz.prog 17 #[.pointer (some ⟨p,0,none⟩)] w1 fun e w'=>e=.returned (.bool true)∧∃ q,w'=w1.drewN q):=fun w1 hb=>(h.belowQ 22 hb).bk.kept (by omega)
  have HKn:Hid (∀ w1 v m l,Below w.heap.size w w1→w1.ownsRow w.heap.size 3 1 v m l→m≤(R.s j).words.length→Calls Tryz.prog 65 #[.pointer (some ⟨p,0,none⟩),v] w1 fun e w'=>e=.returned (.tuple #[])∧Turn wz base p v0 (c+4) sd cx cy x y n vs vr vw col w R R w'):=fun w1 v m l hb hv hm=>by
   have h1:=h.belowQ 22 hb
   have hbl:=h.base_le
   have hgv:∀ g,v.ownBlock=some g→base≤g∧newcol col w.heap.size 22 g=22:=fun g hg=>⟨by have:=(hv.lt g hg).1;omega,newcol_new (hv.lt g hg).1⟩
   refine (keepNums_calls h1.bk hv hb.size (fun g hg=>⟨(hgv g hg).1,by rw [(hgv g hg).2];omega⟩) (by omega) hc).mono fun e w' ⟨q1,q2⟩=>⟨q1,?_⟩
   obtain ⟨col',k1,k2,k3⟩:=h1.nums hgv q2
   refine ⟨col',k1,⟨(Fr.of_below (S:=fun b=>base≤b∧(col b≤20∨col b=cx∨col b=cy∨b=sd)) hb).trans k2 (fun b hb' e=>?_),fun b hb' h20=>?_⟩⟩
   ·rcases e with e | e
    ·have:=(hv.lt b e).1;omega
    ·rw [newcol_old hb'] at e
     exact ⟨e.1,Or.inl (by omega)⟩
   ·rw [k3 b (by have:=hb.size;omega) (fun e=>by have:=(hv.lt b e).1;omega),newcol_old hb']
  have hj0:(0:Int)≤(j:Int):=by omega
  have hj1:(j:Int)<(n.streams.length:Int):=by omega
  clear h hf hsm s1 y0 y1 gS cS gW cW
  generalize histOf (srcd n j) (R.s j)=hl at *
  generalize (R.s j).words.length=wlen at *
  go_enter Tryz.func33,Tryz.ntmps33
  go_wp2_with fail
  refine (unhide HX).mono ?_
  rintro e w1 ⟨a',c',rfl,how,hb1⟩
  obtain ⟨⟨s0,s1,gS,gW,cS,cW,y0,y1⟩,hHi⟩:=HY.out w1 hb1
  have HHi:=hide hHi
  have HO:=hide how
  have HB:=hide hb1
  clear hHi how hb1 HX HY
  go_wp2_with fail
  refine (unhide HHi).mono ?_
  rintro e w2 ⟨⟨vh,rfl,hih⟩,q,rfl⟩
  have HSm:Hid (Calls Tryz.prog 60 #[.slice a' hl.length c',vh] (w1.drewN q) fun e w'=>e=.returned (.bool true)∧∃ q',w'=(w1.drewN q).drewN q'):=sameInts_calls (ints_own (B:=w.heap.size) (w:=w1) HO.out (by omega)) hih
  clear hih HHi
  go_wp2_with fail
  refine (unhide HSm).mono ?_
  rintro e w3 ⟨rfl,q',rfl⟩
  have HK1:=hide (HKp.out (w1.drewN (q+q')) (below_drewN HB.out _))
  clear HSm HKp
  go_wp2_with fail
  refine (unhide HK1).mono ?_
  rintro e w4 ⟨rfl,q2,rfl⟩
  have HN1:=hide (HKn.out (w1.drewN (q+q'+q2)) (.slice a' hl.length c') hl.length (intRow hl) (below_drewN HB.out _) HO.out hhl)
  clear HK1 HKn
  go_wp2_with fail
  refine (unhide HN1).mono ?_
  rintro e w5 ⟨rfl,ht⟩
  have HT:=hide ht
  clear ht HN1
  go_wp2
  go_ret
  exact ⟨rfl,HT.out⟩
 ·have HX:=hide (has_history_out h.at'.hx k hin)
  have HPo:Hid (Turn wz base p v0 (c+4) sd cx cy x y n vs vr vw col w R R w):=⟨col,⟨h.at',h.bk.frame (fun _ _ _=>rfl) (fun _ _ _=>rfl) h.bk.low (Nat.le_refl _) (by omega),h.wzm,h.wzb,h.x0,h.x9,h.y0,h.y9,h.ne,h.fits,h.net,h.short⟩,⟨Fr.refl _ _,fun _ _ _=>rfl⟩⟩
  clear h hf hin hd
  rcases hout with hk | ⟨hk0,hk1⟩
  ·go_enter Tryz.func33,Tryz.ntmps33
   go_wp2_with fail
   refine (unhide HX).mono ?_
   rintro e w1 ⟨rfl,rfl⟩
   go_wp2
   go_ret
   exact ⟨rfl,HPo.out⟩
  ·go_enter Tryz.func33,Tryz.ntmps33
   go_wp2_with fail
   refine (unhide HX).mono ?_
   rintro e w1 ⟨rfl,rfl⟩
   go_wp2
   go_ret
   exact ⟨rfl,HPo.out⟩
end
end Go.Proofs.YthfdgdfnflilfaaGreatDoor

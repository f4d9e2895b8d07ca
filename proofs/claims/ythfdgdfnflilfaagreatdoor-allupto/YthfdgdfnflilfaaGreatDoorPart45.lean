/- Part 45: Play4, Play5, Play6. -/
import Derived.Deep.RegionHeld3
import Derived.Test.YthfdgdfnflilfaaGreatDoorPart25
import Derived.Test.YthfdgdfnflilfaaGreatDoorPart40
import Derived.Test.YthfdgdfnflilfaaGreatDoorPart41
import Derived.Test.YthfdgdfnflilfaaGreatDoorPart43
namespace Go.Proofs.YthfdgdfnflilfaaGreatDoor
open Go.RowKit Go.Conc
theorem FlowTo.fine {N:Net} (hv:validB N=true) (hf:NetFits N) {m:Nat} {R:Rc} {d0:Nat} (h:Fine N R d0):∀ {d:Nat} {S:Rc},FlowTo N m R d S→Fine N S (d0+d)∧d≤m:=by
 intro d S hs
 have key:∀ x y,Star (FStep N m) x y→(Fine N x.2 (d0+x.1)∧x.1≤m)→(Fine N y.2 (d0+y.1)∧y.1≤m):=by
  intro x y hst
  induction hst with
  | refl=>exact id
  | head h1 h2 ih=>
   intro hx
   refine ih ?_
   cases h1 with
   | step hlt hk=>
    have hm:=List.mem_of_find?_eq_some hk
    have:=hx.1.step hv hf (List.mem_range.1 hm)
    exact ⟨this,by dsimp only at *;omega⟩
   | grow hlt hk hg=>exact ⟨hx.1.grow hv hg,hx.2⟩
 exact key (0,R) (d,S) hs ⟨h,Nat.zero_le _⟩
set_option maxRecDepth 100000 in
theorem num_calls (e:Int) (w:World):Calls Tryz.prog 37 #[.int .i64 e] w fun r w'=>r=.returned (.int .i64 e)∧w'=w:=by
 go_enter Tryz.func37,Tryz.ntmps37
 go_wp2
 go_ret
 exact ⟨rfl,rfl⟩
section
variable {wz:World} {base p:Nat} {v0:Value} {c d sd cx cy x y:Nat} {n:Net} {vs vr vw:Value} {col:Nat→Nat} {w:World} {R Rx Ry:Rc}
theorem sd_growx (h:Sd wz base p v0 c sd cx cy x y n vs vr vw col w Rx Ry) (hro:RoomR n Rx) :
  Calls Tryz.prog 35 #[.pointer (some ⟨x,0,none⟩)] w fun e w'=>∃ a b o,Grows n Rx a b o∧e=.returned (.tuple #[.int .i64 a,.int .i64 b])∧Turn wz base p v0 c sd cx cy x y n vs vr vw col w (o.elim Rx (growS Rx)) Ry w':=
 (has_grow h.at'.hx hro).mono fun _ _ ⟨a,b,o,q1,q2,q3,q4⟩=>⟨a,b,o,q1,q2,h.keepsx q3 q4⟩
theorem sd_growy (h:Sd wz base p v0 c sd cx cy x y n vs vr vw col w Rx Ry) (hro:RoomR n Ry) :
  Calls Tryz.prog 36 #[.pointer (some ⟨y,0,none⟩)] w fun e w'=>∃ a b o,Grows n Ry a b o∧e=.returned (.tuple #[.int .i64 a,.int .i64 b])∧Turn wz base p v0 c sd cx cy x y n vs vr vw col w Rx (o.elim Ry (growS Ry)) w':=
 (rhas_grow h.at'.hy hro h.wzm h.lowA).mono fun _ _ ⟨a,b,o,q1,q2,q3,q4⟩=>⟨a,b,o,q1,q2,h.keepsy q3 q4⟩
theorem grow_both (h:Sd wz base p v0 c sd cx cy x y n vs vr vw col w R R) (hf:Fine n R d) :
  Calls Tryz.prog 35 #[.pointer (some ⟨x,0,none⟩)] w fun e w1=>∃ a b,e=.returned (.tuple #[.int .i64 a,.int .i64 b])∧w1.cell? ⟨sd,1,none⟩=some (.pointer (some ⟨y,0,none⟩)) ∧
   Calls Tryz.prog 36 #[.pointer (some ⟨y,0,none⟩)] w1 fun e w2=>e=.returned (.tuple #[.int .i64 a,.int .i64 b])∧∃ R',Turn wz base p v0 c sd cx cy x y n vs vr vw col w R' R' w2∧Fine n R' d:=by
 have hok:=h.ok
 refine (sd_growx h hf.room).mono fun e w1 ⟨a,b,o,q1,q2,q3⟩=>⟨a,b,q2,q3.cells.2.1,?_⟩
 obtain ⟨col1,h1,h2⟩:=q3.ex
 refine (sd_growy h1 hf.room).mono fun e w2 ⟨a',b',o',r1,r2,r3⟩=>?_
 obtain ⟨e1,e2,e3⟩:=grows_one q1 r1
 subst e1 e2 e3
 refine ⟨r2,o.elim R (growS R),?_,?_⟩
 ·obtain ⟨col2,h3,h4⟩:=r3.ex
  exact ⟨col2,h3,h2.trans h4⟩
 ·cases o with
  | none=>exact hf
  | some t=>exact hf.grow hok q1
theorem flow_both (h:Sd wz base p v0 c sd cx cy x y n vs vr vw col w R R) (hf:Fine n R d) (hd:d+1048576≤274877906944) (m:Nat) (hm:m≤100000) :
  Calls Tryz.prog 38 #[.pointer (some ⟨x,0,none⟩),.int .i64 m] w fun e w1=>∃ (a:Nat) (b:Int),e=.returned (.tuple #[.int .i64 (a:Nat),.int .i64 b])∧(w1.cell? ⟨sd,0,none⟩=some (.pointer (some ⟨x,0,none⟩))∧w1.cell? ⟨sd,1,none⟩=some (.pointer (some ⟨y,0,none⟩))∧∀ b,b<w.heap.size→col b=22→w1.heap[b]? = w.heap[b]?) ∧
   (∀ q,Calls Tryz.prog 39 #[.pointer (some ⟨y,0,none⟩),.int .i64 m] (w1.drewN q) fun e w2=>e=.returned (.tuple #[.int .i64 (a:Nat),.int .i64 b])∧(w2.cell? ⟨sd,1,none⟩=some (.pointer (some ⟨y,0,none⟩))∧∀ b,b<w.heap.size→col b=22→w2.heap[b]? = w.heap[b]?)∧∃ R',Turn wz base p v0 c sd cx cy x y n vs vr vw col w R' R' w2∧Fine n R' (d+1048576)):=by
 have hok:=h.ok
 have hwd:∀ s,s<n.streams.length→(R.s s).words.length+100000<4398046511104:=fun s hs=>by have:=hf.words s hs;omega
 refine (has_flow h.at'.hx hf.room hwd m hm).mono fun e w1 ⟨a,b,S,q1,q2,q3,q4⟩=>?_
 have ht:=h.keepsx q3 q4
 have hx0:=h.x0
 have hy0:=h.y0
 have hcsd:=h.at'.csd
 obtain ⟨col1,h1,h2⟩:=ht.ex
 refine ⟨a,b,q2,⟨ht.cells.1,ht.cells.2.1,fun b hb e=>h2.fr.block b hb (fun e'=>by have hb0:b≠sd:=(fun e2=>by subst e2;omega);have:=e'.2;omega)⟩,fun q=>?_⟩
 have hb:Below w1.heap.size w1 (w1.drewN q):=below_drewN (Below.refl _ _) q
 have h1':=h1.belowQ 22 hb
 have h2':=h2.trans (Did.of_below (base:=base) (sd:=sd) (cx:=cx) (cy:=cy) (q:=22) (col:=col1) hb)
 refine (rhas_flow h1'.at'.hy hf.lenS hok hf.room hwd h1'.wzm h1'.lowA m hm).mono fun e w2 ⟨a',b',S',r1,r2,r3,r4⟩=>?_
 obtain ⟨e1,e2,e3⟩:=q1.unique r1
 subst e1 e2 e3
 obtain ⟨col2,h3,h4⟩:=(h1'.keepsy r3 r4).ex
 have h5:=h2'.trans h4
 refine ⟨r2,⟨h3.cells.2.1,fun b hb e=>h5.fr.block b hb (fun e'=>by have hb0:b≠sd:=(fun e2=>by subst e2;omega);have:=e'.2;omega)⟩,S,?_,?_⟩
 ·exact ⟨col2,h3,h5⟩
 ·obtain ⟨f1,f2⟩:=FlowTo.fine hok h.fits hf q1.1
  exact f1.mono (by omega)
set_option maxRecDepth 100000 in
set_option maxHeartbeats 4000000 in
theorem step_k6 (h:Sd wz base p v0 c sd cx cy x y n vs vr vw col w R R) (hf:Fine n R d) (hd:d+1048576≤274877906944) (num:Int) (sched:List Int) (sa:Option Addr) (sc:Nat) (net:Net) (a0:Option Addr) (c0:Nat) (a1:Option Addr) (c1:Nat) (a2:Option Addr) (c2:Nat) (str:ByteArray) (which:Bool) :
  Calls Tryz.prog 16 #[.pointer (some ⟨p,0,none⟩),.pointer (some ⟨sd,0,none⟩),.agg #[.int .i64 6,.int .i64 num,.slice sa sched.length sc,.slice a0 net.streams.length c0,.slice a1 net.sources.length c1,.slice a2 net.workers.length c2,.string str,.bool which]] w fun e w'=>e=.returned (.bool true)∧Went2 wz base p v0 c d sd cx cy n vs vr vw col w w':=by
 have _hu:=hd
 have hbx:=h.box (.cells #[.int .i64 6,.int .i64 num,.slice sa sched.length sc,.slice a0 net.streams.length c0,.slice a1 net.sources.length c1,.slice a2 net.workers.length c2,.string str,.bool which] 65)
 have s0:=hbx.1.cells.1
 have HX:=hide (grow_both hbx.1 hf)
 have HW:Hid (∀ w2 R',Turn wz base p v0 c sd cx cy x y n vs vr vw (newcol col w.heap.size 22) (w.alloc (.cells #[.int .i64 6,.int .i64 num,.slice sa sched.length sc,.slice a0 net.streams.length c0,.slice a1 net.sources.length c1,.slice a2 net.workers.length c2,.string str,.bool which] 65)) R' R' w2→Fine n R' d→Went2 wz base p v0 c d sd cx cy n vs vr vw col w w2):=fun w2 R' ht hf'=>Went2.of hbx.2 ht (by omega) (hf'.mono (by omega))
 have HNu:Hid (∀ (e:Int) wx,Calls Tryz.prog 37 #[.int .i64 e] wx fun r w'=>r=.returned (.int .i64 e)∧w'=wx):=num_calls
 clear h hf hd hbx _hu
 go_enter Tryz.func16,Tryz.ntmps16
 go_wp2_with fail
 refine (unhide HX).mono ?_
 rintro e w1 ⟨a,b,rfl,s1,hg⟩
 have HG:=hide hg
 clear hg HX s0
 go_wp2_with fail
 refine (unhide HG).mono ?_
 rintro e w2 ⟨rfl,R',ht,hf'⟩
 have HT:=hide (HW.out w2 R' ht hf')
 clear ht hf' HG HW s1
 go_wp2_with fail
 refine (unhide HNu b w2).mono ?_
 rintro e w3 ⟨rfl,rfl⟩
 go_wp2
 go_ret
 exact ⟨rfl,HT.out⟩
set_option maxRecDepth 100000 in
set_option maxHeartbeats 4000000 in
theorem step_k7 (h:Sd wz base p v0 c sd cx cy x y n vs vr vw col w R R) (hf:Fine n R d) (hd:d+1048576≤274877906944) (num:Int) (sched:List Int) (sa:Option Addr) (sc:Nat) (net:Net) (a0:Option Addr) (c0:Nat) (a1:Option Addr) (c1:Nat) (a2:Option Addr) (c2:Nat) (str:ByteArray) (which:Bool) :
  Calls Tryz.prog 16 #[.pointer (some ⟨p,0,none⟩),.pointer (some ⟨sd,0,none⟩),.agg #[.int .i64 7,.int .i64 num,.slice sa sched.length sc,.slice a0 net.streams.length c0,.slice a1 net.sources.length c1,.slice a2 net.workers.length c2,.string str,.bool which]] w fun e w'=>e=.returned (.bool true)∧Went2 wz base p v0 c d sd cx cy n vs vr vw col w w':=by
 have hbx:=h.box (.cells #[.int .i64 7,.int .i64 num,.slice sa sched.length sc,.slice a0 net.streams.length c0,.slice a1 net.sources.length c1,.slice a2 net.workers.length c2,.string str,.bool which] 65)
 have hbl:Below (w.alloc (.cells #[.int .i64 7,.int .i64 num,.slice sa sched.length sc,.slice a0 net.streams.length c0,.slice a1 net.sources.length c1,.slice a2 net.workers.length c2,.string str,.bool which] 65)).heap.size (w.alloc (.cells #[.int .i64 7,.int .i64 num,.slice sa sched.length sc,.slice a0 net.streams.length c0,.slice a1 net.sources.length c1,.slice a2 net.workers.length c2,.string str,.bool which] 65)) ((w.alloc (.cells #[.int .i64 7,.int .i64 num,.slice sa sched.length sc,.slice a0 net.streams.length c0,.slice a1 net.sources.length c1,.slice a2 net.workers.length c2,.string str,.bool which] 65)).drewN 1):=below_drewN (Below.refl _ _) 1
 have hb1:=hbx.1.belowQ 22 hbl
 have hd1:=hbx.2.trans (Did.of_below (base:=base) (sd:=sd) (cx:=cx) (cy:=cy) (q:=22) (col:=newcol col w.heap.size 22) hbl)
 obtain ⟨s0,s1, -⟩:=hbx.1.cells
 have hbxc:(w.alloc (.cells #[.int .i64 7,.int .i64 num,.slice sa sched.length sc,.slice a0 net.streams.length c0,.slice a1 net.sources.length c1,.slice a2 net.workers.length c2,.string str,.bool which] 65)).heap[w.heap.size]? = some (.cells #[.int .i64 7,.int .i64 num,.slice sa sched.length sc,.slice a0 net.streams.length c0,.slice a1 net.sources.length c1,.slice a2 net.workers.length c2,.string str,.bool which] 65 (0,0)):=heapNew rfl
 have b1:=(blk_cell (l:=[_,_,_,_,_,_,_,_]) hbxc 1 _ rfl).1
 have HNu:Hid (∀ (e:Int) wx,Calls Tryz.prog 37 #[.int .i64 e] wx fun r w'=>r=.returned (.int .i64 e)∧w'=wx):=num_calls
 by_cases hin:0≤num∧num≤100000
 ·obtain ⟨m,rfl⟩:=Int.eq_ofNat_of_zero_le hin.1
  have hm:m≤100000:=by omega
  have HX:Hid (Calls Tryz.prog 38 #[.pointer (some ⟨x,0,none⟩),.int .i64 m] ((w.alloc (.cells #[.int .i64 7,.int .i64 (m:Int),.slice sa sched.length sc,.slice a0 net.streams.length c0,.slice a1 net.sources.length c1,.slice a2 net.workers.length c2,.string str,.bool which] 65)).drewN 1) fun e w1=>∃ (a:Nat) (b:Int),e=.returned (.tuple #[.int .i64 (a:Nat),.int .i64 b])∧(w1.cell? ⟨sd,0,none⟩=some (.pointer (some ⟨x,0,none⟩))∧w1.cell? ⟨w.heap.size,1,none⟩=some (.int .i64 m))∧w1.cell? ⟨sd,1,none⟩=some (.pointer (some ⟨y,0,none⟩)) ∧
    (∀ q,Calls Tryz.prog 39 #[.pointer (some ⟨y,0,none⟩),.int .i64 m] (w1.drewN q) fun e w2=>e=.returned (.tuple #[.int .i64 (a:Nat),.int .i64 b])∧(w2.cell? ⟨sd,1,none⟩=some (.pointer (some ⟨y,0,none⟩))∧w2.cell? ⟨w.heap.size,1,none⟩=some (.int .i64 m))∧Went2 wz base p v0 c d sd cx cy n vs vr vw col w w2)):=by
   have hcol:newcol (newcol col w.heap.size 22) (w.alloc (.cells #[.int .i64 7,.int .i64 (m:Int),.slice sa sched.length sc,.slice a0 net.streams.length c0,.slice a1 net.sources.length c1,.slice a2 net.workers.length c2,.string str,.bool which] 65)).heap.size 22 w.heap.size=22:=by
    rw [newcol_old (by simp),newcol_new (Nat.le_refl _)]
   have hlt:w.heap.size<((w.alloc (.cells #[.int .i64 7,.int .i64 (m:Int),.slice sa sched.length sc,.slice a0 net.streams.length c0,.slice a1 net.sources.length c1,.slice a2 net.workers.length c2,.string str,.bool which] 65)).drewN 1).heap.size:=by show w.heap.size<(w.alloc (.cells #[.int .i64 7,.int .i64 (m:Int),.slice sa sched.length sc,.slice a0 net.streams.length c0,.slice a1 net.sources.length c1,.slice a2 net.workers.length c2,.string str,.bool which] 65)).heap.size;simp
   refine (flow_both hb1 hf hd m hm).mono fun e w1 ⟨a,b,q1,⟨q2,q3,q4⟩,q5⟩=>⟨a,b,q1,⟨q2,?_⟩,q3,fun q=>(q5 q).mono fun e w2 ⟨r1,⟨r2,r3⟩,R',r4,r5⟩=>⟨r1,⟨r2,?_⟩,?_⟩⟩
   ·exact (blk_cell (l:=[_,_,_,_,_,_,_,_]) ((q4 _ hlt hcol).trans hbxc) 1 _ rfl).1
   ·exact (blk_cell (l:=[_,_,_,_,_,_,_,_]) ((r3 _ hlt hcol).trans hbxc) 1 _ rfl).1
   ·exact Went2.of hd1 r4 (by omega) r5
  clear h hf hd hbx hbl hb1 hd1 hbxc hin
  go_enter Tryz.func16,Tryz.ntmps16
  go_wp2
  go_region_held3 (fun w'=>w'.cell? ⟨sd,0,none⟩=some (.pointer (some ⟨x,0,none⟩))∧w'.cell? ⟨w.heap.size,1,none⟩=some (.int .i64 (m:Int))) (first | exact ⟨s0,b1⟩ | assumption | go_keep) ((go_at_call 38;refine (unhide HX).mono ?_;rintro e w1 ⟨a,b,rfl,hS1,s1',hFy⟩;have HFy:=hide hFy;clear hFy))
  obtain ⟨-,b1'⟩:=hS1
  clear s0 s1 b1 HX
  go_wp2
  go_region_held3 (fun w'=>w'.cell? ⟨sd,1,none⟩=some (.pointer (some ⟨y,0,none⟩))∧w'.cell? ⟨w.heap.size,1,none⟩=some (.int .i64 (m:Int))) (first | exact ⟨s1',b1'⟩ | assumption | go_keep) ((go_at_call 39;refine (unhide HFy _).mono ?_;rintro e w2 ⟨rfl,hS2,ht⟩;have HT:=hide ht;clear ht))
  clear hS2 HFy
  go_wp2_with fail
  refine (unhide HNu b w2).mono ?_
  rintro e w3 ⟨rfl,rfl⟩
  go_wp2
  go_ret
  exact ⟨rfl,HT.out⟩
 ·have hout:num<0∨100000<num:=by omega
  have HX:Hid (∀ wx,Calls Tryz.prog 38 #[.pointer (some ⟨x,0,none⟩),.int .i64 num] wx fun e w1=>e=.returned (.tuple #[.int .i64 0,.int .i64 2])∧w1=wx):=fun wx=>rflow_out num hout
  have HY:Hid (∀ wx,Calls Tryz.prog 39 #[.pointer (some ⟨y,0,none⟩),.int .i64 num] wx fun e w1=>e=.returned (.tuple #[.int .i64 0,.int .i64 2])∧w1=wx):=fun wx=>refFlow_out num hout
  have HT:Hid (∀ q,Went2 wz base p v0 c d sd cx cy n vs vr vw col w ((w.alloc (.cells #[.int .i64 7,.int .i64 num,.slice sa sched.length sc,.slice a0 net.streams.length c0,.slice a1 net.sources.length c1,.slice a2 net.workers.length c2,.string str,.bool which] 65)).drewN q)):=fun q=>Went2.of hbx.2 (hbx.1.below (below_drewN (Below.refl _ _) q)) (by omega) (hf.mono (by omega))
  clear h hf hd hbx hbl hb1 hd1 hbxc hin hout
  go_enter Tryz.func16,Tryz.ntmps16
  go_wp2
  go_region_held3 (fun w'=>w'.cell? ⟨sd,0,none⟩=some (.pointer (some ⟨x,0,none⟩))∧w'.cell? ⟨w.heap.size,1,none⟩=some (.int .i64 num)) (first | exact ⟨s0,b1⟩ | assumption | go_keep) ((go_at_call 38;refine (unhide HX _).mono ?_;rintro e w1 ⟨rfl,rfl⟩))
  go_wp2
  go_region_held3 (fun w'=>w'.cell? ⟨sd,1,none⟩=some (.pointer (some ⟨y,0,none⟩))∧w'.cell? ⟨w.heap.size,1,none⟩=some (.int .i64 num)) (first | exact ⟨s1,b1⟩ | assumption | go_keep) ((go_at_call 39;refine (unhide HY _).mono ?_;rintro e w2 ⟨rfl,rfl⟩))
  go_wp2_with fail
  refine (unhide HNu 2 _).mono ?_
  rintro e w3 ⟨rfl,rfl⟩
  go_wp2
  go_ret
  exact ⟨rfl,HT.out 2⟩
theorem flows_law:StepLaw wz 7:=fun base p v0 c d sd cx cy x y n vs vr vw col w R o h hf hd hc ho hk=>by
 rcases (show o.kind≤5∨o.kind=6∨o.kind=7 by omega) with h5 | h6 | h7
 ·exact steps_law base p v0 c d sd cx cy x y n vs vr vw col w R o h hf hd hc ho h5
 ·rw [h6];exact step_k6 h hf hd o.num o.sched o.sa o.sc o.net o.a0 o.c0 o.a1 o.c1 o.a2 o.c2 o.str o.which
 ·rw [h7];exact step_k7 h hf hd o.num o.sched o.sa o.sc o.net o.a0 o.c0 o.a1 o.c1 o.a2 o.c2 o.str o.which
end
section
variable {wz:World} {base p:Nat} {v0:Value} {c sd cx cy x y:Nat} {n:Net} {vs vr vw:Value} {col:Nat→Nat} {w:World} {R Rx Ry:Rc}
theorem Sd.opened {c':Nat} {col':Nat→Nat} {w':World} (h:Sd wz base p v0 c sd cx cy x y n vs vr vw col w Rx Ry) (hb:Bk base col' w' p v0 c') (ho:Opened base col col' w w'):Turn wz base p v0 c' sd cx cy x y n vs vr vw col w Rx Ry w':=by
 have hx:=h.x0
 have hy:=h.y0
 have hd:Did base sd cx cy col w col' w':=⟨ho.fr.mono fun b _ e=>⟨e.1,Or.inl e.2⟩,ho.old⟩
 have hz:=hd.wz h.wzm h.wzb
 exact ⟨col',⟨h.at'.frame (fun b hb' e=>⟨ho.fr.block b hb' (fun e'=>by have:=e'.2;omega),ho.old b hb' (by omega)⟩) hz,hb,hz,h.wzb,h.x0,h.x9,h.y0,h.y9,h.ne,h.fits,h.net,h.short⟩,hd⟩
set_option maxRecDepth 100000 in
set_option maxHeartbeats 4000000 in
theorem step_k8 (h:Sd wz base p v0 c sd cx cy x y n vs vr vw col w R R) (hc:c+4194304≤1099511627776) (num:Int) (sched:List Int) (sa:Option Addr) (sc:Nat) (net:Net) (a0:Option Addr) (c0:Nat) (a1:Option Addr) (c1:Nat) (a2:Option Addr) (c2:Nat) (str:ByteArray) (which:Bool) (hn:NetAt wz (.agg #[.slice a0 net.streams.length c0,.slice a1 net.sources.length c1,.slice a2 net.workers.length c2]) net) (hs:ShortNet net) :
  Calls Tryz.prog 16 #[.pointer (some ⟨p,0,none⟩),.pointer (some ⟨sd,0,none⟩),.agg #[.int .i64 8,.int .i64 num,.slice sa sched.length sc,.slice a0 net.streams.length c0,.slice a1 net.sources.length c1,.slice a2 net.workers.length c2,.string str,.bool which]] w fun e w'=>e=.returned (.bool true)∧(∃ c',c'≤c+2097160∧Turn wz base p v0 c' sd cx cy x y n vs vr vw col w R R w'):=by
 have hbx:=h.box (.cells #[.int .i64 8,.int .i64 num,.slice sa sched.length sc,.slice a0 net.streams.length c0,.slice a1 net.sources.length c1,.slice a2 net.workers.length c2,.string str,.bool which] 65)
 have h1:=hs.2.1
 have h2:=hs.2.2.1
 have HC:Hid (Calls Tryz.prog 8 #[.pointer (some ⟨p,0,none⟩),(.agg #[.slice a0 net.streams.length c0,.slice a1 net.sources.length c1,.slice a2 net.workers.length c2]),.bool false] (w.alloc (.cells #[.int .i64 8,.int .i64 num,.slice sa sched.length sc,.slice a0 net.streams.length c0,.slice a1 net.sources.length c1,.slice a2 net.workers.length c2,.string str,.bool which] 65)) fun e w'=>e=.returned (.bool true)∧∃ c',c'≤c+2097160∧Turn wz base p v0 c' sd cx cy x y n vs vr vw col w R R w'):=by
  have hst:NetStays base (newcol col w.heap.size 22) (w.alloc (.cells #[.int .i64 8,.int .i64 num,.slice sa sched.length sc,.slice a0 net.streams.length c0,.slice a1 net.sources.length c1,.slice a2 net.workers.length c2,.string str,.bool which] 65)) (.agg #[.slice a0 net.streams.length c0,.slice a1 net.sources.length c1,.slice a2 net.workers.length c2]) net:=fun wx hx=>hn.below (hbx.1.wzm.trans ⟨hx.os,hx.tape,hx.output,hx.size,fun b hb'=>hx.block b (by have:=hbx.1.wzm.size;omega) (fun e=>by have:=e.1;have:=h.wzb;omega)⟩)
  refine (opens_plain hbx.1.bk hst hs (by omega) false (fun e=>by cases e)).mono fun e w' ⟨q1,col',q2,q3⟩=>⟨q1,?_⟩
  obtain ⟨col2,k1,k2⟩:=(hbx.1.opened q2 q3).ex
  exact ⟨_,by omega,col2,k1,hbx.2.trans k2⟩
 clear h hc hbx hn hs h1 h2
 go_enter Tryz.func16,Tryz.ntmps16
 go_wp2_with fail
 refine (unhide HC).mono ?_
 rintro e w1 ⟨rfl,ht⟩
 have HT:=hide ht
 clear ht HC
 go_wp2
 go_ret
 exact ⟨rfl,HT.out⟩
end
section
variable {wz:World} {base p:Nat} {v0:Value} {c d sd cx cy x y:Nat} {n:Net} {vs vr vw:Value} {col:Nat→Nat} {w:World} {R Rx Ry:Rc}
theorem Sd.byts (h:Sd wz base p v0 c sd cx cy x y n vs vr vw col w Rx Ry) {g0:Option Nat} {w':World} (hg0:∀ g,g0=some g→base≤g∧col g=22) (hk:KeptB base col w p v0 c g0 w'):∃ col',Sd wz base p v0 (c+4) sd cx cy x y n vs vr vw col' w' Rx Ry∧Fr (fun b=>g0=some b∨(base≤b∧col b≤8)) w w'∧∀ b,b<w.heap.size→g0≠some b→col' b=col b:=by
 obtain ⟨col',h1,h2,h3⟩:=hk.ex
 have hz:Below wz.heap.size wz w':=h.wzm.trans ⟨hk.fr.os,hk.fr.tape,hk.fr.output,hk.fr.size,fun b hb=>hk.fr.block b (by have:=h.wzm.size;omega) (fun e=>by
  have h9:=h.bk.low b (by have:=h.wzb;omega)
  rcases e with e | e
  ·have:=(hg0 b e).2;omega
  ·omega)⟩
 have hx:=h.x0
 have hy:=h.y0
 refine ⟨col',⟨h.at'.frame (fun b hb e=>?_) hz,h1,hz,h.wzb,h.x0,h.x9,h.y0,h.y9,h.ne,h.fits,h.net,h.short⟩,hk.fr,h2⟩
 have hn:g0≠some b:=fun e'=>by have:=(hg0 b e').2;omega
 exact ⟨hk.fr.block b hb (fun e'=>by rcases e' with e' | e';exact hn e';omega),h2 b hb hn⟩
theorem Fine.saves {N:Net} {R:Rc} {d:Nat} (h:Fine N R d) (hd:d+500≤274877906944):Saves N R:=⟨fun s hs hu hq=>h.nord s hs hu hq,fun s hs=>by have:=h.words s hs;omega⟩
set_option maxRecDepth 100000 in
set_option maxHeartbeats 4000000 in
theorem step_k9 (h:Sd wz base p v0 c sd cx cy x y n vs vr vw col w R R) (hf:Fine n R d) (hd:d+1048576≤274877906944) (hc:c+4194304≤1099511627776) (num:Int) (sched:List Int) (sa:Option Addr) (sc:Nat) (net:Net) (a0:Option Addr) (c0:Nat) (a1:Option Addr) (c1:Nat) (a2:Option Addr) (c2:Nat) (str:ByteArray) (which:Bool) :
  Calls Tryz.prog 16 #[.pointer (some ⟨p,0,none⟩),.pointer (some ⟨sd,0,none⟩),.agg #[.int .i64 9,.int .i64 num,.slice sa sched.length sc,.slice a0 net.streams.length c0,.slice a1 net.sources.length c1,.slice a2 net.workers.length c2,.string str,.bool which]] w fun e w'=>e=.returned (.bool true)∧Went2 wz base p v0 c d sd cx cy n vs vr vw col w w':=by
 have hbx:=h.box (.cells #[.int .i64 9,.int .i64 num,.slice sa sched.length sc,.slice a0 net.streams.length c0,.slice a1 net.sources.length c1,.slice a2 net.workers.length c2,.string str,.bool which] 65)
 obtain ⟨W,hW⟩:∃ W,W=w.alloc (.cells #[.int .i64 9,.int .i64 num,.slice sa sched.length sc,.slice a0 net.streams.length c0,.slice a1 net.sources.length c1,.slice a2 net.workers.length c2,.string str,.bool which] 65):=⟨_,rfl⟩
 have s0:=hbx.1.cells.1
 rw [← hW] at hbx
 have HW:=hide hW
 clear hW
 obtain ⟨h1,hdid⟩:=hbx
 have hlen:=hf.len
 have hbl:(bytesOf (saveNums n R)).length≤4398046511104:=by rw [bytesOf_length];omega
 have hb0:0<(bytesOf (saveNums n R)).length:=by
  rw [bytesOf_length,saveNums,List.length_append,saveW_length]
  have:=(valid_counts h.ok).2.2.1
  omega
 have HX:=hide (has_save h1.at'.hx (hf.saves (by omega)))
 have HCv:Hid (∀ w1 a m cap,SvAt W.heap.size w1 (.slice a m cap) (bytesOf (saveNums n R))→(convert 100 9 (.slice a m cap)).run Tryz.prog w1=.ok (.string (strOfNums (bytesOf (saveNums n R)))) w1):=fun w1 a m cap hv=>sv_conv hv (by omega) hb0
 have HY:Hid (∀ w1 a m cap,Below W.heap.size W w1→SvAt W.heap.size w1 (.slice a m cap) (bytesOf (saveNums n R))→(w1.drew.cell? ⟨sd,1,none⟩=some (.pointer (some ⟨y,0,none⟩))∧(convert 100 9 (.slice a m cap)).run Tryz.prog w1.drew=.ok (.string (strOfNums (bytesOf (saveNums n R)))) w1.drew)∧Calls Tryz.prog 41 #[.pointer (some ⟨y,0,none⟩)] w1.drew fun e w'=>e=.returned (.string (strOfNums (bytesOf (saveNums n R))))∧(w'.cell? ⟨sd,1,none⟩=some (.pointer (some ⟨y,0,none⟩))∧(convert 100 9 (.slice a m cap)).run Tryz.prog w'=.ok (.string (strOfNums (bytesOf (saveNums n R)))) w')∧Below W.heap.size W w'∧SvAt W.heap.size w' (.slice a m cap) (bytesOf (saveNums n R))):=fun w1 a m cap hb hv=>by
  have hbd:Below W.heap.size W w1.drew:=below_drewN hb 1
  have hvd:SvAt W.heap.size w1.drew (.slice a m cap) (bytesOf (saveNums n R)):=hv
  have h2:=h1.belowQ 22 hbd
  refine ⟨⟨h2.cells.2.1,HCv.out _ _ _ _ hvd⟩,(rhas_save h2.at'.hy (by omega)).mono fun e w' ⟨r1,r2⟩=>?_⟩
  have hb':=hbd.trans (r2.mono hbd.size)
  have hv':SvAt W.heap.size w' (.slice a m cap) (bytesOf (saveNums n R)):=own_of_blockB hvd fun g hg=>r2.block g (hvd.lt hg).1
  exact ⟨r1,⟨(h1.belowQ 22 hb').cells.2.1,HCv.out _ _ _ _ hv'⟩,hb',hv'⟩
 have HKp:Hid (∀ w1,Below W.heap.size W w1→Calls Tryz.prog 17 #[.pointer (some ⟨p,0,none⟩)] w1 fun e w'=>e=.returned (.bool true)∧∃ q,w'=w1.drewN q):=fun w1 hb=>(h1.belowQ 22 hb).bk.kept (by omega)
 have HKn:Hid (∀ w1 v,Below W.heap.size W w1→SvAt W.heap.size w1 v (bytesOf (saveNums n R))→Calls Tryz.prog 42 #[.pointer (some ⟨p,0,none⟩),v] w1 fun e w'=>e=.returned (.tuple #[])∧Went2 wz base p v0 c d sd cx cy n vs vr vw col w w'):=fun w1 v hb hv=>by
  have h2:=h1.belowQ 22 hb
  have hbl':=h1.base_le
  have hgv:∀ g,v.ownBlock=some g→base≤g∧newcol (newcol col w.heap.size 22) W.heap.size 22 g=22:=fun g hg=>⟨by have:=(hv.lt hg).2;omega,newcol_new (hv.lt hg).2⟩
  refine (keep_calls h2.bk hv hb.size (fun g hg=>⟨(hgv g hg).1,by rw [(hgv g hg).2];omega⟩) hbl (by omega)).mono fun e w' ⟨q1,q2⟩=>⟨q1,?_⟩
  obtain ⟨col',k1,k2,k3⟩:=h2.byts hgv q2
  refine Went2.of hdid ⟨col',k1,⟨(Fr.of_below (S:=fun b=>base≤b∧(newcol col w.heap.size 22 b≤20∨newcol col w.heap.size 22 b=cx∨newcol col w.heap.size 22 b=cy∨b=sd)) hb).trans k2 (fun b hb' e=>?_),fun b hb' h20=>?_⟩⟩ (by omega) (hf.mono (by omega))
  ·rcases e with e | e
   ·have:=(hv.lt e).2;omega
   ·rw [newcol_old hb'] at e
    exact ⟨e.1,Or.inl (by omega)⟩
  ·rw [k3 b (by have:=hb.size;omega) (fun e=>by have:=(hv.lt e).2;omega),newcol_old hb']
 clear h hf hd hc h1 hdid hlen hbl
 generalize strOfNums (bytesOf (saveNums n R))=st at *
 generalize bytesOf (saveNums n R)=bs at *
 go_enter Tryz.func16,Tryz.ntmps16
 go_wp2_with fail
 rw [← HW.out]
 refine (unhide HX).mono ?_
 rintro e w1 ⟨v,rfl,hsv,hb1⟩
 obtain ⟨a,cap,rfl⟩:=own_slice hsv
 obtain ⟨⟨s1,hcv⟩,hY⟩:=HY.out w1 _ _ _ hb1 hsv
 have HY1:=hide hY
 clear hY hsv HX HY HCv s0 hb1
 go_wp2
 go_region_held3 (fun w'=>w'.cell? ⟨sd,1,none⟩=some (.pointer (some ⟨y,0,none⟩))∧(convert 100 9 (.slice a bs.length cap)).run Tryz.prog w'=.ok (.string st) w') (simp [*])
  ((go_at_call 41;refine (unhide HY1).mono ?_;rintro e w2 ⟨rfl,⟨s1,hcv2⟩,hb2,hsv2⟩;have HSv2:=hide hsv2;have HB2:=hide hb2;have HK1:=hide (HKp.out w2 hb2);clear hb2 hsv2))
 clear HY1 HKp hcv s1
 go_wp2_with fail
 refine (unhide HK1).mono ?_
 rintro e w3 ⟨rfl,q,rfl⟩
 have HN1:=hide (HKn.out (w2.drewN q) _ (below_drewN HB2.out q) HSv2.out)
 clear HK1 HKn HSv2 HB2
 go_wp2_with fail
 refine (unhide HN1).mono ?_
 rintro e w4 ⟨rfl,ht⟩
 have HT:=hide ht
 clear ht HN1
 go_wp2
 go_ret
 exact ⟨rfl,HT.out⟩
end
end Go.Proofs.YthfdgdfnflilfaaGreatDoor

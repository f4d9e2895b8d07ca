/- Part 48: Laws4. -/
import Derived.Test.YthfdgdfnflilfaaGreatDoorPart1
import Derived.Test.YthfdgdfnflilfaaGreatDoorPart2
import Derived.Test.YthfdgdfnflilfaaGreatDoorPart3
import Derived.Test.YthfdgdfnflilfaaGreatDoorPart4
import Derived.Test.YthfdgdfnflilfaaGreatDoorPart5
import Derived.Test.YthfdgdfnflilfaaGreatDoorPart6
import Derived.Test.YthfdgdfnflilfaaGreatDoorPart7
import Derived.Test.YthfdgdfnflilfaaGreatDoorPart8
import Derived.Test.YthfdgdfnflilfaaGreatDoorPart9
import Derived.Test.YthfdgdfnflilfaaGreatDoorPart10
import Derived.Test.YthfdgdfnflilfaaGreatDoorPart11
import Derived.Test.YthfdgdfnflilfaaGreatDoorPart12
import Derived.Test.YthfdgdfnflilfaaGreatDoorPart13
import Derived.Test.YthfdgdfnflilfaaGreatDoorPart14
import Derived.Test.YthfdgdfnflilfaaGreatDoorPart15
import Derived.Test.YthfdgdfnflilfaaGreatDoorPart16
import Derived.Test.YthfdgdfnflilfaaGreatDoorPart17
import Derived.Test.YthfdgdfnflilfaaGreatDoorPart18
import Derived.Test.YthfdgdfnflilfaaGreatDoorPart19
import Derived.Test.YthfdgdfnflilfaaGreatDoorPart20
import Derived.Test.YthfdgdfnflilfaaGreatDoorPart21
import Derived.Test.YthfdgdfnflilfaaGreatDoorPart22
import Derived.Test.YthfdgdfnflilfaaGreatDoorPart23
import Derived.Test.YthfdgdfnflilfaaGreatDoorPart24
import Derived.Test.YthfdgdfnflilfaaGreatDoorPart25
import Derived.Test.YthfdgdfnflilfaaGreatDoorPart26
import Derived.Test.YthfdgdfnflilfaaGreatDoorPart27
import Derived.Test.YthfdgdfnflilfaaGreatDoorPart28
import Derived.Test.YthfdgdfnflilfaaGreatDoorPart29
import Derived.Test.YthfdgdfnflilfaaGreatDoorPart30
import Derived.Test.YthfdgdfnflilfaaGreatDoorPart31
import Derived.Test.YthfdgdfnflilfaaGreatDoorPart32
import Derived.Test.YthfdgdfnflilfaaGreatDoorPart33
import Derived.Test.YthfdgdfnflilfaaGreatDoorPart34
import Derived.Test.YthfdgdfnflilfaaGreatDoorPart35
import Derived.Test.YthfdgdfnflilfaaGreatDoorPart36
import Derived.Test.YthfdgdfnflilfaaGreatDoorPart37
import Derived.Test.YthfdgdfnflilfaaGreatDoorPart38
import Derived.Test.YthfdgdfnflilfaaGreatDoorPart39
import Derived.Test.YthfdgdfnflilfaaGreatDoorPart40
import Derived.Test.YthfdgdfnflilfaaGreatDoorPart41
import Derived.Test.YthfdgdfnflilfaaGreatDoorPart42
import Derived.Test.YthfdgdfnflilfaaGreatDoorPart43
import Derived.Test.YthfdgdfnflilfaaGreatDoorPart44
import Derived.Test.YthfdgdfnflilfaaGreatDoorPart45
import Derived.Test.YthfdgdfnflilfaaGreatDoorPart46
import Derived.Test.YthfdgdfnflilfaaGreatDoorPart47
namespace Go.Proofs.YthfdgdfnflilfaaGreatDoor
open Go.RowKit Go.Conc
set_option maxRecDepth 100000 in
set_option maxHeartbeats 4000000 in
theorem allF_calls {n m:Net} {v u vo:Value} {ops:List OpV} {w:World} (hlaw:StepLaw w 11) (hn:NetAt w v n) (hs:ShortNet n) (hm:NetAt w u m) (hsm:ShortNet m) (ho:ScriptAt w vo ops) :
  Calls Tryz.prog 6 #[v,u,vo] w fun e w'=>e=.returned (.bool true)∧Below w.heap.size w w':=by
 have HN:=hide hn
 have HM:=hide hm
 obtain ⟨vs,vr,vw,rfl,h1,h2,h3⟩:=hn
 obtain ⟨us,ur,uw,rfl,h4,h5,h6⟩:=hm
 obtain ⟨sa,sc,rfl⟩:=h1.form
 obtain ⟨ar,cr,rfl⟩:=h2.form
 obtain ⟨aw,cw,rfl⟩:=h3.form
 obtain ⟨sa2,sc2,rfl⟩:=h4.form
 obtain ⟨ar2,cr2,rfl⟩:=h5.form
 obtain ⟨aw2,cw2,rfl⟩:=h6.form
 clear h1 h2 h3 h4 h5 h6
 have HW:Hid (∀ w1,Below (((w.alloc (.cells #[.slice sa n.streams.length sc,.slice ar n.sources.length cr,.slice aw n.workers.length cw] 26)).alloc (.cells #[.slice sa2 m.streams.length sc2,.slice ar2 m.sources.length cr2,.slice aw2 m.workers.length cw2] 26)).alloc (.cells #[.slice none 0 0,.slice none 0 0,.slice none 0 0,.slice none 0 0,.slice none 0 0,.slice none 0 0,.slice none 0 0,.slice none 0 0] 35)).heap.size (((w.alloc (.cells #[.slice sa n.streams.length sc,.slice ar n.sources.length cr,.slice aw n.workers.length cw] 26)).alloc (.cells #[.slice sa2 m.streams.length sc2,.slice ar2 m.sources.length cr2,.slice aw2 m.workers.length cw2] 26)).alloc (.cells #[.slice none 0 0,.slice none 0 0,.slice none 0 0,.slice none 0 0,.slice none 0 0,.slice none 0 0,.slice none 0 0,.slice none 0 0] 35)) w1 →
   w1.heap[w.heap.size]? = some (.cells #[.slice sa n.streams.length sc,.slice ar n.sources.length cr,.slice aw n.workers.length cw] 26 (0,0))∧Calls Tryz.prog 8 #[.pointer (some ⟨w.heap.size+2,0,none⟩),.agg #[.slice sa n.streams.length sc,.slice ar n.sources.length cr,.slice aw n.workers.length cw],.bool true] w1 fun e w2=>e=.returned (.bool true) ∧
    w2.heap[w.heap.size+1]? = some (.cells #[.slice sa2 m.streams.length sc2,.slice ar2 m.sources.length cr2,.slice aw2 m.workers.length cw2] 26 (0,0))∧Calls Tryz.prog 8 #[.pointer (some ⟨w.heap.size+2,0,none⟩),.agg #[.slice sa2 m.streams.length sc2,.slice ar2 m.sources.length cr2,.slice aw2 m.workers.length cw2],.bool true] w2 fun e w3=>e=.returned (.bool true) ∧
     Calls Tryz.prog 9 #[.pointer (some ⟨w.heap.size+2,0,none⟩),vo,.int .i64 11] w3 fun e w4=>e=.returned (.bool true)∧Below w.heap.size w w4):=fun w1 hb=>by
  have hsz:(((w.alloc (.cells #[.slice sa n.streams.length sc,.slice ar n.sources.length cr,.slice aw n.workers.length cw] 26)).alloc (.cells #[.slice sa2 m.streams.length sc2,.slice ar2 m.sources.length cr2,.slice aw2 m.workers.length cw2] 26)).alloc (.cells #[.slice none 0 0,.slice none 0 0,.slice none 0 0,.slice none 0 0,.slice none 0 0,.slice none 0 0,.slice none 0 0,.slice none 0 0] 35)).heap.size=w.heap.size+3:=by simp
  have hb0:Below w.heap.size w w1:=((((Below.refl _ w).alloc (Nat.le_refl _) _).alloc (by simp) _).alloc (by simp;omega) _).trans (hb.mono (by rw [hsz];omega))
  have hbox:=hb.block w.heap.size (by rw [hsz];omega)
  have hbox1:=hb.block (w.heap.size+1) (by rw [hsz];omega)
  have hwld:=hb.block (w.heap.size+2) (by rw [hsz];omega)
  have hs1:w.heap.size+3≤w1.heap.size:=by have:=hb.size;omega
  have hp0:=play_new (wz:=w) (hwld.trans (heapNew (by simp))) (by omega) hb0
  refine ⟨hbox.trans (heapOld (by simp;omega) (heapOld (by simp) (heapNew rfl))),(hp0.opens (by simp) HN.out hs (by omega)).mono fun e w2 ⟨q1,v0',l',col',q2,q3,q4,q5⟩=>⟨q1,?_,?_⟩⟩
  ·rw [q5.block (w.heap.size+1) (by omega) (fun e=>by
    have h5:=e.2
    rw [if_neg (by omega),if_neg (by omega)] at h5
    omega)]
   exact hbox1.trans (heapOld (by simp) (heapNew (by simp)))
  ·refine (q3.opens (by simp at q2;omega) HM.out hsm (by omega)).mono fun e w3 ⟨r1,v0'',l'',col'',r2,r3,r4,r5⟩=>⟨r1,?_⟩
   have hb2:Below w.heap.size w w3:=r3.wzm
   refine (play_calls (L:=l''.length) ⟨⟨l'',col'',rfl,r3⟩,Fr.refl _ _⟩ (by simp at q2;omega) ho hlaw (by omega) (by omega)).mono fun e w4 ⟨t1,t2⟩=>⟨t1,?_⟩
   exact hb2.trans ⟨t2.os,t2.tape,t2.output,t2.size,fun b hb'=>t2.block b (by have:=hb2.size;omega) (by omega)⟩
 obtain ⟨⟨oa,oc,rfl, -, -⟩, -⟩:=ho
 generalize n.streams.length=k0 at *
 generalize n.sources.length=k1 at *
 generalize n.workers.length=k2 at *
 generalize m.streams.length=j0 at *
 generalize m.sources.length=j1 at *
 generalize m.workers.length=j2 at *
 clear HN hs HM hsm
 go_enter Tryz.func6,Tryz.ntmps6
 go_wp2_with fail
 refine (first_calls _).mono ?_
 rintro e w1 ⟨rfl,hb⟩
 obtain ⟨hbx,hop⟩:=HW.out w1 hb
 have HOp:=hide hop
 clear hb HW hop
 obtain ⟨z0, -⟩:=blk_cell (l:=[_,_,_]) hbx 0 _ rfl
 obtain ⟨z1, -⟩:=blk_cell (l:=[_,_,_]) hbx 1 _ rfl
 obtain ⟨z2, -⟩:=blk_cell (l:=[_,_,_]) hbx 2 _ rfl
 clear hbx
 go_wp2_with fail
 refine (unhide HOp).mono ?_
 rintro e w2 ⟨rfl,hbx,hop⟩
 clear HOp z0 z1 z2
 have HOp:=hide hop
 clear hop
 obtain ⟨z0, -⟩:=blk_cell (l:=[_,_,_]) hbx 0 _ rfl
 obtain ⟨z1, -⟩:=blk_cell (l:=[_,_,_]) hbx 1 _ rfl
 obtain ⟨z2, -⟩:=blk_cell (l:=[_,_,_]) hbx 2 _ rfl
 clear hbx
 go_wp2_with fail
 refine (unhide HOp).mono ?_
 rintro e w3 ⟨rfl,hpl⟩
 have HPl:=hide hpl
 clear HOp hpl z0 z1 z2
 go_wp2_with fail
 refine (unhide HPl).mono ?_
 rintro e w4 ⟨rfl,hb⟩
 have HB:=hide hb
 clear hb HPl
 go_wp2
 go_ret
 exact ⟨rfl,HB.out⟩
end Go.Proofs.YthfdgdfnflilfaaGreatDoor

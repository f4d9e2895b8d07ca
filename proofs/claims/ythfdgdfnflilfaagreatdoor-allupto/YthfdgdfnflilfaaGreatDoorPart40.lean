/- Part 40: RefH, Side2, Side3, Side4, Side5, Side6, Side7, Play1, Play2, Play3. -/
import Derived.Deep.RegionHeld3
import Derived.Test.YthfdgdfnflilfaaGreatDoorPart10
import Derived.Test.YthfdgdfnflilfaaGreatDoorPart25
import Derived.Test.YthfdgdfnflilfaaGreatDoorPart28
import Derived.Test.YthfdgdfnflilfaaGreatDoorPart30
import Derived.Test.YthfdgdfnflilfaaGreatDoorPart34
import Derived.Test.YthfdgdfnflilfaaGreatDoorPart36
import Derived.Test.YthfdgdfnflilfaaGreatDoorPart38
namespace Go.Proofs.YthfdgdfnflilfaaGreatDoor
open Go.RowKit Go.Conc
theorem own_take {w:World} {B:Nat} {a:Option Addr} {cap:Nat} {l:List Int} (h:w.ownsRow B 3 1 (.slice a l.length cap) l.length (intRow l)) (k:Nat) (hk:k≤l.length) (hl:l.length≤140737488355328):k≤cap∧IntsAt w (.slice a k cap) (l.take k):=by
 obtain ⟨a',cap',hv,hc,hg⟩:=own_row_get h
 simp only [Value.slice.injEq,true_and] at hv
 obtain ⟨rfl,rfl⟩:=hv
 refine ⟨by omega,a,cap,by rw [List.length_take];congr 1;omega,by rw [List.length_take];omega,by rw [List.length_take];omega,?_⟩
 rcases Nat.eq_zero_or_pos k with h0 | h0
 ·exact Or.inl (by rw [List.length_take];omega)
 ·obtain ⟨g,rfl, -⟩:=hg 0 (by rw [intRow_length];omega)
  refine Or.inr ⟨g,0,rfl,fun i hi j hj=>?_⟩
  rw [List.length_take] at hi
  obtain ⟨g',e,hcell⟩:=hg i (by rw [intRow_length];omega)
  cases e
  have e0:0+i*1+j=i:=by omega
  rw [e0,hcell]
  have hil:i<l.length:=by omega
  simp [intRow,List.getD,show i<k by omega,hil]
set_option maxRecDepth 100000 in
set_option maxHeartbeats 4000000 in
theorem refHistory_calls {L:RLay} {w:World} {N:Net} {R:Rc} (h:RefAt L w N R) (s:Nat) (hs:s<N.streams.length) (hsm:SmallR N R) :
  Calls Tryz.prog 64 #[.pointer (some ⟨L.p,0,none⟩),.int .i64 s] w fun e w'=>(∃ v,e=.returned v∧IntsAt w' v (histOf (srcd N s) (R.s s)))∧∃ q,w'=w.drewN q:=by
 obtain ⟨p0, -⟩:=blk_cell (l:=[_,_]) h.blk 0 _ rfl
 have c0:w.cell? ⟨L.gS,s*5,none⟩=some (.bool (srcd N s)):=h.sc hs 0 _ (by decide) rfl
 have c2:=h.sc hs 2 _ (by decide) rfl
 have c3:=h.sc hs 3 _ (by decide) rfl
 have hw:=h.words s hs
 have hrl:=h.le s hs
 have hsl:=hsm s hs
 obtain ⟨av,cv,hv⟩:=own_slice hw
 rw [hv] at c2 hw
 obtain ⟨hrc,htk⟩:=own_take hw (R.s s).read hrl (by omega)
 have hal:=(own_take hw (R.s s).words.length (Nat.le_refl _) (by omega)).2
 rw [List.take_length] at hal
 have HT:=hide htk
 have HA:=hide hal
 have hs0:(0:Int)≤(s:Int):=by omega
 have hs1:(s:Int)<(N.streams.length:Int):=by omega
 have hr0:(0:Int)≤((R.s s).read:Int):=by omega
 have hr1:((R.s s).read:Int)≤(cv:Int):=by omega
 clear h hw hv htk hal hsm
 cases hq:srcd N s
 ·rw [hq] at c0
  go_enter Tryz.func64,Tryz.ntmps64
  go_wp2
  go_ret
  exact ⟨⟨_,rfl,HA.out⟩,0,rfl⟩
 ·rw [hq] at c0
  go_enter Tryz.func64,Tryz.ntmps64
  go_wp2
  go_quiet (fail)
  go_wp2
  go_ret
  exact ⟨⟨_,rfl,HT.out⟩,_,rfl⟩
theorem rhas_history {wz:World} {A:Nat→Prop} {p:Nat} {N:Net} {R:Rc} {w:World} (h:RHas wz A p N R w) (s:Nat) (hs:s<N.streams.length) (hsm:SmallR N R) :
  Calls Tryz.prog 64 #[.pointer (some ⟨p,0,none⟩),.int .i64 s] w fun e w'=>(∃ v,e=.returned v∧IntsAt w' v (histOf (srcd N s) (R.s s)))∧∃ q,w'=w.drewN q:=by
 obtain ⟨L,rfl,h2,h3,h4⟩:=h.ex
 exact refHistory_calls h2 s hs hsm
structure Sd (wz:World) (base p:Nat) (v0:Value) (c sd cx cy x y:Nat) (n:Net) (vs vr vw:Value) (col:Nat→Nat) (w:World) (Rx Ry:Rc):Prop where
 at':SideAt wz col w sd cx cy x y n vs vr vw Rx Ry
 bk:Bk base col w p v0 c
 wzm:Below wz.heap.size wz w
 wzb:wz.heap.size≤base
 x0:29<cx
 x9:cx<90
 y0:29<cy
 y9:cy<90
 ne:cx≠cy
 fits:NetFits n
 net:NetAt wz (.agg #[vs,vr,vw]) n
 short:ShortNet n
structure Turn (wz:World) (base p:Nat) (v0:Value) (c sd cx cy x y:Nat) (n:Net) (vs vr vw:Value) (col:Nat→Nat) (w:World) (Rx Ry:Rc) (w':World):Prop where
 ex:∃ col',Sd wz base p v0 c sd cx cy x y n vs vr vw col' w' Rx Ry∧Did base sd cx cy col w col' w'
section
variable {wz:World} {base p:Nat} {v0:Value} {c sd cx cy x y:Nat} {n:Net} {vs vr vw:Value} {col:Nat→Nat} {w:World} {Rx Ry:Rc}
theorem Sd.base_le (h:Sd wz base p v0 c sd cx cy x y n vs vr vw col w Rx Ry):base≤w.heap.size:=by
 obtain ⟨cs,hp, -⟩:=h.bk.blk
 exact Nat.le_trans h.bk.ge (Nat.le_of_lt (lt_of_blk hp))
theorem Sd.refl (h:Sd wz base p v0 c sd cx cy x y n vs vr vw col w Rx Ry):Turn wz base p v0 c sd cx cy x y n vs vr vw col w Rx Ry w:=⟨col,h,⟨Fr.refl _ _,fun _ _ _=>rfl⟩⟩
theorem Sd.belowQ (h:Sd wz base p v0 c sd cx cy x y n vs vr vw col w Rx Ry) (q:Nat) {w':World} (hb:Below w.heap.size w w'):Sd wz base p v0 c sd cx cy x y n vs vr vw (newcol col w.heap.size q) w' Rx Ry:=by
 have hbl:=h.base_le
 refine ⟨h.at'.below h.wzm q hb,h.bk.frame (fun b h' _=>hb.block b h') (fun b h' _=>newcol_old h') (fun b h'=>by rw [newcol_old (by omega)];exact h.bk.low b h') hb.size (Nat.le_refl _),h.wzm.trans (hb.mono h.wzm.size),h.wzb,h.x0,h.x9,h.y0,h.y9,h.ne,h.fits,h.net,h.short⟩
theorem Sd.below (h:Sd wz base p v0 c sd cx cy x y n vs vr vw col w Rx Ry) {w':World} (hb:Below w.heap.size w w'):Turn wz base p v0 c sd cx cy x y n vs vr vw col w Rx Ry w':=
 ⟨_,h.belowQ 22 hb,Did.of_below hb⟩
theorem Sd.keepsx (h:Sd wz base p v0 c sd cx cy x y n vs vr vw col w Rx Ry) {Rx':Rc} {w':World} (hx':Has (fun b=>b<w.heap.size∧col b≠cx) x n Rx' w') (hk:Keeps (fun b=>b<w.heap.size∧col b≠cx) w w'):Turn wz base p v0 c sd cx cy x y n vs vr vw col w Rx' Ry w':=
 ⟨_,⟨h.at'.callx h.bk.low h.wzm h.wzb h.x0 h.x9 h.ne hx' hk,keeps_bk h.bk h.x0 h.x9 h.base_le hk,keeps_wz h.bk.low h.x9 h.wzm h.wzb hk,h.wzb,h.x0,h.x9,h.y0,h.y9,h.ne,h.fits,h.net,h.short⟩,keeps_did h.bk.low h.x9 (Or.inl rfl) hk⟩
theorem Sd.keepsy (h:Sd wz base p v0 c sd cx cy x y n vs vr vw col w Rx Ry) {Ry':Rc} {w':World} (hy':RHas wz (fun b=>b<w.heap.size∧col b≠cy) y n Ry' w') (hk:Keeps (fun b=>b<w.heap.size∧col b≠cy) w w'):Turn wz base p v0 c sd cx cy x y n vs vr vw col w Rx Ry' w':=
 ⟨_,⟨h.at'.cally h.y0 h.ne hy' hk,keeps_bk h.bk h.y0 h.y9 h.base_le hk,keeps_wz h.bk.low h.y9 h.wzm h.wzb hk,h.wzb,h.x0,h.x9,h.y0,h.y9,h.ne,h.fits,h.net,h.short⟩,keeps_did h.bk.low h.y9 (Or.inr rfl) hk⟩
theorem Sd.lowA (h:Sd wz base p v0 c sd cx cy x y n vs vr vw col w Rx Ry):∀ b,b<wz.heap.size→b<w.heap.size∧col b≠cy:=fun b hb=>by
 have h1:=h.wzm.size
 have h2:=h.wzb
 have h3:=h.bk.low b (by omega)
 have h4:=h.y9
 exact ⟨by omega,by omega⟩
theorem Sd.ok (h:Sd wz base p v0 c sd cx cy x y n vs vr vw col w Rx Ry):validB n=true:=(has_len h.at'.hx).2.2
theorem Sd.cells (h:Sd wz base p v0 c sd cx cy x y n vs vr vw col w Rx Ry):w.cell? ⟨sd,0,none⟩=some (.pointer (some ⟨x,0,none⟩))∧w.cell? ⟨sd,1,none⟩=some (.pointer (some ⟨y,0,none⟩)) ∧
  ∃ gS gW cS cW,w.cell? ⟨y,0,none⟩=some (.slice (some ⟨gS,0,none⟩) n.streams.length cS)∧w.cell? ⟨y,1,none⟩=some (.slice (some ⟨gW,0,none⟩) n.workers.length cW):=by
 obtain ⟨L,rfl,h2, -, -⟩:=h.at'.hy.ex
 exact ⟨(blk_cell (l:=[_,_,_,_,_]) h.at'.blk 0 _ rfl).1,(blk_cell (l:=[_,_,_,_,_]) h.at'.blk 1 _ rfl).1,L.gS,L.gW,L.cS,L.cW,(blk_cell (l:=[_,_]) h2.blk 0 _ rfl).1,(blk_cell (l:=[_,_]) h2.blk 1 _ rfl).1⟩
theorem sd_stepx (h:Sd wz base p v0 c sd cx cy x y n vs vr vw col w Rx Ry) (k:Nat) (hk:k<n.workers.length) (hsm:SmallR n Rx) :
  Calls Tryz.prog 19 #[.pointer (some ⟨x,0,none⟩),.int .i64 k] w fun e w'=>e=.returned (.tuple #[.int .i64 (stateOf n Rx k),.int .i64 0])∧Turn wz base p v0 c sd cx cy x y n vs vr vw col w (stepR n Rx k) Ry w':=
 (has_step h.at'.hx k hk hsm).mono fun _ _ ⟨q1,q2,q3⟩=>⟨q1,h.keepsx q2 q3⟩
theorem sd_stepy (h:Sd wz base p v0 c sd cx cy x y n vs vr vw col w Rx Ry) (k:Nat) (hk:k<n.workers.length) (hsm:SmallR n Ry) :
  Calls Tryz.prog 61 #[.pointer (some ⟨y,0,none⟩),.int .i64 k] w fun e w'=>e=.returned (.int .i64 (stateOf n Ry k))∧Turn wz base p v0 c sd cx cy x y n vs vr vw col w Rx (stepR n Ry k) w':=
 (rhas_step h.at'.hy k hk hsm h.wzm h.lowA).mono fun _ _ ⟨q1,q2,q3⟩=>⟨q1,h.keepsy q2 q3⟩
theorem Fine.small {N:Net} {R:Rc} {c:Nat} (h:Fine N R c) (hc:c≤1099511627776):SmallR N R:=fun s hs=>by have:=h.words s hs;omega
theorem in_cases (k:Int) (m:Nat):(∃ j:Nat,k=j∧j<m)∨(inB k m=false∧(k<0∨(0≤k∧(m:Int)≤k))):=by
 by_cases h:0≤k∧k<m
 ·exact Or.inl ⟨k.toNat,by omega,by omega⟩
 ·exact Or.inr ⟨by simp [inB];omega,by omega⟩
set_option maxRecDepth 100000 in
set_option maxHeartbeats 4000000 in
theorem steps_calls {R:Rc} {d:Nat} (h:Sd wz base p v0 c sd cx cy x y n vs vr vw col w R R) (hf:Fine n R d) (hd:d≤1099511627776) (k:Int) :
  Calls Tryz.prog 30 #[.pointer (some ⟨sd,0,none⟩),.int .i64 k] w fun e w'=>e=.returned (.bool true)∧∃ R',Turn wz base p v0 c sd cx cy x y n vs vr vw col w R' R' w'∧Fine n R' (d+1):=by
 obtain ⟨s0,s1,gS,gW,cS,cW,y0,y1⟩:=h.cells
 have hok:=h.ok
 have hsm:=hf.small hd
 rcases in_cases k n.workers.length with ⟨j,rfl,hj⟩ | ⟨hin,hout⟩
 ·have HX:=hide (sd_stepx h j hj hsm)
  have HY:Hid (∀ w1,Turn wz base p v0 c sd cx cy x y n vs vr vw col w (stepR n R j) R w1→(w1.cell? ⟨sd,0,none⟩=some (.pointer (some ⟨x,0,none⟩))∧w1.cell? ⟨sd,1,none⟩=some (.pointer (some ⟨y,0,none⟩))∧∃ gS gW cS cW,w1.cell? ⟨y,0,none⟩=some (.slice (some ⟨gS,0,none⟩) n.streams.length cS)∧w1.cell? ⟨y,1,none⟩=some (.slice (some ⟨gW,0,none⟩) n.workers.length cW)) ∧
    Calls Tryz.prog 61 #[.pointer (some ⟨y,0,none⟩),.int .i64 j] w1 fun e w'=>e=.returned (.int .i64 (stateOf n R j))∧∃ R',Turn wz base p v0 c sd cx cy x y n vs vr vw col w R' R' w'∧Fine n R' (d+1)):=fun w1 ht=>by
   obtain ⟨col1,h1,h2⟩:=ht.ex
   refine ⟨h1.cells,(sd_stepy h1 j hj hsm).mono fun e w' ⟨q1,q2⟩=>⟨q1,stepR n R j,?_,hf.stepR hok h.fits hj⟩⟩
   obtain ⟨col2,h3,h4⟩:=q2.ex
   exact ⟨col2,h3,h2.trans h4⟩
  have hj0:(0:Int)≤(j:Int):=by omega
  have hj1:(j:Int)<(n.workers.length:Int):=by omega
  generalize stateOf n R j=st at *
  clear h hf hsm hok hd
  go_enter Tryz.func30,Tryz.ntmps30
  go_wp2_with fail
  refine (unhide HX).mono ?_
  rintro e w1 ⟨rfl,ht⟩
  obtain ⟨⟨s0,s1,gS,gW,cS,cW,y0,y1⟩,hc⟩:=HY.out w1 ht
  have HC:=hide hc
  clear hc ht HX HY
  go_wp2_with fail
  refine (unhide HC).mono ?_
  rintro e w2 ⟨rfl,hpost⟩
  have HPo:=hide hpost
  clear hpost
  go_wp2
  go_ret
  exact ⟨rfl,HPo.out⟩
 ·have HX:=hide (has_step_out h.at'.hx k hin)
  have HPo:Hid (∃ R',Turn wz base p v0 c sd cx cy x y n vs vr vw col w R' R' w∧Fine n R' (d+1)):=⟨R,h.refl,hf.mono (by omega)⟩
  clear h hf hsm hok hd hin
  rcases hout with hk | ⟨hk0,hk1⟩
  ·go_enter Tryz.func30,Tryz.ntmps30
   go_wp2_with fail
   refine (unhide HX).mono ?_
   rintro e w1 ⟨rfl,rfl⟩
   go_wp2
   go_ret
   exact ⟨rfl,HPo.out⟩
  ·go_enter Tryz.func30,Tryz.ntmps30
   go_wp2_with fail
   refine (unhide HX).mono ?_
   rintro e w1 ⟨rfl,rfl⟩
   go_wp2
   go_ret
   exact ⟨rfl,HPo.out⟩
end
section
variable {wz:World} {base p:Nat} {v0:Value} {c sd cx cy x y:Nat} {n:Net} {vs vr vw:Value} {col:Nat→Nat} {w:World} {Rx Ry:Rc}
theorem Sd.stream (h:Sd wz base p v0 c sd cx cy x y n vs vr vw col w Rx Ry) (s:Nat) (hs:s<n.streams.length):∃ gS cS av cv,w.cell? ⟨y,0,none⟩=some (.slice (some ⟨gS,0,none⟩) n.streams.length cS)∧w.cell? ⟨gS,s*5,none⟩=some (.bool (srcd n s))∧w.cell? ⟨gS,s*5+1,none⟩=some (.bool (used n s))∧w.cell? ⟨gS,s*5+2,none⟩=some (.slice av (Ry.s s).words.length cv)∧w.cell? ⟨gS,s*5+3,none⟩=some (.int .i64 ((Ry.s s).read:Int))∧w.cell? ⟨gS,s*5+4,none⟩=some (.int .i64 ((Ry.s s).room:Int))∧(Ry.s s).read≤(Ry.s s).words.length:=by
 obtain ⟨L,rfl,h2, -, -⟩:=h.at'.hy.ex
 obtain ⟨av,cv,hv⟩:=own_slice (h2.words s hs)
 have c2:=h2.sc hs 2 _ (by decide) rfl
 rw [hv] at c2
 exact ⟨L.gS,L.cS,av,cv,(blk_cell (l:=[_,_]) h2.blk 0 _ rfl).1,h2.sc hs 0 _ (by decide) rfl,h2.sc hs 1 _ (by decide) rfl,c2,h2.sc hs 3 _ (by decide) rfl,h2.sc hs 4 _ (by decide) rfl,h2.le s hs⟩
set_option maxRecDepth 100000 in
set_option maxHeartbeats 4000000 in
theorem rooms_calls {R:Rc} {d:Nat} (h:Sd wz base p v0 c sd cx cy x y n vs vr vw col w R R) (hf:Fine n R d) (hd:d≤1099511627776) (k:Int) :
  Calls Tryz.prog 34 #[.pointer (some ⟨sd,0,none⟩),.int .i64 k] w fun e w'=>e=.returned (.bool true)∧Turn wz base p v0 c sd cx cy x y n vs vr vw col w R R w':=by
 obtain ⟨s0,s1,gS,gW,cS,cW,y0,y1⟩:=h.cells
 rcases in_cases k n.streams.length with ⟨j,rfl,hj⟩ | ⟨hin,hout⟩
 ·have HX:=hide (has_room h.at'.hx j hj)
  have hlen:=hf.words j hj
  have HY:Hid (∀ w1,Below w.heap.size w w1→w1.cell? ⟨sd,0,none⟩=some (.pointer (some ⟨x,0,none⟩))∧w1.cell? ⟨sd,1,none⟩=some (.pointer (some ⟨y,0,none⟩))∧∃ gS cS av cv,w1.cell? ⟨y,0,none⟩=some (.slice (some ⟨gS,0,none⟩) n.streams.length cS)∧w1.cell? ⟨gS,j*5,none⟩=some (.bool (srcd n j))∧w1.cell? ⟨gS,j*5+1,none⟩=some (.bool (used n j))∧w1.cell? ⟨gS,j*5+2,none⟩=some (.slice av (R.s j).words.length cv)∧w1.cell? ⟨gS,j*5+3,none⟩=some (.int .i64 ((R.s j).read:Int))∧w1.cell? ⟨gS,j*5+4,none⟩=some (.int .i64 ((R.s j).room:Int))∧(R.s j).read≤(R.s j).words.length):=fun w1 hb=>by
   have h1:=h.belowQ 22 hb
   obtain ⟨q1,q2, -⟩:=h1.cells
   exact ⟨q1,q2,h1.stream j hj⟩
  have HPo:Hid (∀ w1,Below w.heap.size w w1→Turn wz base p v0 c sd cx cy x y n vs vr vw col w R R w1):=fun w1 hb=>h.below hb
  have hj0:(0:Int)≤(j:Int):=by omega
  have hj1:(j:Int)<(n.streams.length:Int):=by omega
  clear h hf s0 s1 y0 y1 gS cS gW cW
  cases hsr:srcd n j
  ·cases hus:used n j
   ·have hh:heldB n j=false:=by simp [heldB,hus]
    rw [hh] at HX
    simp only [Bool.false_eq_true,if_false] at HX
    rw [hsr,hus] at HY
    go_enter Tryz.func34,Tryz.ntmps34
    obtain ⟨s0, -⟩:=HY.out w (Below.refl _ _)
    go_wp2_with fail
    refine (unhide HX).mono ?_
    rintro e w1 ⟨rfl,hb⟩
    obtain ⟨s0,s1,gS,cS,av,cv,y0,c0,c1,c2,c3,c4,hle⟩:=HY.out w1 hb
    have HPo1:=hide (fun o=>HPo.out _ (hb.alloc hb.size o))
    clear HX HY hb HPo
    go_wp2
    go_ret
    exact ⟨rfl,HPo1.out _⟩
   ·have hh:heldB n j=true:=by simp [heldB,hus,hsr]
    rw [hh] at HX
    simp only [if_true] at HX
    rw [hsr,hus] at HY
    go_enter Tryz.func34,Tryz.ntmps34
    obtain ⟨s0, -⟩:=HY.out w (Below.refl _ _)
    go_wp2_with fail
    refine (unhide HX).mono ?_
    rintro e w1 ⟨rfl,hb⟩
    obtain ⟨s0,s1,gS,cS,av,cv,y0,c0,c1,c2,c3,c4,hle⟩:=HY.out w1 hb
    have HPo1:=hide (fun o=>HPo.out _ (hb.alloc hb.size o))
    have wr1:wrap64 (((R.s j).words.length:Int)-((R.s j).read:Int))=(((R.s j).words.length-(R.s j).read:Nat):Int):=by unfold wrap64;omega
    clear HX HY hb HPo hlen
    go_wp2
    go_ret
    exact ⟨rfl,HPo1.out _⟩
  ·have hh:heldB n j=false:=by simp [heldB,hsr]
   rw [hh] at HX
   simp only [Bool.false_eq_true,if_false] at HX
   rw [hsr] at HY
   go_enter Tryz.func34,Tryz.ntmps34
   obtain ⟨s0, -⟩:=HY.out w (Below.refl _ _)
   go_wp2_with fail
   refine (unhide HX).mono ?_
   rintro e w1 ⟨rfl,hb⟩
   obtain ⟨s0,s1,gS,cS,av,cv,y0,c0,c1,c2,c3,c4,hle⟩:=HY.out w1 hb
   have HPo1:=hide (fun o=>HPo.out _ (hb.alloc hb.size o))
   clear HX HY hb HPo
   go_wp2
   go_ret
   exact ⟨rfl,HPo1.out _⟩
 ·have HX:=hide (has_room_out h.at'.hx k hin)
  have HPo:=hide h.refl
  clear h hf hin hd
  rcases hout with hk | ⟨hk0,hk1⟩
  ·go_enter Tryz.func34,Tryz.ntmps34
   go_wp2_with fail
   refine (unhide HX).mono ?_
   rintro e w1 ⟨rfl,rfl⟩
   go_wp2
   go_ret
   exact ⟨rfl,HPo.out⟩
  ·go_enter Tryz.func34,Tryz.ntmps34
   go_wp2_with fail
   refine (unhide HX).mono ?_
   rintro e w1 ⟨rfl,rfl⟩
   go_wp2
   go_ret
   exact ⟨rfl,HPo.out⟩
end
section
variable {wz:World} {base p:Nat} {v0:Value} {c sd cx cy x y:Nat} {n:Net} {vs vr vw:Value} {col:Nat→Nat} {w:World} {Rx Ry:Rc}
theorem Sd.worker (h:Sd wz base p v0 c sd cx cy x y n vs vr vw col w Rx Ry) (k:Nat) (hk:k<n.workers.length):∃ gW cW vc,w.cell? ⟨y,1,none⟩=some (.slice (some ⟨gW,0,none⟩) n.workers.length cW)∧w.cell? ⟨gW,k*7,none⟩=some vc∧w.cell? ⟨gW,k*7+1,none⟩=some (.int .i64 ((Ry.w k).place:Int))∧w.cell? ⟨gW,k*7+2,none⟩=some (.int .i64 ((Ry.w k).r 0))∧w.cell? ⟨gW,k*7+3,none⟩=some (.int .i64 ((Ry.w k).r 1))∧w.cell? ⟨gW,k*7+4,none⟩=some (.int .i64 ((Ry.w k).r 2))∧w.cell? ⟨gW,k*7+5,none⟩=some (.int .i64 ((Ry.w k).r 3))∧w.cell? ⟨gW,k*7+6,none⟩=some (.int .i64 ((Ry.w k).steps))∧∃ a l cc,vc=.slice a l cc:=by
 obtain ⟨L,rfl,h2, -, -⟩:=h.at'.hy.ex
 obtain ⟨ca,cc,hvc, -⟩:=(h2.code k hk).openD
 exact ⟨L.gW,L.cW,L.VC k,(blk_cell (l:=[_,_]) h2.blk 1 _ rfl).1,h2.wc hk 0 _ (by decide) rfl,h2.wc hk 1 _ (by decide) rfl,h2.wc hk 2 _ (by decide) rfl,h2.wc hk 3 _ (by decide) rfl,h2.wc hk 4 _ (by decide) rfl,h2.wc hk 5 _ (by decide) rfl,h2.wc hk 6 _ (by decide) rfl,_,_,_,hvc⟩
set_option maxRecDepth 100000 in
set_option maxHeartbeats 4000000 in
theorem looks_calls {R:Rc} (h:Sd wz base p v0 c sd cx cy x y n vs vr vw col w R R) (k:Int) :
  Calls Tryz.prog 32 #[.pointer (some ⟨sd,0,none⟩),.int .i64 k] w fun e w'=>e=.returned (.bool true)∧Turn wz base p v0 c sd cx cy x y n vs vr vw col w R R w':=by
 obtain ⟨s0,s1,gS,gW,cS,cW,y0,y1⟩:=h.cells
 rcases in_cases k n.workers.length with ⟨j,rfl,hj⟩ | ⟨hin,hout⟩
 ·have HX:=hide (has_look h.at'.hx j hj)
  have HY:Hid (∀ w1,Below w.heap.size w w1→(w1.cell? ⟨sd,0,none⟩=some (.pointer (some ⟨x,0,none⟩))∧w1.cell? ⟨sd,1,none⟩=some (.pointer (some ⟨y,0,none⟩)))∧(∃ gW cW vc,w1.cell? ⟨y,1,none⟩=some (.slice (some ⟨gW,0,none⟩) n.workers.length cW)∧w1.cell? ⟨gW,j*7,none⟩=some vc∧w1.cell? ⟨gW,j*7+1,none⟩=some (.int .i64 ((R.w j).place:Int))∧w1.cell? ⟨gW,j*7+2,none⟩=some (.int .i64 ((R.w j).r 0))∧w1.cell? ⟨gW,j*7+3,none⟩=some (.int .i64 ((R.w j).r 1))∧w1.cell? ⟨gW,j*7+4,none⟩=some (.int .i64 ((R.w j).r 2))∧w1.cell? ⟨gW,j*7+5,none⟩=some (.int .i64 ((R.w j).r 3))∧w1.cell? ⟨gW,j*7+6,none⟩=some (.int .i64 ((R.w j).steps))∧∃ a l cc,vc=.slice a l cc) ∧
    Calls Tryz.prog 63 #[.pointer (some ⟨y,0,none⟩),.int .i64 j] w1 fun e w'=>e=.returned (.int .i64 (stateOf n R j))∧Below w1.heap.size w1 w'):=fun w1 hb=>by
   have h1:=h.belowQ 22 hb
   obtain ⟨q1,q2, -⟩:=h1.cells
   exact ⟨⟨q1,q2⟩,h1.worker j hj,rhas_state h1.at'.hy j hj⟩
  have HPo:Hid (∀ w1,Below w.heap.size w w1→Turn wz base p v0 c sd cx cy x y n vs vr vw col w R R w1):=fun w1 hb=>h.below hb
  have hj0:(0:Int)≤(j:Int):=by omega
  have hj1:(j:Int)<(n.workers.length:Int):=by omega
  simp only [lookVal] at HX
  generalize (stateOf n R j:Int)=st at *
  generalize ((R.w j).place:Int)=a0 at *
  generalize (R.w j).r 0=a1 at *
  generalize (R.w j).r 1=a2 at *
  generalize (R.w j).r 2=a3 at *
  generalize (R.w j).r 3=a4 at *
  generalize (R.w j).steps=a5 at *
  clear h s1 y0 y1 gS cS gW cW
  have hlk:∀ wx:World,(Op.equalIn 10000 90 (.agg #[.int .i64 a1,.int .i64 a2,.int .i64 a3,.int .i64 a4]) (.agg #[.int .i64 a1,.int .i64 a2,.int .i64 a3,.int .i64 a4])).run Tryz.prog wx=.ok true wx:=fun wx=>by
   have:=eqRegs 9998 a1 a2 a3 a4 a1 a2 a3 a4 wx
   simpa using this
  go_enter Tryz.func32,Tryz.ntmps32
  go_wp2_with fail
  refine (unhide HX).mono ?_
  rintro e w1 ⟨rfl,hb⟩
  obtain ⟨⟨s0,s1⟩,⟨gW,cW,vc,y1,d0,d1,d2,d3,d4,d5,d6,va,vl,vcc,rfl⟩, -⟩:=HY.out w1 hb
  have z0:=lt_of_cell s0
  have z1:=lt_of_cell y1
  have z2:=lt_of_cell d0
  have HB1:=hide hb
  clear hb HX
  go_upto_region 5 with fail
  have hk3:((w1.alloc (.cells #[.int .i64 a0,.int .i64 a1,.int .i64 a2,.int .i64 a3,.int .i64 a4,.int .i64 a5,.int .i64 st] 123)).alloc (.cells #[.slice va vl vcc,.int .i64 a0,.int .i64 a1,.int .i64 a2,.int .i64 a3,.int .i64 a4,.int .i64 a5] 92)).heap[w1.heap.size]? = some (.cells #[.int .i64 a0,.int .i64 a1,.int .i64 a2,.int .i64 a3,.int .i64 a4,.int .i64 a5,.int .i64 st] 123 (0,0)):=heapOld (by simp) (heapNew rfl)
  have hx3:((w1.alloc (.cells #[.int .i64 a0,.int .i64 a1,.int .i64 a2,.int .i64 a3,.int .i64 a4,.int .i64 a5,.int .i64 st] 123)).alloc (.cells #[.slice va vl vcc,.int .i64 a0,.int .i64 a1,.int .i64 a2,.int .i64 a3,.int .i64 a4,.int .i64 a5] 92)).heap[w1.heap.size+1]? = some (.cells #[.slice va vl vcc,.int .i64 a0,.int .i64 a1,.int .i64 a2,.int .i64 a3,.int .i64 a4,.int .i64 a5] 92 (0,0)):=heapNew (by simp)
  have hb3:Below w.heap.size w ((w1.alloc (.cells #[.int .i64 a0,.int .i64 a1,.int .i64 a2,.int .i64 a3,.int .i64 a4,.int .i64 a5,.int .i64 st] 123)).alloc (.cells #[.slice va vl vcc,.int .i64 a0,.int .i64 a1,.int .i64 a2,.int .i64 a3,.int .i64 a4,.int .i64 a5] 92)):=HB1.out.trans ((((Below.refl _ _).alloc (Nat.le_refl _) _).alloc (by simp) _).mono HB1.out.size)
  generalize (w1.alloc (.cells #[.int .i64 a0,.int .i64 a1,.int .i64 a2,.int .i64 a3,.int .i64 a4,.int .i64 a5,.int .i64 st] 123)).alloc (.cells #[.slice va vl vcc,.int .i64 a0,.int .i64 a1,.int .i64 a2,.int .i64 a3,.int .i64 a4,.int .i64 a5] 92)=w3 at *
  generalize w1.heap.size=kb at *
  clear HB1 s0 s1 y1 d0 d1 d2 d3 d4 d5 d6 z0 z1 z2
  have HSt:Hid (Calls Tryz.prog 63 #[.pointer (some ⟨y,0,none⟩),.int .i64 j] w3.drew fun e w'=>e=.returned (.int .i64 st)∧(w'.cell? ⟨sd,1,none⟩=some (.pointer (some ⟨y,0,none⟩))∧w'.cell? ⟨kb,0,none⟩=some (.int .i64 a0)∧w'.cell? ⟨kb,1,none⟩=some (.int .i64 a1)∧w'.cell? ⟨kb,2,none⟩=some (.int .i64 a2)∧w'.cell? ⟨kb,3,none⟩=some (.int .i64 a3)∧w'.cell? ⟨kb,4,none⟩=some (.int .i64 a4)∧w'.cell? ⟨kb,5,none⟩=some (.int .i64 a5)∧w'.cell? ⟨kb,6,none⟩=some (.int .i64 st)∧w'.cell? ⟨kb+1,1,none⟩=some (.int .i64 a0)∧w'.cell? ⟨kb+1,2,none⟩=some (.int .i64 a1)∧w'.cell? ⟨kb+1,3,none⟩=some (.int .i64 a2)∧w'.cell? ⟨kb+1,4,none⟩=some (.int .i64 a3)∧w'.cell? ⟨kb+1,5,none⟩=some (.int .i64 a4)∧w'.cell? ⟨kb+1,6,none⟩=some (.int .i64 a5))∧Turn wz base p v0 c sd cx cy x y n vs vr vw col w R R w'):=by
   have hb4:Below w.heap.size w w3.drew:=hb3.drew
   refine (HY.out w3.drew hb4).2.2.mono fun e w' ⟨q1,q2⟩=>⟨q1,?_,HPo.out w' (hb4.trans (q2.mono hb4.size))⟩
   have k4:=(q2.block _ (lt_of_blk hk3)).trans hk3
   have x4:=(q2.block _ (lt_of_blk hx3)).trans hx3
   exact ⟨((HY.out w' (hb4.trans (q2.mono hb4.size))).1).2,(blk_cell (l:=[_,_,_,_,_,_,_]) k4 0 _ rfl).1,(blk_cell (l:=[_,_,_,_,_,_,_]) k4 1 _ rfl).1,(blk_cell (l:=[_,_,_,_,_,_,_]) k4 2 _ rfl).1,(blk_cell (l:=[_,_,_,_,_,_,_]) k4 3 _ rfl).1,(blk_cell (l:=[_,_,_,_,_,_,_]) k4 4 _ rfl).1,(blk_cell (l:=[_,_,_,_,_,_,_]) k4 5 _ rfl).1,(blk_cell (l:=[_,_,_,_,_,_,_]) k4 6 _ rfl).1,(blk_cell (l:=[_,_,_,_,_,_,_]) x4 1 _ rfl).1,(blk_cell (l:=[_,_,_,_,_,_,_]) x4 2 _ rfl).1,(blk_cell (l:=[_,_,_,_,_,_,_]) x4 3 _ rfl).1,(blk_cell (l:=[_,_,_,_,_,_,_]) x4 4 _ rfl).1,(blk_cell (l:=[_,_,_,_,_,_,_]) x4 5 _ rfl).1,(blk_cell (l:=[_,_,_,_,_,_,_]) x4 6 _ rfl).1⟩
  obtain ⟨-,s1⟩:=(HY.out w3 hb3).1
  have k0:=(blk_cell (l:=[_,_,_,_,_,_,_]) hk3 0 _ rfl).1
  have k1:=(blk_cell (l:=[_,_,_,_,_,_,_]) hk3 1 _ rfl).1
  have k2:=(blk_cell (l:=[_,_,_,_,_,_,_]) hk3 2 _ rfl).1
  have k3:=(blk_cell (l:=[_,_,_,_,_,_,_]) hk3 3 _ rfl).1
  have k4:=(blk_cell (l:=[_,_,_,_,_,_,_]) hk3 4 _ rfl).1
  have k5:=(blk_cell (l:=[_,_,_,_,_,_,_]) hk3 5 _ rfl).1
  have k6:=(blk_cell (l:=[_,_,_,_,_,_,_]) hk3 6 _ rfl).1
  have x1:=(blk_cell (l:=[_,_,_,_,_,_,_]) hx3 1 _ rfl).1
  have x2:=(blk_cell (l:=[_,_,_,_,_,_,_]) hx3 2 _ rfl).1
  have x3:=(blk_cell (l:=[_,_,_,_,_,_,_]) hx3 3 _ rfl).1
  have x4:=(blk_cell (l:=[_,_,_,_,_,_,_]) hx3 4 _ rfl).1
  have x5:=(blk_cell (l:=[_,_,_,_,_,_,_]) hx3 5 _ rfl).1
  have x6:=(blk_cell (l:=[_,_,_,_,_,_,_]) hx3 6 _ rfl).1
  clear hk3 hx3 hb3 HY HPo
  go_region_held3 (fun w'=>w'.cell? ⟨sd,1,none⟩=some (.pointer (some ⟨y,0,none⟩))∧w'.cell? ⟨kb,0,none⟩=some (.int .i64 a0)∧w'.cell? ⟨kb,1,none⟩=some (.int .i64 a1)∧w'.cell? ⟨kb,2,none⟩=some (.int .i64 a2)∧w'.cell? ⟨kb,3,none⟩=some (.int .i64 a3)∧w'.cell? ⟨kb,4,none⟩=some (.int .i64 a4)∧w'.cell? ⟨kb,5,none⟩=some (.int .i64 a5)∧w'.cell? ⟨kb,6,none⟩=some (.int .i64 st)∧w'.cell? ⟨kb+1,1,none⟩=some (.int .i64 a0)∧w'.cell? ⟨kb+1,2,none⟩=some (.int .i64 a1)∧w'.cell? ⟨kb+1,3,none⟩=some (.int .i64 a2)∧w'.cell? ⟨kb+1,4,none⟩=some (.int .i64 a3)∧w'.cell? ⟨kb+1,5,none⟩=some (.int .i64 a4)∧w'.cell? ⟨kb+1,6,none⟩=some (.int .i64 a5)) (first | exact ⟨s1,k0,k1,k2,k3,k4,k5,k6,x1,x2,x3,x4,x5,x6⟩ | assumption | go_keep)
   ((go_at_call 63;refine (unhide HSt).mono ?_;rintro e w4 ⟨rfl,hS4,hT4⟩;have HT4:=hide hT4;clear hT4))
  go_wp2
  go_ret
  exact ⟨rfl,HT4.out⟩
 ·have HX:=hide (has_look_out h.at'.hx k hin)
  have HY:Hid (∀ w1,Below w.heap.size w w1→w1.cell? ⟨sd,0,none⟩=some (.pointer (some ⟨x,0,none⟩))∧w1.cell? ⟨sd,1,none⟩=some (.pointer (some ⟨y,0,none⟩))∧∃ gS gW cS cW,w1.cell? ⟨y,0,none⟩=some (.slice (some ⟨gS,0,none⟩) n.streams.length cS)∧w1.cell? ⟨y,1,none⟩=some (.slice (some ⟨gW,0,none⟩) n.workers.length cW)):=fun w1 hb=>(h.belowQ 22 hb).cells
  have HPo:Hid (∀ w1,Below w.heap.size w w1→Turn wz base p v0 c sd cx cy x y n vs vr vw col w R R w1):=fun w1 hb=>h.below hb
  have hlk:∀ wx:World,(Op.equalIn 10000 123 (.agg #[.int .i64 0,.int .i64 0,.int .i64 0,.int .i64 0,.int .i64 0,.int .i64 0,.int .i64 0]) (.agg #[.int .i64 0,.int .i64 0,.int .i64 0,.int .i64 0,.int .i64 0,.int .i64 0,.int .i64 0])).run Tryz.prog wx=.ok true wx:=fun wx=>by
   have:=eqLook 0 0 0 0 0 0 0 0 0 0 0 0 0 0 wx
   simpa using this
  clear h hin s1 y0 y1
  rcases hout with hk | ⟨hk0,hk1⟩
  ·go_enter Tryz.func32,Tryz.ntmps32
   go_wp2_with fail
   refine (unhide HX).mono ?_
   rintro e w1 ⟨rfl,hb⟩
   have HPo1:=hide (fun o=>HPo.out _ (hb.alloc hb.size o))
   clear HX HY hb HPo
   go_wp2
   go_ret
   exact ⟨rfl,HPo1.out _⟩
  ·go_enter Tryz.func32,Tryz.ntmps32
   go_wp2_with fail
   refine (unhide HX).mono ?_
   rintro e w1 ⟨rfl,hb⟩
   obtain ⟨s0,s1,gS,gW,cS,cW,y0,y1⟩:=HY.out w1 hb
   have HPo1:=hide (fun o=>HPo.out _ (hb.alloc hb.size o))
   have z0:=lt_of_cell s0
   have z1:=lt_of_cell y1
   clear HX HY hb HPo
   go_wp2
   go_ret
   exact ⟨rfl,HPo1.out _⟩
end
section
variable {wz:World} {base p:Nat} {v0:Value} {c sd cx cy x y:Nat} {n:Net} {vs vr vw:Value} {col:Nat→Nat} {w:World} {Rx Ry:Rc}
theorem Sd.nums (h:Sd wz base p v0 c sd cx cy x y n vs vr vw col w Rx Ry) {g0:Option Nat} {w':World} (hg0:∀ g,g0=some g→base≤g∧col g=22) (hk:KeptN base col w p v0 c g0 w'):∃ col',Sd wz base p v0 (c+4) sd cx cy x y n vs vr vw col' w' Rx Ry∧Fr (fun b=>g0=some b∨(base≤b∧col b≤8)) w w'∧∀ b,b<w.heap.size→g0≠some b→col' b=col b:=by
 obtain ⟨col',h1,h2,h3⟩:=hk.ex
 have hz:Below wz.heap.size wz w':=h.wzm.trans ⟨hk.fr.os,hk.fr.tape,hk.fr.output,hk.fr.size,fun b hb=>hk.fr.block b (by have:=h.wzm.size;omega) (fun e=>by
  have h9:=h.bk.low b (by have:=h.wzb;omega)
  rcases e with e | e
  ·have:=(hg0 b e).2;omega
  ·omega)⟩
 have hx:=h.x0
 have hy:=h.y0
 refine ⟨col',⟨h.at'.frame (fun b hb e=>?_) hz,h1,hz,h.wzb,h.x0,h.x9,h.y0,h.y9,h.ne,h.fits,h.net,h.short⟩,hk.fr,h2⟩
 have hn:g0≠some b:=fun e'=>by have:=(hg0 b e').2;omega
 exact ⟨hk.fr.block b hb (fun e'=>by rcases e' with e' | e';exact hn e';omega),h2 b hb hn⟩
set_option maxRecDepth 100000 in
set_option maxHeartbeats 4000000 in
theorem histories_calls {R:Rc} {d:Nat} (h:Sd wz base p v0 c sd cx cy x y n vs vr vw col w R R) (hf:Fine n R d) (hd:d≤1099511627776) (hc:c≤1099511627776) (k:Int) :
  Calls Tryz.prog 33 #[.pointer (some ⟨p,0,none⟩),.pointer (some ⟨sd,0,none⟩),.int .i64 k] w fun e w'=>e=.returned (.bool true)∧Turn wz base p v0 (c+4) sd cx cy x y n vs vr vw col w R R w':=by
 obtain ⟨s0,s1,gS,gW,cS,cW,y0,y1⟩:=h.cells
 rcases in_cases k n.streams.length with ⟨j,rfl,hj⟩ | ⟨hin,hout⟩
 ·have hsm:=hf.small hd
  have hlen:=hsm j hj
  have hhl:(histOf (srcd n j) (R.s j)).length≤(R.s j).words.length:=by
   unfold histOf;split
   ·rw [List.length_take];omega
   ·exact Nat.le_refl _
  have HX:=hide (has_history h.at'.hx j hj)
  have HY:Hid (∀ w1,Below w.heap.size w w1→(w1.cell? ⟨sd,0,none⟩=some (.pointer (some ⟨x,0,none⟩))∧w1.cell? ⟨sd,1,none⟩=some (.pointer (some ⟨y,0,none⟩))∧∃ gS gW cS cW,w1.cell? ⟨y,0,none⟩=some (.slice (some ⟨gS,0,none⟩) n.streams.length cS)∧w1.cell? ⟨y,1,none⟩=some (.slice (some ⟨gW,0,none⟩) n.workers.length cW)) ∧
    Calls Tryz.prog 64 #[.pointer (some ⟨y,0,none⟩),.int .i64 j] w1 fun e w'=>(∃ v,e=.returned v∧IntsAt w' v (histOf (srcd n j) (R.s j)))∧∃ q,w'=w1.drewN q):=fun w1 hb=>by
   have h1:=h.belowQ 22 hb
   exact ⟨h1.cells,rhas_history h1.at'.hy j hj hsm⟩
  have HKp:Hid (∀ w1,Below w.heap.size w w1→Calls Tryz.prog 17 #[.pointer (some ⟨p,0,none⟩)] w1 fun e w'=>e=.returned (.bool true)∧∃ q,w'=w1.drewN q):=fun w1 hb=>(h.belowQ 22 hb).bk.kept (by omega)
  have HKn:Hid (∀ w1 v m l,Below w.heap.size w w1→w1.ownsRow w.heap.size 3 1 v m l→m≤(R.s j).words.length→Calls Tryz.prog 65 #[.pointer (some ⟨p,0,none⟩),v] w1 fun e w'=>e=.returned (.tuple #[])∧Turn wz base p v0 (c+4) sd cx cy x y n vs vr vw col w R R w'):=fun w1 v m l hb hv hm=>by
   have h1:=h.belowQ 22 hb
   have hbl:=h.base_le
   have hgv:∀ g,v.ownBlock=some g→base≤g∧newcol col w.heap.size 22 g=22:=fun g hg=>⟨by have:=(hv.lt g hg).1;omega,newcol_new (hv.lt g hg).1⟩
   refine (keepNums_calls h1.bk hv hb.size (fun g hg=>⟨(hgv g hg).1,by rw [(hgv g hg).2];omega⟩) (by omega) hc).mono fun e w' ⟨q1,q2⟩=>⟨q1,?_⟩
   obtain ⟨col',k1,k2,k3⟩:=h1.nums hgv q2
   refine ⟨col',k1,⟨(Fr.of_below (S:=fun b=>base≤b∧(col b≤20∨col b=cx∨col b=cy∨b=sd)) hb).trans k2 (fun b hb' e=>?_),fun b hb' h20=>?_⟩⟩
   ·rcases e with e | e
    ·have:=(hv.lt b e).1;omega
    ·rw [newcol_old hb'] at e
     exact ⟨e.1,Or.inl (by omega)⟩
   ·rw [k3 b (by have:=hb.size;omega) (fun e=>by have:=(hv.lt b e).1;omega),newcol_old hb']
  have hj0:(0:Int)≤(j:Int):=by omega
  have hj1:(j:Int)<(n.streams.length:Int):=by omega
  clear h hf hsm s1 y0 y1 gS cS gW cW
  generalize histOf (srcd n j) (R.s j)=hl at *
  generalize (R.s j).words.length=wlen at *
  go_enter Tryz.func33,Tryz.ntmps33
  go_wp2_with fail
  refine (unhide HX).mono ?_
  rintro e w1 ⟨a',c',rfl,how,hb1⟩
  obtain ⟨⟨s0,s1,gS,gW,cS,cW,y0,y1⟩,hHi⟩:=HY.out w1 hb1
  have HHi:=hide hHi
  have HO:=hide how
  have HB:=hide hb1
  clear hHi how hb1 HX HY
  go_wp2_with fail
  refine (unhide HHi).mono ?_
  rintro e w2 ⟨⟨vh,rfl,hih⟩,q,rfl⟩
  have HSm:Hid (Calls Tryz.prog 60 #[.slice a' hl.length c',vh] (w1.drewN q) fun e w'=>e=.returned (.bool true)∧∃ q',w'=(w1.drewN q).drewN q'):=sameInts_calls (ints_own (B:=w.heap.size) (w:=w1) HO.out (by omega)) hih
  clear hih HHi
  go_wp2_with fail
  refine (unhide HSm).mono ?_
  rintro e w3 ⟨rfl,q',rfl⟩
  have HK1:=hide (HKp.out (w1.drewN (q+q')) (below_drewN HB.out _))
  clear HSm HKp
  go_wp2_with fail
  refine (unhide HK1).mono ?_
  rintro e w4 ⟨rfl,q2,rfl⟩
  have HN1:=hide (HKn.out (w1.drewN (q+q'+q2)) (.slice a' hl.length c') hl.length (intRow hl) (below_drewN HB.out _) HO.out hhl)
  clear HK1 HKn
  go_wp2_with fail
  refine (unhide HN1).mono ?_
  rintro e w5 ⟨rfl,ht⟩
  have HT:=hide ht
  clear ht HN1
  go_wp2
  go_ret
  exact ⟨rfl,HT.out⟩
 ·have HX:=hide (has_history_out h.at'.hx k hin)
  have HPo:Hid (Turn wz base p v0 (c+4) sd cx cy x y n vs vr vw col w R R w):=⟨col,⟨h.at',h.bk.frame (fun _ _ _=>rfl) (fun _ _ _=>rfl) h.bk.low (Nat.le_refl _) (by omega),h.wzm,h.wzb,h.x0,h.x9,h.y0,h.y9,h.ne,h.fits,h.net,h.short⟩,⟨Fr.refl _ _,fun _ _ _=>rfl⟩⟩
  clear h hf hin hd
  rcases hout with hk | ⟨hk0,hk1⟩
  ·go_enter Tryz.func33,Tryz.ntmps33
   go_wp2_with fail
   refine (unhide HX).mono ?_
   rintro e w1 ⟨rfl,rfl⟩
   go_wp2
   go_ret
   exact ⟨rfl,HPo.out⟩
  ·go_enter Tryz.func33,Tryz.ntmps33
   go_wp2_with fail
   refine (unhide HX).mono ?_
   rintro e w1 ⟨rfl,rfl⟩
   go_wp2
   go_ret
   exact ⟨rfl,HPo.out⟩
end
theorem Did.book {base sd cx cy:Nat} {col col2 col3:Nat→Nat} {w w2 w3:World} {g0:Nat} (h:Did base sd cx cy col w col2 w2) (k:Fr (fun b=>b=g0∨(base≤b∧col2 b≤8)) w2 w3) (hg:w.heap.size≤g0) (h2:∀ b,b<w2.heap.size→b≠g0→col3 b=col2 b):Did base sd cx cy col w col3 w3:=by
 have hsz:=h.fr.size
 refine ⟨h.fr.trans k (fun b hb e=>?_),fun b hb h20=>?_⟩
 ·rcases e with e | e
  ·omega
  ·rcases Nat.lt_or_ge 20 (col b) with h20 | h20
   ·have:=h.old b hb h20;omega
   ·exact ⟨e.1,Or.inl h20⟩
 ·rw [h2 b (by omega) (by omega),h.old b hb h20]
section
variable {wz:World} {base p:Nat} {v0:Value} {c sd cx cy x y:Nat} {n:Net} {vs vr vw:Value} {col:Nat→Nat} {w:World} {Rx Ry:Rc}
theorem Sd.backed (h:Sd wz base p v0 c sd cx cy x y n vs vr vw col w Rx Ry) {g0:Nat} {w':World} (hg0:base≤g0∧col g0=22) (hk:Backed base col w p v0 c g0 w'):∃ col',Sd wz base p v0 (c+1) sd cx cy x y n vs vr vw col' w' Rx Ry∧Fr (fun b=>b=g0∨(base≤b∧col b≤8)) w w'∧∀ b,b<w.heap.size→b≠g0→col' b=col b:=by
 obtain ⟨col',h1,h2,h3, -⟩:=hk.ex
 have hz:Below wz.heap.size wz w':=h.wzm.trans ⟨hk.fr.os,hk.fr.tape,hk.fr.output,hk.fr.size,fun b hb=>hk.fr.block b (by have:=h.wzm.size;omega) (fun e=>by
  have h9:=h.bk.low b (by have:=h.wzb;omega)
  rcases e with e | e
  ·subst e;omega
  ·omega)⟩
 have hx:=h.x0
 have hy:=h.y0
 refine ⟨col',⟨h.at'.frame (fun b hb e=>?_) hz,h1,hz,h.wzb,h.x0,h.x9,h.y0,h.y9,h.ne,h.fits,h.net,h.short⟩,hk.fr,h2⟩
 have hn:b≠g0:=fun e'=>by subst e';omega
 exact ⟨hk.fr.block b hb (fun e'=>by rcases e' with e' | e';exact hn e';omega),h2 b hb hn⟩
theorem runM_cons {N:Net} {l:List Int} {i d:Nat} {R:Rc} (hi:i<l.length):runM N (l.drop i) d R=if inB l[i] N.workers.length then (if stateOf N R l[i].toNat=1 then runM N (l.drop (i+1)) (d+1) (doStep N R l[i].toNat) else runM N (l.drop (i+1)) d R) else (d,2,R):=by
 rw [List.drop_eq_getElem_cons hi];rfl
theorem runM_fine {N:Net} (hv:validB N=true) (hf:NetFits N):∀ (l:List Int) (k:Nat) (R:Rc) (d:Nat),Fine N R d→Fine N (runM N l k R).2.2 (d+l.length)
 | [],k,R,d,h=>h
 | a::l,k,R,d,h=>by
  have e:d+(a::l).length=(d+1)+l.length:=by simp;omega
  rw [e,runM]
  split
  ·rename_i hin
   have hk:a.toNat<N.workers.length:=by simp [inB] at hin;omega
   split
   ·exact runM_fine hv hf l _ _ _ (h.step hv hf hk)
   ·exact runM_fine hv hf l _ _ _ (h.mono (by omega))
  ·exact h.mono (by omega)
structure RunAt (wz:World) (base p:Nat) (v0:Value) (c sd cx cy x y:Nat) (n:Net) (vs vr vw:Value) (col:Nat→Nat) (w:World) (M:Nat×Int×Rc) (d i:Nat) (S:Rc) (wr:World):Prop where
 turn:Turn wz base p v0 c sd cx cy x y n vs vr vw col w M.2.2 S wr
 fine:Fine n S (d+i)
theorem RunAt.step {M:Nat×Int×Rc} {d i:Nat} {S:Rc} {wr:World} (h:RunAt wz base p v0 c sd cx cy x y n vs vr vw col w M d i S wr) (hd:d+i≤1099511627776) (k:Nat) (hk:k<n.workers.length) :
  Calls Tryz.prog 61 #[.pointer (some ⟨y,0,none⟩),.int .i64 k] wr fun e w'=>e=.returned (.int .i64 (stateOf n S k))∧RunAt wz base p v0 c sd cx cy x y n vs vr vw col w M d (i+1) (stepR n S k) w':=by
 obtain ⟨col1,h1,h2⟩:=h.turn.ex
 refine (sd_stepy h1 k hk (h.fine.small hd)).mono fun e w' ⟨q1,q2⟩=>⟨q1,⟨?_,h.fine.stepR h1.ok h1.fits hk⟩⟩
 obtain ⟨col2,h3,h4⟩:=q2.ex
 exact ⟨col2,h3,h2.trans h4⟩
theorem RunAt.drewN {M:Nat×Int×Rc} {d i:Nat} {S:Rc} {wr:World} (h:RunAt wz base p v0 c sd cx cy x y n vs vr vw col w M d i S wr) (q:Nat):RunAt wz base p v0 c sd cx cy x y n vs vr vw col w M d i S (wr.drewN q):=by
 obtain ⟨col1,h1,h2⟩:=h.turn.ex
 have hb:Below wr.heap.size wr (wr.drewN q):=below_drewN (Below.refl _ _) q
 exact ⟨⟨_,h1.belowQ 22 hb,h2.trans (Did.of_below hb)⟩,h.fine⟩
theorem RunAt.read {l:List Int} {M:Nat×Int×Rc} {d i:Nat} {S:Rc} {wr:World} {a:Option Addr} {cl:Nat} (h:RunAt wz base p v0 c sd cx cy x y n vs vr vw col w M d i S wr) (hl:IntsAt wz (.slice a l.length cl) l):(wr.cell? ⟨sd,1,none⟩=some (.pointer (some ⟨y,0,none⟩))∧∃ gW cW,wr.cell? ⟨y,1,none⟩=some (.slice (some ⟨gW,0,none⟩) n.workers.length cW))∧∀ k (hk:k<l.length),∃ b off,a=some ⟨b,off,none⟩∧wr.cell? ⟨b,off+k,none⟩=some (.int .i64 l[k]):=by
 obtain ⟨col1,h1,h2⟩:=h.turn.ex
 obtain ⟨-,q1,gS,gW,cS,cW, -,q2⟩:=h1.cells
 refine ⟨⟨q1,gW,cW,q2⟩,fun k hk=>?_⟩
 obtain ⟨a',cap,hv, -, -,hc⟩:=hl
 simp only [Value.slice.injEq,true_and] at hv
 obtain ⟨rfl,rfl⟩:=hv
 rcases hc with hc | ⟨b,off,rfl,hc⟩
 ·omega
 ·refine ⟨b,off,rfl,?_⟩
  have e:=hc k hk 0 (by decide)
  rw [Nat.mul_one,Nat.add_zero] at e
  rw [h1.wzm.cell (lt_of_cell e),e]
  dsimp only
  rw [getD_eq _ _ _ hk]
theorem runs_head {R:Rc} {d:Nat} {l:List Int} {v:Value} (h:Sd wz base p v0 c sd cx cy x y n vs vr vw col w R R) (hf:Fine n R d) (hd:d+l.length≤1099511627776) (hc:c≤1099511627776) (hl:IntsAt wz v l) (hll:l.length≤1048576) :
  Calls Tryz.prog 22 #[v] w fun e w1=>∃ ia ic,e=.returned (.tuple #[.slice (some ⟨w.heap.size,0,none⟩) (l.length+1) (l.length+1),.slice ia l.length ic])∧w1.cell? ⟨sd,0,none⟩=some (.pointer (some ⟨x,0,none⟩)) ∧
   Calls Tryz.prog 10 #[.pointer (some ⟨x,0,none⟩),.slice ia l.length ic] w1 fun e w2=>e=.returned (.tuple #[.int .i64 (runM n l 0 R).1,.int .i64 (runM n l 0 R).2.1]) ∧
    Calls Tryz.prog 29 #[.pointer (some ⟨p,0,none⟩),.slice (some ⟨w.heap.size,0,none⟩) (l.length+1) (l.length+1),v] w2 fun e w3=>e=.returned (.bool true)∧RunAt wz base p v0 (c+1) sd cx cy x y n vs vr vw col w (runM n l 0 R) d 0 R w3:=by
 have hlw:IntsAt w v l:=hl.below h.wzm
 refine (lent_ints hlw hll).mono fun e w1 ⟨ia,ic,q1,q2,q3⟩=>⟨ia,ic,q1,?_,?_⟩
 ·exact (h.belowQ 22 q3).cells.1
 ·have h1:=h.belowQ 22 q3
  have hsz1:=q3.size
  have hgl:=lt_of_blk q2.blk
  have hin:=q2.ints hll
  refine (has_run h1.at'.hx hin (fun b hb=>?_) hf.room (fun s hs=>by have:=hf.words s hs;omega)).mono fun e w2 ⟨r1,r2,r3⟩=>⟨r1,?_⟩
  ·have hbg:b=w.heap.size:=by
    rcases q2.val with e | ⟨-,e⟩
    ·rw [e] at hb;simpa [Value.ownBlock] using hb.symm
    ·rw [e] at hb;cases hb
   have hx:=h.x0
   exact ⟨by omega,by rw [newcol_new (by omega)];omega⟩
  ·obtain ⟨col2,h2,h3⟩:=(h1.keepsx r2 r3).ex
   have hx:=h.x0
   have hk2:=keeps_block r3 hgl (by rw [newcol_new (Nat.le_refl _)];omega)
   have hcg:col2 w.heap.size=22:=by
    rw [h3.old _ hgl (by rw [newcol_new (Nat.le_refl _)];omega),newcol_new (Nat.le_refl _)]
   refine (backInts_calls h2.bk (hk2.trans q2.blk) h.base_le (by rw [hcg];omega) (hl.below h2.wzm) hll hc).mono fun e w3 ⟨s1,s2⟩=>⟨s1,?_⟩
   obtain ⟨col3,k1,k2,k3⟩:=h2.backed ⟨h.base_le,hcg⟩ s2
   exact ⟨⟨col3,k1,((Did.of_below q3).trans h3).book k2 (Nat.le_refl _) k3⟩,hf⟩
set_option maxRecDepth 100000 in
set_option maxHeartbeats 4000000 in
theorem runs_calls {R:Rc} {d:Nat} {l:List Int} {v:Value} (h:Sd wz base p v0 c sd cx cy x y n vs vr vw col w R R) (hf:Fine n R d) (hd:d+l.length≤1099511627776) (hc:c≤1099511627776) (hl:IntsAt wz v l) (hll:l.length≤1048576) :
  Calls Tryz.prog 31 #[.pointer (some ⟨p,0,none⟩),.pointer (some ⟨sd,0,none⟩),v] w fun e w'=>e=.returned (.bool true)∧∃ R',Turn wz base p v0 (c+1) sd cx cy x y n vs vr vw col w R' R' w'∧Fine n R' (d+l.length):=by
 have HH:=hide (runs_head h hf hd hc hl hll)
 have s0:=h.cells.1
 have hok:=h.ok
 have HFi:=hide (runM_fine hok h.fits l 0 R d hf)
 have hM:runM n (l.drop 0) 0 R=runM n l 0 R:=by rw [List.drop_zero]
 obtain ⟨a,cl,rfl, -, -, -⟩:=hl.open
 have HL:=hide hl
 clear h hf hl
 generalize runM n l 0 R=M at *
 have HM:=hide hM
 clear hM
 obtain ⟨m1,m2,mR⟩:=M
 dsimp only at HFi
 go_enter Tryz.func31,Tryz.ntmps31
 go_wp2_with fail
 refine (unhide HH).mono ?_
 rintro e w1 ⟨ia,ic,rfl,s0,hrun⟩
 have HRu:=hide hrun
 clear hrun HH
 go_wp2_with fail
 refine (unhide HRu).mono ?_
 rintro e w2 ⟨rfl,hbk⟩
 have HBk:=hide hbk
 clear hbk HRu
 go_wp2_with fail
 refine (unhide HBk).mono ?_
 rintro e w3 ⟨rfl,hra⟩
 have HR0:=hide hra
 clear hra HBk s0
 go_wp2
 go_loopw [12,13,14,15] (fun wv f i _ wr=>∃ (j wn:Nat) (S:Rc),j≤l.length∧i=.int .i64 j∧wv=.int .i64 wn∧wn≤j∧RunAt wz base p v0 (c+1) sd cx cy x y n vs vr vw col w (m1,m2,mR) d j S wr∧((f=.int .i64 0∧runM n (l.drop j) wn S=(m1,m2,mR))∨(f=.int .i64 2∧(wn,(2:Int),S)=(m1,m2,mR)))) (fun _ _ i _ _=>l.length-(intOf i).toNat)
 case atStart=>exact ⟨0,0,R,Nat.zero_le _,rfl,rfl,Nat.le_refl _,HR0.out,Or.inl ⟨rfl,HM.out⟩⟩
 case round=>
  obtain ⟨j,wn,S,hj,rfl,rfl,hwn,hra,hcase⟩:=hrel
  clear HR0 HM
  by_cases hlt:j<l.length
  ·rcases hcase with ⟨rfl,hm⟩ | ⟨rfl,hm⟩
   ·obtain ⟨⟨s1,gW,cW,y1⟩,hget⟩:=hra.read HL.out
    obtain ⟨b,off,rfl,d0⟩:=hget j hlt
    rw [runM_cons hlt] at hm
    have hj0:(0:Int)≤(j:Int):=by omega
    have hj1:(j:Int)<(l.length:Int):=by omega
    have HRa:=hide hra
    rcases in_cases l[j] n.workers.length with ⟨k,hk,hkl⟩ | ⟨hin,hout⟩
    ·rw [hk] at d0 hm
     have hin:inB (k:Int) n.workers.length=true:=by simp [inB];omega
     rw [if_pos hin,Int.toNat_natCast] at hm
     have HSt:Hid (∀ q,Calls Tryz.prog 61 #[.pointer (some ⟨y,0,none⟩),.int .i64 k] (wr.drewN q) fun e w'=>e=.returned (.int .i64 (stateOf n S k))∧(w'.cell? ⟨sd,1,none⟩=some (.pointer (some ⟨y,0,none⟩))∧w'.cell? ⟨b,off+j,none⟩=some (.int .i64 (k:Int)))∧RunAt wz base p v0 (c+1) sd cx cy x y n vs vr vw col w (m1,m2,mR) d (j+1) (stepR n S k) w'):=fun q=>by
      refine ((hra.drewN q).step (by omega) k hkl).mono fun e w' ⟨q1,q2⟩=>⟨q1,?_,q2⟩
      obtain ⟨⟨r1, -⟩,r2⟩:=q2.read HL.out
      obtain ⟨b',off',e',r3⟩:=r2 j hlt
      cases e'
      rw [hk] at r3
      exact ⟨r1,r3⟩
     have HM2:Hid (if stateOf n S k=1 then runM n (l.drop (j+1)) (wn+1) (doStep n S k)=(m1,m2,mR) else runM n (l.drop (j+1)) wn S=(m1,m2,mR)):=by
      show if _ then _ else _
      split
      ·rename_i h1;rw [if_pos h1] at hm;exact hm
      ·rename_i h1;rw [if_neg h1] at hm;exact hm
     have HS2:Hid (stepR n S k=if stateOf n S k=1 then doStep n S k else S):=rfl
     have hk0:(0:Int)≤(k:Int):=by omega
     have hk1:(k:Int)<(n.workers.length:Int):=by omega
     clear hm hget hra hk HRa
     by_cases hs1:stateOf n S k=1
     ·have hm2:=HM2.out
      have hs2:=HS2.out
      rw [if_pos hs1] at hm2 hs2
      rw [hs1,hs2] at HSt
      have HM3:=hide hm2
      clear hm2 hs2 HM2 HS2 hs1
      go_wp2
      go_quiet (fail)
      go_wp2
      go_region_held3 (fun w'=>w'.cell? ⟨sd,1,none⟩=some (.pointer (some ⟨y,0,none⟩))∧w'.cell? ⟨b,off+j,none⟩=some (.int .i64 (k:Int))) (first | exact ⟨s1,d0⟩ | assumption | go_keep) ((go_at_call 61;refine (unhide HSt _).mono ?_;rintro e w4 ⟨rfl,hS4,hr4⟩;have HR4:=hide hr4;clear hr4))
      clear hS4
      go_wp2
      go_roundw
      case rel=>exact ⟨j+1,wn+1,_,by omega,by go_num,by go_num,by omega,HR4.out,Or.inl ⟨rfl,HM3.out⟩⟩
      case measure=>simp [intOf];omega
     ·have hm2:=HM2.out
      have hs2:=HS2.out
      rw [if_neg hs1] at hm2 hs2
      rw [hs2] at HSt
      have HM3:=hide hm2
      have qs:(((stateOf n S k:Nat):Int) == 1)=false:=by simp;omega
      generalize stateOf n S k=st at *
      clear hm2 hs2 HM2 HS2 hs1
      go_wp2
      go_quiet (fail)
      go_wp2
      go_region_held3 (fun w'=>w'.cell? ⟨sd,1,none⟩=some (.pointer (some ⟨y,0,none⟩))∧w'.cell? ⟨b,off+j,none⟩=some (.int .i64 (k:Int))) (first | exact ⟨s1,d0⟩ | assumption | go_keep) ((go_at_call 61;refine (unhide HSt _).mono ?_;rintro e w4 ⟨rfl,hS4,hr4⟩;have HR4:=hide hr4;clear hr4))
      clear hS4
      go_wp2
      go_roundw
      case rel=>exact ⟨j+1,wn,_,by omega,by go_num,rfl,by omega,HR4.out,Or.inl ⟨rfl,HM3.out⟩⟩
      case measure=>simp [intOf];omega
    ·rw [if_neg (by rw [hin];decide)] at hm
     have HM3:=hide hm
     have HR4:Hid (∀ q,RunAt wz base p v0 (c+1) sd cx cy x y n vs vr vw col w (m1,m2,mR) d (j+1) S (wr.drewN q)):=fun q=>⟨(hra.drewN q).turn,hra.fine.mono (by omega)⟩
     generalize l[j]=lk at *
     clear hm hget hra HRa hin
     rcases hout with hk | ⟨hk0,hk1⟩
     ·go_wp2
      go_quiet (fail)
      go_wp2
      go_roundw
      case rel=>exact ⟨j+1,wn,S,by omega,by go_num,rfl,by omega,HR4.out _,Or.inr ⟨rfl,HM3.out⟩⟩
      case measure=>simp [intOf];omega
     ·go_wp2
      go_quiet (fail)
      go_wp2
      go_roundw
      case rel=>exact ⟨j+1,wn,S,by omega,by go_num,rfl,by omega,HR4.out _,Or.inr ⟨rfl,HM3.out⟩⟩
      case measure=>simp [intOf];omega
   ·simp only [Prod.mk.injEq] at hm
    obtain ⟨rfl,rfl,rfl⟩:=hm
    have HT:=hide hra.turn
    clear hra
    go_wp2
    go_ret
    exact ⟨rfl,_,HT.out,HFi.out⟩
  ·have hje:j=l.length:=by omega
   rcases hcase with ⟨rfl,hm⟩ | ⟨rfl,hm⟩
   ·rw [hje,List.drop_length] at hm
    simp only [runM,Prod.mk.injEq] at hm
    obtain ⟨rfl,rfl,rfl⟩:=hm
    have HT:=hide hra.turn
    clear hra
    go_wp2
    go_ret
    exact ⟨rfl,_,HT.out,HFi.out⟩
   ·simp only [Prod.mk.injEq] at hm
    obtain ⟨rfl,rfl,rfl⟩:=hm
    have HT:=hide hra.turn
    clear hra
    go_wp2
    go_ret
    exact ⟨rfl,_,HT.out,HFi.out⟩
end
section
variable {wz:World} {base p:Nat} {v0:Value} {c sd cx cy x y:Nat} {n:Net} {vs vr vw:Value} {col:Nat→Nat} {w:World} {Rx Ry:Rc}
theorem Sd.more (h:Sd wz base p v0 c sd cx cy x y n vs vr vw col w Rx Ry) {c':Nat} (hc:c≤c'):Sd wz base p v0 c' sd cx cy x y n vs vr vw col w Rx Ry:=
 ⟨h.at',h.bk.frame (fun _ _ _=>rfl) (fun _ _ _=>rfl) h.bk.low (Nat.le_refl _) hc,h.wzm,h.wzb,h.x0,h.x9,h.y0,h.y9,h.ne,h.fits,h.net,h.short⟩
theorem Turn.more {w':World} (h:Turn wz base p v0 c sd cx cy x y n vs vr vw col w Rx Ry w') {c':Nat} (hc:c≤c'):Turn wz base p v0 c' sd cx cy x y n vs vr vw col w Rx Ry w':=by
 obtain ⟨col',h1,h2⟩:=h.ex
 exact ⟨col',h1.more hc,h2⟩
theorem Turn.cells {w':World} (h:Turn wz base p v0 c sd cx cy x y n vs vr vw col w Rx Ry w'):w'.cell? ⟨sd,0,none⟩=some (.pointer (some ⟨x,0,none⟩))∧w'.cell? ⟨sd,1,none⟩=some (.pointer (some ⟨y,0,none⟩)) ∧
  ∃ gS gW cS cW,w'.cell? ⟨y,0,none⟩=some (.slice (some ⟨gS,0,none⟩) n.streams.length cS)∧w'.cell? ⟨y,1,none⟩=some (.slice (some ⟨gW,0,none⟩) n.workers.length cW):=by
 obtain ⟨col',h1, -⟩:=h.ex
 exact h1.cells
theorem Turn.next {Rx' Ry':Rc} {c':Nat} {w1:World} {f:FuncId} {args:Array Value} {P:Ending→Prop} (h:Turn wz base p v0 c sd cx cy x y n vs vr vw col w Rx Ry w1)
  (k:∀ col1,Sd wz base p v0 c sd cx cy x y n vs vr vw col1 w1 Rx Ry→Calls Tryz.prog f args w1 fun e w'=>P e∧Turn wz base p v0 c' sd cx cy x y n vs vr vw col1 w1 Rx' Ry' w') :
  Calls Tryz.prog f args w1 fun e w'=>P e∧Turn wz base p v0 c' sd cx cy x y n vs vr vw col w Rx' Ry' w':=by
 obtain ⟨col1,h1,h2⟩:=h.ex
 refine (k col1 h1).mono fun e w' ⟨q1,q2⟩=>⟨q1,?_⟩
 obtain ⟨col2,h3,h4⟩:=q2.ex
 exact ⟨col2,h3,h2.trans h4⟩
set_option maxRecDepth 100000 in
set_option maxHeartbeats 4000000 in
theorem ended_calls {R:Rc} {d:Nat} (h:Sd wz base p v0 c sd cx cy x y n vs vr vw col w R R) (hf:Fine n R d) (hd:d≤1099511627776) (hc:c+100≤1099511627776) :
  Calls Tryz.prog 18 #[.pointer (some ⟨p,0,none⟩),.pointer (some ⟨sd,0,none⟩)] w fun e w'=>e=.returned (.bool true)∧Turn wz base p v0 (c+40) sd cx cy x y n vs vr vw col w R R w':=by
 obtain ⟨hs1,hs8,hw1,hw6⟩:=valid_counts h.ok
 have HLk:Hid (∀ wr (k:Int),Turn wz base p v0 c sd cx cy x y n vs vr vw col w R R wr→Calls Tryz.prog 32 #[.pointer (some ⟨sd,0,none⟩),.int .i64 k] wr fun e w'=>e=.returned (.bool true)∧Turn wz base p v0 c sd cx cy x y n vs vr vw col w R R w'):=fun wr k ht=>ht.next fun col1 h1=>looks_calls h1 k
 have HHi:Hid (∀ wr (k:Int) (j:Nat),j<10→Turn wz base p v0 (c+4*j) sd cx cy x y n vs vr vw col w R R wr→Calls Tryz.prog 33 #[.pointer (some ⟨p,0,none⟩),.pointer (some ⟨sd,0,none⟩),.int .i64 k] wr fun e w'=>e=.returned (.bool true)∧Turn wz base p v0 (c+4*(j+1)) sd cx cy x y n vs vr vw col w R R w'):=fun wr k j hj ht=>ht.next fun col1 h1=>by
  have:=histories_calls h1 hf hd (by omega) k
  rw [show c+4*j+4=c+4*(j+1) by omega] at this
  exact this
 have HRo:Hid (∀ wr (k:Int) (j:Nat),Turn wz base p v0 (c+4*j) sd cx cy x y n vs vr vw col w R R wr→Calls Tryz.prog 34 #[.pointer (some ⟨sd,0,none⟩),.int .i64 k] wr fun e w'=>e=.returned (.bool true)∧Turn wz base p v0 (c+4*j) sd cx cy x y n vs vr vw col w R R w'):=fun wr k j ht=>ht.next fun col1 h1=>rooms_calls h1 hf hd k
 have HT0:=hide h.refl
 clear h hf hd hc
 go_enter Tryz.func18,Tryz.ntmps18
 go_wp2
 go_loopw [5,6] (fun i _ wr=>∃ j:Nat,j≤n.workers.length+2∧i=.int .i64 ((j:Int)-1)∧Turn wz base p v0 c sd cx cy x y n vs vr vw col w R R wr) (fun i _ _=>n.workers.length+3-(intOf i+1).toNat)
 case atStart=>exact ⟨0,Nat.zero_le _,rfl,HT0.out⟩
 case round=>
  clear HT0
  obtain ⟨j,hj,rfl,ht⟩:=hrel
  obtain ⟨s0,s1,gS,gW,cS,cW,y0,y1⟩:=ht.cells
  by_cases hlt:j<n.workers.length+2
  ·have hle:(j:Int)-1≤(n.workers.length:Int):=by omega
   have HC:=hide (HLk.out wr ((j:Int)-1) ht)
   clear ht
   go_wp2_with fail
   refine (unhide HC).mono ?_
   rintro e w1 ⟨rfl,ht⟩
   have HT1:=hide ht
   clear ht HC
   go_wp2
   go_roundw
   case rel=>exact ⟨j+1,by omega,by go_num,HT1.out⟩
   case measure=>simp [intOf];omega
  ·have hgt:¬ (j:Int)-1≤(n.workers.length:Int):=by omega
   have HT1:=hide ht
   clear ht HLk
   go_wp2
   go_loopw [7,8,9] (fun i _ _ wr=>∃ j:Nat,j≤n.streams.length+2∧i=.int .i64 ((j:Int)-1)∧Turn wz base p v0 (c+4*j) sd cx cy x y n vs vr vw col w R R wr) (fun i _ _ _=>n.streams.length+3-(intOf i+1).toNat)
   case atStart=>exact ⟨0,Nat.zero_le _,rfl,HT1.out⟩
   case round=>
    clear HT1
    obtain ⟨j,hj,rfl,ht⟩:=hrel
    obtain ⟨s0,s1,gS,gW,cS,cW,y0,y1⟩:=ht.cells
    by_cases hlt:j<n.streams.length+2
    ·have hle:(j:Int)-1≤(n.streams.length:Int):=by omega
     have HC:=hide (HHi.out wr ((j:Int)-1) j (by omega) ht)
     clear ht
     go_wp2_with fail
     refine (unhide HC).mono ?_
     rintro e w1 ⟨rfl,ht⟩
     have HC1:=hide (HRo.out w1 ((j:Int)-1) (j+1) ht)
     clear ht HC
     go_wp2_with fail
     refine (unhide HC1).mono ?_
     rintro e w2 ⟨rfl,ht⟩
     have HT2:=hide ht
     clear ht HC1
     go_wp2
     go_roundw
     case rel=>exact ⟨j+1,by omega,by go_num,HT2.out⟩
     case measure=>simp [intOf];omega
    ·have hgt:¬ (j:Int)-1≤(n.streams.length:Int):=by omega
     have HT2:Hid (Turn wz base p v0 (c+40) sd cx cy x y n vs vr vw col w R R wr):=ht.more (by omega)
     clear ht HHi HRo
     go_wp2
     go_ret
     exact ⟨rfl,HT2.out⟩
end
structure OpV where
 kind:Int
 num:Int
 sched:List Int
 sa:Option Addr
 sc:Nat
 net:Net
 a0:Option Addr
 c0:Nat
 a1:Option Addr
 c1:Nat
 a2:Option Addr
 c2:Nat
 str:ByteArray
 which:Bool
def OpV.vals (o:OpV):List Value:=[.int .i64 o.kind,.int .i64 o.num,.slice o.sa o.sched.length o.sc,.slice o.a0 o.net.streams.length o.c0,.slice o.a1 o.net.sources.length o.c1,.slice o.a2 o.net.workers.length o.c2,.string o.str,.bool o.which]
structure OpAt (w:World) (o:OpV):Prop where
 sched:IntsAt w (.slice o.sa o.sched.length o.sc) o.sched
 slen:o.sched.length≤1048576
 net:NetAt w (.agg #[.slice o.a0 o.net.streams.length o.c0,.slice o.a1 o.net.sources.length o.c1,.slice o.a2 o.net.workers.length o.c2]) o.net
 short:ShortNet o.net
 str:o.str.size≤1048576
 num:Fits o.num
structure Went2 (wz:World) (base p:Nat) (v0:Value) (c d sd cx cy:Nat) (n:Net) (vs vr vw:Value) (col:Nat→Nat) (w w':World):Prop where
 ex:∃ x y R c',c'≤c+2097160∧Turn wz base p v0 c' sd cx cy x y n vs vr vw col w R R w'∧Fine n R (d+1048576)
def StepLaw (wz:World) (most:Int):Prop:=∀ (base p:Nat) (v0:Value) (c d sd cx cy x y:Nat) (n:Net) (vs vr vw:Value) (col:Nat→Nat) (w:World) (R:Rc) (o:OpV),Sd wz base p v0 c sd cx cy x y n vs vr vw col w R R→Fine n R d→d+1048576≤274877906944→c+4194304≤1099511627776→OpAt wz o→o.kind≤most →
 Calls Tryz.prog 16 #[.pointer (some ⟨p,0,none⟩),.pointer (some ⟨sd,0,none⟩),.agg #[.int .i64 o.kind,.int .i64 o.num,.slice o.sa o.sched.length o.sc,.slice o.a0 o.net.streams.length o.c0,.slice o.a1 o.net.sources.length o.c1,.slice o.a2 o.net.workers.length o.c2,.string o.str,.bool o.which]] w fun e w'=>e=.returned (.bool true)∧Went2 wz base p v0 c d sd cx cy n vs vr vw col w w'
section
variable {wz:World} {base p:Nat} {v0:Value} {c d sd cx cy x y:Nat} {n:Net} {vs vr vw:Value} {col:Nat→Nat} {w:World} {R:Rc}
theorem Sd.box (h:Sd wz base p v0 c sd cx cy x y n vs vr vw col w R R) (o:Obj):Sd wz base p v0 c sd cx cy x y n vs vr vw (newcol col w.heap.size 22) (w.alloc o) R R∧Did base sd cx cy col w (newcol col w.heap.size 22) (w.alloc o):=
 ⟨h.belowQ 22 ((Below.refl _ _).alloc (Nat.le_refl _) _),Did.of_below ((Below.refl _ _).alloc (Nat.le_refl _) _)⟩
theorem Went2.of {col1:Nat→Nat} {w1 w':World} {c':Nat} {R':Rc} (hd:Did base sd cx cy col w col1 w1) (ht:Turn wz base p v0 c' sd cx cy x y n vs vr vw col1 w1 R' R' w') (hc:c'≤c+2097160) (hf:Fine n R' (d+1048576)):Went2 wz base p v0 c d sd cx cy n vs vr vw col w w':=by
 obtain ⟨col2,h3,h4⟩:=ht.ex
 exact ⟨x,y,R',c',hc,⟨col2,h3,hd.trans h4⟩,hf⟩
set_option maxRecDepth 100000 in
set_option maxHeartbeats 4000000 in
theorem step_k1 (h:Sd wz base p v0 c sd cx cy x y n vs vr vw col w R R) (hf:Fine n R d) (hd:d+1048576≤274877906944) (hc:c+4194304≤1099511627776) {sched:List Int} {sa:Option Addr} {sc:Nat} (hl:IntsAt wz (.slice sa sched.length sc) sched) (hll:sched.length≤1048576) (num:Int) (net:Net) (a0:Option Addr) (c0:Nat) (a1:Option Addr) (c1:Nat) (a2:Option Addr) (c2:Nat) (str:ByteArray) (which:Bool) :
  Calls Tryz.prog 16 #[.pointer (some ⟨p,0,none⟩),.pointer (some ⟨sd,0,none⟩),.agg #[.int .i64 1,.int .i64 num,.slice sa sched.length sc,.slice a0 net.streams.length c0,.slice a1 net.sources.length c1,.slice a2 net.workers.length c2,.string str,.bool which]] w fun e w'=>e=.returned (.bool true)∧Went2 wz base p v0 c d sd cx cy n vs vr vw col w w':=by
 have _hu:=And.intro hd (And.intro hc (And.intro hl hll))
 have hbx:=h.box (.cells #[.int .i64 1,.int .i64 num,.slice sa sched.length sc,.slice a0 net.streams.length c0,.slice a1 net.sources.length c1,.slice a2 net.workers.length c2,.string str,.bool which] 65)
 have HC:Hid (Calls Tryz.prog 30 #[.pointer (some ⟨sd,0,none⟩),.int .i64 num] (w.alloc (.cells #[.int .i64 1,.int .i64 num,.slice sa sched.length sc,.slice a0 net.streams.length c0,.slice a1 net.sources.length c1,.slice a2 net.workers.length c2,.string str,.bool which] 65)) fun e w'=>e=.returned (.bool true)∧Went2 wz base p v0 c d sd cx cy n vs vr vw col w w'):=(steps_calls hbx.1 hf (by omega) num).mono fun e w' ⟨q1,R',q2,q3⟩=>⟨q1,Went2.of hbx.2 q2 (by omega) (q3.mono (by omega))⟩
 clear h hf hd hc hl hll hbx _hu
 go_enter Tryz.func16,Tryz.ntmps16
 go_wp2_with fail
 refine (unhide HC).mono ?_
 rintro e w1 ⟨rfl,ht⟩
 have HT:=hide ht
 clear ht HC
 go_wp2
 go_ret
 exact ⟨rfl,HT.out⟩
set_option maxRecDepth 100000 in
set_option maxHeartbeats 4000000 in
theorem step_k2 (h:Sd wz base p v0 c sd cx cy x y n vs vr vw col w R R) (hf:Fine n R d) (hd:d+1048576≤274877906944) (hc:c+4194304≤1099511627776) {sched:List Int} {sa:Option Addr} {sc:Nat} (hl:IntsAt wz (.slice sa sched.length sc) sched) (hll:sched.length≤1048576) (num:Int) (net:Net) (a0:Option Addr) (c0:Nat) (a1:Option Addr) (c1:Nat) (a2:Option Addr) (c2:Nat) (str:ByteArray) (which:Bool) :
  Calls Tryz.prog 16 #[.pointer (some ⟨p,0,none⟩),.pointer (some ⟨sd,0,none⟩),.agg #[.int .i64 2,.int .i64 num,.slice sa sched.length sc,.slice a0 net.streams.length c0,.slice a1 net.sources.length c1,.slice a2 net.workers.length c2,.string str,.bool which]] w fun e w'=>e=.returned (.bool true)∧Went2 wz base p v0 c d sd cx cy n vs vr vw col w w':=by
 have _hu:=And.intro hd (And.intro hc (And.intro hl hll))
 have hbx:=h.box (.cells #[.int .i64 2,.int .i64 num,.slice sa sched.length sc,.slice a0 net.streams.length c0,.slice a1 net.sources.length c1,.slice a2 net.workers.length c2,.string str,.bool which] 65)
 have HC:Hid (Calls Tryz.prog 31 #[.pointer (some ⟨p,0,none⟩),.pointer (some ⟨sd,0,none⟩),.slice sa sched.length sc] (w.alloc (.cells #[.int .i64 2,.int .i64 num,.slice sa sched.length sc,.slice a0 net.streams.length c0,.slice a1 net.sources.length c1,.slice a2 net.workers.length c2,.string str,.bool which] 65)) fun e w'=>e=.returned (.bool true)∧Went2 wz base p v0 c d sd cx cy n vs vr vw col w w'):=(runs_calls hbx.1 hf (by omega) (by omega) hl hll).mono fun e w' ⟨q1,R',q2,q3⟩=>⟨q1,Went2.of hbx.2 q2 (by omega) (q3.mono (by omega))⟩
 clear h hf hd hc hl hll hbx _hu
 go_enter Tryz.func16,Tryz.ntmps16
 go_wp2_with fail
 refine (unhide HC).mono ?_
 rintro e w1 ⟨rfl,ht⟩
 have HT:=hide ht
 clear ht HC
 go_wp2
 go_ret
 exact ⟨rfl,HT.out⟩
set_option maxRecDepth 100000 in
set_option maxHeartbeats 4000000 in
theorem step_k3 (h:Sd wz base p v0 c sd cx cy x y n vs vr vw col w R R) (hf:Fine n R d) (hd:d+1048576≤274877906944) (hc:c+4194304≤1099511627776) {sched:List Int} {sa:Option Addr} {sc:Nat} (hl:IntsAt wz (.slice sa sched.length sc) sched) (hll:sched.length≤1048576) (num:Int) (net:Net) (a0:Option Addr) (c0:Nat) (a1:Option Addr) (c1:Nat) (a2:Option Addr) (c2:Nat) (str:ByteArray) (which:Bool) :
  Calls Tryz.prog 16 #[.pointer (some ⟨p,0,none⟩),.pointer (some ⟨sd,0,none⟩),.agg #[.int .i64 3,.int .i64 num,.slice sa sched.length sc,.slice a0 net.streams.length c0,.slice a1 net.sources.length c1,.slice a2 net.workers.length c2,.string str,.bool which]] w fun e w'=>e=.returned (.bool true)∧Went2 wz base p v0 c d sd cx cy n vs vr vw col w w':=by
 have _hu:=And.intro hd (And.intro hc (And.intro hl hll))
 have hbx:=h.box (.cells #[.int .i64 3,.int .i64 num,.slice sa sched.length sc,.slice a0 net.streams.length c0,.slice a1 net.sources.length c1,.slice a2 net.workers.length c2,.string str,.bool which] 65)
 have HC:Hid (Calls Tryz.prog 32 #[.pointer (some ⟨sd,0,none⟩),.int .i64 num] (w.alloc (.cells #[.int .i64 3,.int .i64 num,.slice sa sched.length sc,.slice a0 net.streams.length c0,.slice a1 net.sources.length c1,.slice a2 net.workers.length c2,.string str,.bool which] 65)) fun e w'=>e=.returned (.bool true)∧Went2 wz base p v0 c d sd cx cy n vs vr vw col w w'):=(looks_calls hbx.1 num).mono fun e w' ⟨q1,q2⟩=>⟨q1,Went2.of hbx.2 q2 (by omega) (hf.mono (by omega))⟩
 clear h hf hd hc hl hll hbx _hu
 go_enter Tryz.func16,Tryz.ntmps16
 go_wp2_with fail
 refine (unhide HC).mono ?_
 rintro e w1 ⟨rfl,ht⟩
 have HT:=hide ht
 clear ht HC
 go_wp2
 go_ret
 exact ⟨rfl,HT.out⟩
set_option maxRecDepth 100000 in
set_option maxHeartbeats 4000000 in
theorem step_k4 (h:Sd wz base p v0 c sd cx cy x y n vs vr vw col w R R) (hf:Fine n R d) (hd:d+1048576≤274877906944) (hc:c+4194304≤1099511627776) {sched:List Int} {sa:Option Addr} {sc:Nat} (hl:IntsAt wz (.slice sa sched.length sc) sched) (hll:sched.length≤1048576) (num:Int) (net:Net) (a0:Option Addr) (c0:Nat) (a1:Option Addr) (c1:Nat) (a2:Option Addr) (c2:Nat) (str:ByteArray) (which:Bool) :
  Calls Tryz.prog 16 #[.pointer (some ⟨p,0,none⟩),.pointer (some ⟨sd,0,none⟩),.agg #[.int .i64 4,.int .i64 num,.slice sa sched.length sc,.slice a0 net.streams.length c0,.slice a1 net.sources.length c1,.slice a2 net.workers.length c2,.string str,.bool which]] w fun e w'=>e=.returned (.bool true)∧Went2 wz base p v0 c d sd cx cy n vs vr vw col w w':=by
 have _hu:=And.intro hd (And.intro hc (And.intro hl hll))
 have hbx:=h.box (.cells #[.int .i64 4,.int .i64 num,.slice sa sched.length sc,.slice a0 net.streams.length c0,.slice a1 net.sources.length c1,.slice a2 net.workers.length c2,.string str,.bool which] 65)
 have HC:Hid (Calls Tryz.prog 33 #[.pointer (some ⟨p,0,none⟩),.pointer (some ⟨sd,0,none⟩),.int .i64 num] (w.alloc (.cells #[.int .i64 4,.int .i64 num,.slice sa sched.length sc,.slice a0 net.streams.length c0,.slice a1 net.sources.length c1,.slice a2 net.workers.length c2,.string str,.bool which] 65)) fun e w'=>e=.returned (.bool true)∧Went2 wz base p v0 c d sd cx cy n vs vr vw col w w'):=(histories_calls hbx.1 hf (by omega) (by omega) num).mono fun e w' ⟨q1,q2⟩=>⟨q1,Went2.of hbx.2 q2 (by omega) (hf.mono (by omega))⟩
 clear h hf hd hc hl hll hbx _hu
 go_enter Tryz.func16,Tryz.ntmps16
 go_wp2_with fail
 refine (unhide HC).mono ?_
 rintro e w1 ⟨rfl,ht⟩
 have HT:=hide ht
 clear ht HC
 go_wp2
 go_ret
 exact ⟨rfl,HT.out⟩
set_option maxRecDepth 100000 in
set_option maxHeartbeats 4000000 in
theorem step_k5 (h:Sd wz base p v0 c sd cx cy x y n vs vr vw col w R R) (hf:Fine n R d) (hd:d+1048576≤274877906944) (hc:c+4194304≤1099511627776) {sched:List Int} {sa:Option Addr} {sc:Nat} (hl:IntsAt wz (.slice sa sched.length sc) sched) (hll:sched.length≤1048576) (num:Int) (net:Net) (a0:Option Addr) (c0:Nat) (a1:Option Addr) (c1:Nat) (a2:Option Addr) (c2:Nat) (str:ByteArray) (which:Bool) :
  Calls Tryz.prog 16 #[.pointer (some ⟨p,0,none⟩),.pointer (some ⟨sd,0,none⟩),.agg #[.int .i64 5,.int .i64 num,.slice sa sched.length sc,.slice a0 net.streams.length c0,.slice a1 net.sources.length c1,.slice a2 net.workers.length c2,.string str,.bool which]] w fun e w'=>e=.returned (.bool true)∧Went2 wz base p v0 c d sd cx cy n vs vr vw col w w':=by
 have _hu:=And.intro hd (And.intro hc (And.intro hl hll))
 have hbx:=h.box (.cells #[.int .i64 5,.int .i64 num,.slice sa sched.length sc,.slice a0 net.streams.length c0,.slice a1 net.sources.length c1,.slice a2 net.workers.length c2,.string str,.bool which] 65)
 have HC:Hid (Calls Tryz.prog 34 #[.pointer (some ⟨sd,0,none⟩),.int .i64 num] (w.alloc (.cells #[.int .i64 5,.int .i64 num,.slice sa sched.length sc,.slice a0 net.streams.length c0,.slice a1 net.sources.length c1,.slice a2 net.workers.length c2,.string str,.bool which] 65)) fun e w'=>e=.returned (.bool true)∧Went2 wz base p v0 c d sd cx cy n vs vr vw col w w'):=(rooms_calls hbx.1 hf (by omega) num).mono fun e w' ⟨q1,q2⟩=>⟨q1,Went2.of hbx.2 q2 (by omega) (hf.mono (by omega))⟩
 clear h hf hd hc hl hll hbx _hu
 go_enter Tryz.func16,Tryz.ntmps16
 go_wp2_with fail
 refine (unhide HC).mono ?_
 rintro e w1 ⟨rfl,ht⟩
 have HT:=hide ht
 clear ht HC
 go_wp2
 go_ret
 exact ⟨rfl,HT.out⟩
set_option maxRecDepth 100000 in
set_option maxHeartbeats 4000000 in
theorem step_k0 (h:Sd wz base p v0 c sd cx cy x y n vs vr vw col w R R) (hf:Fine n R d) (hd:d+1048576≤274877906944) (hc:c+4194304≤1099511627776) {sched:List Int} {sa:Option Addr} {sc:Nat} (hl:IntsAt wz (.slice sa sched.length sc) sched) (hll:sched.length≤1048576) (num:Int) (net:Net) (a0:Option Addr) (c0:Nat) (a1:Option Addr) (c1:Nat) (a2:Option Addr) (c2:Nat) (str:ByteArray) (which:Bool) (kind:Int) (q1:(kind == 1)=false) (q2:(kind == 2)=false) (q3:(kind == 3)=false) (q4:(kind == 4)=false) (q5:(kind == 5)=false) (q6:(kind == 6)=false) (q7:(kind == 7)=false) (q8:(kind == 8)=false) (q9:(kind == 9)=false) (q10:(kind == 10)=false) (q11:(kind == 11)=false) :
  Calls Tryz.prog 16 #[.pointer (some ⟨p,0,none⟩),.pointer (some ⟨sd,0,none⟩),.agg #[.int .i64 kind,.int .i64 num,.slice sa sched.length sc,.slice a0 net.streams.length c0,.slice a1 net.sources.length c1,.slice a2 net.workers.length c2,.string str,.bool which]] w fun e w'=>e=.returned (.bool true)∧Went2 wz base p v0 c d sd cx cy n vs vr vw col w w':=by
 have _hu:=And.intro hd (And.intro hc (And.intro hl hll))
 have hbx:=h.box (.cells #[.int .i64 kind,.int .i64 num,.slice sa sched.length sc,.slice a0 net.streams.length c0,.slice a1 net.sources.length c1,.slice a2 net.workers.length c2,.string str,.bool which] 65)
 have HC:Hid (Went2 wz base p v0 c d sd cx cy n vs vr vw col w (w.alloc (.cells #[.int .i64 kind,.int .i64 num,.slice sa sched.length sc,.slice a0 net.streams.length c0,.slice a1 net.sources.length c1,.slice a2 net.workers.length c2,.string str,.bool which] 65))):=Went2.of hbx.2 hbx.1.refl (by omega) (hf.mono (by omega))
 clear h hf hd hc hl hll hbx _hu
 go_enter Tryz.func16,Tryz.ntmps16
 go_wp2
 go_ret
 exact ⟨rfl,HC.out⟩
theorem steps_law:StepLaw wz 5:=fun base p v0 c d sd cx cy x y n vs vr vw col w R o h hf hd hc ho hk=>by
 obtain ⟨kind,num,sched,sa,sc,net,a0,c0,a1,c1,a2,c2,str,which⟩:=o
 dsimp only at hk ⊢
 rcases (show kind=1∨kind=2∨kind=3∨kind=4∨kind=5∨kind≤0 by omega) with rfl | rfl | rfl | rfl | rfl | h0
 ·exact step_k1 h hf hd hc ho.sched ho.slen num net a0 c0 a1 c1 a2 c2 str which
 ·exact step_k2 h hf hd hc ho.sched ho.slen num net a0 c0 a1 c1 a2 c2 str which
 ·exact step_k3 h hf hd hc ho.sched ho.slen num net a0 c0 a1 c1 a2 c2 str which
 ·exact step_k4 h hf hd hc ho.sched ho.slen num net a0 c0 a1 c1 a2 c2 str which
 ·exact step_k5 h hf hd hc ho.sched ho.slen num net a0 c0 a1 c1 a2 c2 str which
 ·exact step_k0 h hf hd hc ho.sched ho.slen num net a0 c0 a1 c1 a2 c2 str which kind (by simp;omega) (by simp;omega) (by simp;omega) (by simp;omega) (by simp;omega) (by simp;omega) (by simp;omega) (by simp;omega) (by simp;omega) (by simp;omega) (by simp;omega)
end
structure Sdi where
 sd:Nat
 x:Nat
 y:Nat
 n:Net
 vs:Value
 vr:Value
 vw:Value
 R:Rc
structure PlayAt (wz:World) (base p:Nat) (v0:Value) (c d:Nat) (l:List Sdi) (col:Nat→Nat) (w:World):Prop where
 side:∀ i (hi:i<l.length),Sd wz base p v0 c l[i].sd (30+2*i) (31+2*i) l[i].x l[i].y l[i].n l[i].vs l[i].vr l[i].vw col w l[i].R l[i].R∧Fine l[i].n l[i].R d
 bk:Bk base col w p v0 c
 row:w.ownsRow base 50 1 v0 l.length (l.map fun i=>.pointer (some ⟨i.sd,0,none⟩))
 v0c:∀ g,v0.ownBlock=some g→col g=24
 dist:∀ i j (hi:i<l.length) (hj:j<l.length),i≠j→l[i].sd≠l[j].sd
 len:l.length≤2
 wzm:Below wz.heap.size wz w
 wzb:wz.heap.size≤base
def ScriptAt (w:World) (v:Value) (ops:List OpV):Prop:=(∃ a cap,v=.slice a ops.length cap∧ops.length≤149797∧∀ i (hi:i<ops.length),∃ b off,a=some ⟨b,off,none⟩∧∀ j,j<8→w.cell? ⟨b,off+i*8+j,none⟩=ops[i].vals[j]?)∧∀ o∈ops,OpAt w o
section
variable {wz:World} {base p:Nat} {v0:Value} {c d:Nat} {l:List Sdi} {col:Nat→Nat} {w:World}
theorem PlayAt.more (h:PlayAt wz base p v0 c d l col w) {c' d':Nat} (hc:c≤c') (hd:d≤d'):PlayAt wz base p v0 c' d' l col w:=
 ⟨fun i hi=>⟨(h.side i hi).1.more hc,(h.side i hi).2.mono hd⟩,h.bk.frame (fun _ _ _=>rfl) (fun _ _ _=>rfl) h.bk.low (Nat.le_refl _) hc,h.row,h.v0c,h.dist,h.len,h.wzm,h.wzb⟩
theorem PlayAt.went {i c':Nat} {w':World} (h:PlayAt wz base p v0 c d l col w) (hi:i<l.length) {x' y':Nat} {R':Rc} (ht:Turn wz base p v0 c' l[i].sd (30+2*i) (31+2*i) x' y' l[i].n l[i].vs l[i].vr l[i].vw col w R' R' w') {d':Nat} (hd:d≤d') (hf:Fine l[i].n R' d') :
  ∃ col',PlayAt wz base p v0 c' d' (l.set i {l[i] with x:=x',y:=y',R:=R' }) col' w':=by
 obtain ⟨col',h1,h2⟩:=ht.ex
 have hlen:=h.len
 have hrow:=h2.row (by omega) (by omega) (h.side i hi).1.at'.csd (by rw [List.length_map];exact h.row) h.v0c
 rw [List.length_map] at hrow
 refine ⟨col',⟨fun j hj=>?_,h1.bk,?_,hrow.2,fun j k hj hk hjk=>?_,by simpa using h.len,h1.wzm,h1.wzb⟩⟩
 ·have hj':j<l.length:=by simpa using hj
  by_cases e:i=j
  ·subst e
   rw [List.getElem_set_self]
   exact ⟨h1,hf⟩
  ·rw [List.getElem_set_ne e]
   obtain ⟨g1,g2⟩:=h.side j hj'
   exact ⟨⟨g1.at'.did h2 g1.wzm g1.wzb (by omega) (by omega) (by omega) (by omega) (h.dist j i hj' hi (fun e'=>e e'.symm)) (h.side i hi).1.at'.csd (by omega) (by omega) (by omega) (by omega),h1.bk,h1.wzm,h1.wzb,g1.x0,g1.x9,g1.y0,g1.y9,g1.ne,g1.fits,g1.net,g1.short⟩,g2.mono hd⟩
 ·have e:(l.set i {l[i] with x:=x',y:=y',R:=R' }).map (fun i=>(Value.pointer (some ⟨i.sd,0,none⟩):Value))=l.map fun i=>.pointer (some ⟨i.sd,0,none⟩):=by
   rw [List.map_set]
   dsimp only
   have:(l.map fun i=>(Value.pointer (some ⟨i.sd,0,none⟩):Value))[i]'(by simpa using hi)=.pointer (some ⟨l[i].sd,0,none⟩):=by simp
   rw [← this,List.set_getElem_self]
  rw [e,List.length_set]
  exact hrow.1
 ·have hj':j<l.length:=by simpa using hj
  have hk':k<l.length:=by simpa using hk
  have e:∀ a (ha:a<(l.set i {l[i] with x:=x',y:=y',R:=R' }).length) (ha':a<l.length),(l.set i {l[i] with x:=x',y:=y',R:=R' })[a].sd=l[a].sd:=fun a ha ha'=>by
   by_cases e:i=a
   ·subst e;rw [List.getElem_set_self]
   ·rw [List.getElem_set_ne e]
  rw [e j hj hj',e k hk hk']
  exact h.dist j k hj' hk' hjk
theorem PlayAt.below {w':World} (h:PlayAt wz base p v0 c d l col w) (hb:Below w.heap.size w w'):PlayAt wz base p v0 c d l (newcol col w.heap.size 22) w':=by
 have hbl:base≤w.heap.size:=by
  obtain ⟨cs,hp, -⟩:=h.bk.blk
  exact Nat.le_trans h.bk.ge (Nat.le_of_lt (lt_of_blk hp))
 refine ⟨fun i hi=>⟨(h.side i hi).1.belowQ 22 hb,(h.side i hi).2⟩,h.bk.frame (fun b h' _=>hb.block b h') (fun b h' _=>newcol_old h') (fun b h'=>by rw [newcol_old (by omega)];exact h.bk.low b h') hb.size (Nat.le_refl _),own_of_blockB h.row fun g hg=>hb.block g (h.row.lt g hg).2,fun g hg=>?_,h.dist,h.len,h.wzm.trans (hb.mono h.wzm.size),h.wzb⟩
 rw [newcol_old (h.row.lt g hg).2];exact h.v0c g hg
theorem PlayAt.cells (h:PlayAt wz base p v0 c d l col w):∃ a cap,w.cell? ⟨p,0,none⟩=some (.slice a l.length cap)∧∀ i (hi:i<l.length),∃ g,a=some ⟨g,0,none⟩∧w.cell? ⟨g,i,none⟩=some (.pointer (some ⟨l[i].sd,0,none⟩)):=by
 obtain ⟨a,cap,hv, -,hg⟩:=own_row_get h.row
 refine ⟨a,cap,by rw [← hv];exact h.bk.c0,fun i hi=>?_⟩
 obtain ⟨g,e1,e2⟩:=hg i (by simpa using hi)
 exact ⟨g,e1,by rw [e2];simp⟩
structure Playing (wz:World) (base p:Nat) (v0:Value) (c d:Nat) (L:Nat) (w wr:World):Prop where
 ex:∃ l col,l.length=L∧PlayAt wz base p v0 c d l col wr
 fr:Fr (fun b=>base≤b) w wr
theorem Playing.step {L i:Nat} {wr:World} {most:Int} (h:Playing wz base p v0 c d L w wr) (hlaw:StepLaw wz most) (hi:i<L) (hd:d+1048576≤274877906944) (hc:c+4194304≤1099511627776) (o:OpV) (ho:OpAt wz o) (hk:o.kind≤most) :
  ∃ cap g sd,wr.cell? ⟨p,0,none⟩=some (.slice (some ⟨g,0,none⟩) L cap)∧wr.cell? ⟨g,i,none⟩=some (.pointer (some ⟨sd,0,none⟩)) ∧
   Calls Tryz.prog 16 #[.pointer (some ⟨p,0,none⟩),.pointer (some ⟨sd,0,none⟩),.agg #[.int .i64 o.kind,.int .i64 o.num,.slice o.sa o.sched.length o.sc,.slice o.a0 o.net.streams.length o.c0,.slice o.a1 o.net.sources.length o.c1,.slice o.a2 o.net.workers.length o.c2,.string o.str,.bool o.which]] wr fun e w'=>e=.returned (.bool true)∧Playing wz base p v0 (c+2097160) (d+1048576) L w w':=by
 obtain ⟨l,col,rfl,hp⟩:=h.ex
 obtain ⟨a,cap,q1,q2⟩:=hp.cells
 obtain ⟨g,rfl,q3⟩:=q2 i hi
 obtain ⟨s1,s2⟩:=hp.side i hi
 refine ⟨cap,g,l[i].sd,q1,q3,(hlaw _ _ _ _ _ _ _ _ _ _ _ _ _ _ _ _ _ o s1 s2 hd hc ho hk).mono fun e w' ⟨r1,r2⟩=>⟨r1,?_⟩⟩
 obtain ⟨x',y',R',c',k1,k2,k3⟩:=r2.ex
 obtain ⟨col',k4⟩:=hp.went hi (k2.more k1) (by omega) k3
 obtain ⟨col2, -,k5⟩:=k2.ex
 exact ⟨⟨_,col',by simp,k4⟩,h.fr.trans (k5.fr.mono fun b _ e=>e.1) (fun b _ e=>e)⟩
theorem Playing.kept {L:Nat} {wr:World} (h:Playing wz base p v0 c d L w wr) (hc:c≤1099511627776) :
  Calls Tryz.prog 17 #[.pointer (some ⟨p,0,none⟩)] wr fun e w'=>e=.returned (.bool true)∧Playing wz base p v0 c d L w w':=by
 obtain ⟨l,col,hl,hp⟩:=h.ex
 refine (hp.bk.kept (by omega)).mono fun e w' ⟨r1,q,r2⟩=>⟨r1,?_⟩
 subst r2
 exact ⟨⟨l,_,hl,hp.below (below_drewN (Below.refl _ _) q)⟩,h.fr.drewN q⟩
theorem Playing.ended {L i:Nat} {wr:World} (h:Playing wz base p v0 c d L w wr) (hi:i<L) (hd:d≤1099511627776) (hc:c+100≤1099511627776) :
  ∃ cap g sd,wr.cell? ⟨p,0,none⟩=some (.slice (some ⟨g,0,none⟩) L cap)∧wr.cell? ⟨g,i,none⟩=some (.pointer (some ⟨sd,0,none⟩)) ∧
   Calls Tryz.prog 18 #[.pointer (some ⟨p,0,none⟩),.pointer (some ⟨sd,0,none⟩)] wr fun e w'=>e=.returned (.bool true)∧Playing wz base p v0 (c+40) d L w w':=by
 obtain ⟨l,col,rfl,hp⟩:=h.ex
 obtain ⟨a,cap,q1,q2⟩:=hp.cells
 obtain ⟨g,rfl,q3⟩:=q2 i hi
 obtain ⟨s1,s2⟩:=hp.side i hi
 refine ⟨cap,g,l[i].sd,q1,q3,(ended_calls s1 s2 hd hc).mono fun e w' ⟨r1,k2⟩=>⟨r1,?_⟩⟩
 obtain ⟨col',k4⟩:=hp.went hi k2 (Nat.le_refl _) s2
 obtain ⟨col2, -,k5⟩:=k2.ex
 exact ⟨⟨_,col',by simp,k4⟩,h.fr.trans (k5.fr.mono fun b _ e=>e.1) (fun b _ e=>e)⟩
theorem Playing.op {L j:Nat} {wr:World} {a:Option Addr} {cap:Nat} {ops:List OpV} (h:Playing wz base p v0 c d L w wr) (hL:0<L) (hs:ScriptAt wz (.slice a ops.length cap) ops) (hj:j<ops.length) :
  ∃ b off,a=some ⟨b,off,none⟩∧wr.cell? ⟨b,off+j*8,none⟩=some (.int .i64 ops[j].kind)∧wr.cell? ⟨b,off+j*8+1,none⟩=some (.int .i64 ops[j].num)∧wr.cell? ⟨b,off+j*8+2,none⟩=some (.slice ops[j].sa ops[j].sched.length ops[j].sc)∧wr.cell? ⟨b,off+j*8+3,none⟩=some (.slice ops[j].a0 ops[j].net.streams.length ops[j].c0)∧wr.cell? ⟨b,off+j*8+4,none⟩=some (.slice ops[j].a1 ops[j].net.sources.length ops[j].c1)∧wr.cell? ⟨b,off+j*8+5,none⟩=some (.slice ops[j].a2 ops[j].net.workers.length ops[j].c2)∧wr.cell? ⟨b,off+j*8+6,none⟩=some (.string ops[j].str)∧wr.cell? ⟨b,off+j*8+7,none⟩=some (.bool ops[j].which):=by
 obtain ⟨l,col,rfl,hp⟩:=h.ex
 have hz:=(hp.side 0 hL).1.wzm
 obtain ⟨⟨a',cap',hv, -,hc⟩, -⟩:=hs
 simp only [Value.slice.injEq,true_and] at hv
 obtain ⟨rfl,rfl⟩:=hv
 obtain ⟨b,off,rfl,hc2⟩:=hc j hj
 have key:∀ i v,i<8→ops[j].vals[i]? = some v→wr.cell? ⟨b,off+j*8+i,none⟩=some v:=fun i v hi hv=>by
  have e:=(hc2 i hi).trans hv
  rw [hz.cell (lt_of_cell e),e]
 exact ⟨b,off,rfl,key 0 _ (by decide) rfl,key 1 _ (by decide) rfl,key 2 _ (by decide) rfl,key 3 _ (by decide) rfl,key 4 _ (by decide) rfl,key 5 _ (by decide) rfl,key 6 _ (by decide) rfl,key 7 _ (by decide) rfl⟩
theorem Playing.more {L c' d':Nat} {wr:World} (h:Playing wz base p v0 c d L w wr) (hc:c≤c') (hd:d≤d'):Playing wz base p v0 c' d' L w wr:=by
 obtain ⟨l,col,hl,hp⟩:=h.ex
 exact ⟨⟨l,col,hl,hp.more hc hd⟩,h.fr⟩
theorem Playing.row {L:Nat} {wr:World} (h:Playing wz base p v0 c d L w wr):∃ a cap,wr.cell? ⟨p,0,none⟩=some (.slice a L cap):=by
 obtain ⟨l,col,rfl,hp⟩:=h.ex
 obtain ⟨a,cap,q1, -⟩:=hp.cells
 exact ⟨a,cap,q1⟩
end
set_option maxRecDepth 100000 in
set_option maxHeartbeats 4000000 in
theorem play_calls {wz:World} {base p:Nat} {v0:Value} {c d L:Nat} {w:World} {most:Int} {v:Value} {ops:List OpV} (h:Playing wz base p v0 c d L w w) (hL:L≤2) (hs:ScriptAt wz v ops) (hlaw:StepLaw wz most) (hc:c≤1048576000) (hd:d≤1000000) :
  Calls Tryz.prog 9 #[.pointer (some ⟨p,0,none⟩),v,.int .i64 most] w fun e w'=>e=.returned (.bool true)∧Fr (fun b=>base≤b) w w':=by
 obtain ⟨⟨a,cap,rfl,hops, -⟩,hop⟩:=id hs
 have HSc:=hide hs
 have HOp:=hide hop
 have HPl:=hide h
 obtain ⟨ra,rc,p0⟩:=h.row
 clear h hs hop
 go_enter Tryz.func9,Tryz.ntmps9
 go_wp2
 go_loopw [8,9,10,11] (fun i _ _ _ wr=>∃ j:Nat,j≤ops.length∧i=.int .i64 j∧Playing wz base p v0 (c+j*2097160) (d+j*1048576) L w wr) (fun i _ _ _ _=>ops.length-(intOf i).toNat)
 case atStart=>exact ⟨0,Nat.zero_le _,rfl,by simpa using HPl.out⟩
 case round=>
  clear HPl p0
  obtain ⟨j,hj,rfl,hp⟩:=hrel
  by_cases hgo:j<ops.length∧0<L
  ·obtain ⟨hlt,hL0⟩:=hgo
   obtain ⟨b,off,ha,o0,o1,o2,o3,o4,o5,o6,o7⟩:=hp.op hL0 HSc.out hlt
   have hoat:=HOp.out _ (List.getElem_mem hlt)
   have hj0:(0:Int)≤(j:Int):=by omega
   have hj1:(j:Int)<(ops.length:Int):=by omega
   have hLi:(0:Int)<(L:Int):=by omega
   subst ha
   have e1:c+j*2097160+2097160=c+(j+1)*2097160:=by omega
   have e2:d+j*1048576+1048576=d+(j+1)*1048576:=by omega
   have HP2:Hid (Playing wz base p v0 (c+(j+1)*2097160) (d+(j+1)*1048576) L w wr):=hp.more (by omega) (by omega)
   have HKp:Hid (∀ wx,Playing wz base p v0 (c+(j+1)*2097160) (d+(j+1)*1048576) L w wx→Calls Tryz.prog 17 #[.pointer (some ⟨p,0,none⟩)] wx fun e w'=>e=.returned (.bool true)∧Playing wz base p v0 (c+(j+1)*2097160) (d+(j+1)*1048576) L w w'):=fun wx hx=>hx.kept (by omega)
   have HSt:Hid (∀ i,i<L→ops[j].kind≤most→∃ cap g sd,wr.cell? ⟨p,0,none⟩=some (.slice (some ⟨g,0,none⟩) L cap)∧wr.cell? ⟨g,i,none⟩=some (.pointer (some ⟨sd,0,none⟩)) ∧
     Calls Tryz.prog 16 #[.pointer (some ⟨p,0,none⟩),.pointer (some ⟨sd,0,none⟩),.agg #[.int .i64 ops[j].kind,.int .i64 ops[j].num,.slice ops[j].sa ops[j].sched.length ops[j].sc,.slice ops[j].a0 ops[j].net.streams.length ops[j].c0,.slice ops[j].a1 ops[j].net.sources.length ops[j].c1,.slice ops[j].a2 ops[j].net.workers.length ops[j].c2,.string ops[j].str,.bool ops[j].which]] wr fun e w'=>e=.returned (.bool true)∧Playing wz base p v0 (c+(j+1)*2097160) (d+(j+1)*1048576) L w w'):=fun i hi hk=>by
    have:=hp.step hlaw hi (by omega) (by omega) ops[j] hoat hk
    rw [e1,e2] at this
    exact this
   clear hp hoat e1 e2
   generalize ops[j]=o at *
   obtain ⟨kind,num,sched,sa,sc,net,a0,c0,a1,c1,a2,c2,str,which⟩:=o
   dsimp only at o0 o1 o2 o3 o4 o5 o6 o7 HSt
   by_cases hkd:kind≤most
   ·obtain ⟨cap0,g0,sd0,p0,r0,hc0⟩:=HSt.out 0 hL0 hkd
    obtain ⟨cap1,g1,sd1,p1,r1,hc1⟩:=HSt.out (L-1) (by omega) hkd
    have ep:=p0.symm.trans p1
    simp only [Option.some.injEq,Value.slice.injEq,Addr.mk.injEq,and_true,true_and] at ep
    obtain ⟨rfl,rfl⟩:=ep
    have HC0:=hide hc0
    have HC1:=hide hc1
    have hkd':¬ most<kind:=by omega
    have eL:((L-1:Nat):Int)=(L:Int)-1:=by omega
    have hL1:(0:Int)≤(L:Int)-1:=by omega
    have hL2:(L:Int)-1<(L:Int):=by omega
    clear hc0 hc1 HSt p1 HP2 hkd
    cases which
    ·clear HC1
     go_wp2_with fail
     refine (unhide HC0).mono ?_
     rintro e w1 ⟨rfl,hp1⟩
     have HK1:=hide (HKp.out w1 hp1)
     clear hp1 HC0 HKp
     go_wp2_with fail
     refine (unhide HK1).mono ?_
     rintro e w2 ⟨rfl,hp2⟩
     have HP2:=hide hp2
     clear hp2 HK1
     go_wp2
     go_roundw
     case rel=>exact ⟨j+1,by omega,by go_num,HP2.out⟩
     case measure=>simp [intOf];omega
    ·clear HC0
     go_wp2_with fail
     refine (unhide HC1).mono ?_
     rintro e w1 ⟨rfl,hp1⟩
     have HK1:=hide (HKp.out w1 hp1)
     clear hp1 HC1 HKp
     go_wp2_with fail
     refine (unhide HK1).mono ?_
     rintro e w2 ⟨rfl,hp2⟩
     have HP2:=hide hp2
     clear hp2 HK1
     go_wp2
     go_roundw
     case rel=>exact ⟨j+1,by omega,by go_num,HP2.out⟩
     case measure=>simp [intOf];omega
   ·have hkd':most<kind:=by omega
    clear HSt HKp hkd
    go_wp2
    go_roundw
    case rel=>exact ⟨j+1,by omega,by go_num,HP2.out⟩
    case measure=>simp [intOf];omega
  ·obtain ⟨cc,ecc⟩:∃ cc,cc=c+ops.length*2097160:=⟨_,rfl⟩
   obtain ⟨dd,edd⟩:∃ dd,dd=d+ops.length*1048576:=⟨_,rfl⟩
   have HP1:Hid (Playing wz base p v0 cc dd L w wr):=hp.more (by omega) (by omega)
   have hcc:cc≤1000000000000:=by omega
   have hdd:dd≤1000000000000:=by omega
   clear ecc edd
   have HKp:Hid (∀ wx (i:Nat),i≤2→Playing wz base p v0 (cc+40*i) dd L w wx→Calls Tryz.prog 17 #[.pointer (some ⟨p,0,none⟩)] wx fun e w'=>e=.returned (.bool true)∧Playing wz base p v0 (cc+40*i) dd L w w'):=fun wx i hi hx=>hx.kept (by omega)
   have HEn:Hid (∀ wx (i:Nat),i<L→Playing wz base p v0 (cc+40*i) dd L w wx→∃ cap g sd,wx.cell? ⟨p,0,none⟩=some (.slice (some ⟨g,0,none⟩) L cap)∧wx.cell? ⟨g,i,none⟩=some (.pointer (some ⟨sd,0,none⟩)) ∧
     Calls Tryz.prog 18 #[.pointer (some ⟨p,0,none⟩),.pointer (some ⟨sd,0,none⟩)] wx fun e w'=>e=.returned (.bool true)∧Playing wz base p v0 (cc+40*(i+1)) dd L w w'):=fun wx i hi hx=>by
    have:=hx.ended hi (by omega) (by omega)
    rw [show cc+40*i+40=cc+40*(i+1) by omega] at this
    exact this
   clear hp HSc HOp hops
   by_cases hjl:j<ops.length
   ·have hL0:¬ (0:Int)<(L:Int):=fun h2=>hgo ⟨hjl,by omega⟩
    have hj1:(j:Int)<(ops.length:Int):=by omega
    go_wp2
    go_loopw [12,13] (fun i _ wr=>∃ k:Nat,k≤L∧i=.int .i64 k∧Playing wz base p v0 (cc+40*k) dd L w wr) (fun i _ _=>L-(intOf i).toNat)
    case atStart=>exact ⟨0,Nat.zero_le _,rfl,HP1.out⟩
    case round=>
     clear HP1
     obtain ⟨k,hk,rfl,hp⟩:=hrel
     by_cases hkl:k<L
     ·exfalso;omega
     ·have hk1:¬ (k:Int)<(L:Int):=by omega
      have HK1:=hide (HKp.out wr k (by omega) hp)
      clear hp HKp HEn
      go_wp2_with fail
      refine (unhide HK1).mono ?_
      rintro e w1 ⟨rfl,hp1⟩
      have HP2:=hide hp1.fr
      clear hp1 HK1
      go_wp2
      go_ret
      exact ⟨rfl,HP2.out⟩
   ·have hj1:¬ (j:Int)<(ops.length:Int):=by omega
    go_wp2
    go_loopw [12,13] (fun i _ wr=>∃ k:Nat,k≤L∧i=.int .i64 k∧Playing wz base p v0 (cc+40*k) dd L w wr) (fun i _ _=>L-(intOf i).toNat)
    case atStart=>exact ⟨0,Nat.zero_le _,rfl,HP1.out⟩
    case round=>
     clear HP1
     obtain ⟨k,hk,rfl,hp⟩:=hrel
     by_cases hkl:k<L
     ·obtain ⟨cap0,g0,sd0,p0,r0,hc0⟩:=HEn.out wr k hkl hp
      have HC0:=hide hc0
      have hk0:(0:Int)≤(k:Int):=by omega
      have hk1:(k:Int)<(L:Int):=by omega
      clear hc0 hp HEn HKp
      go_wp2_with fail
      refine (unhide HC0).mono ?_
      rintro e w1 ⟨rfl,hp1⟩
      have HP2:=hide hp1
      clear hp1 HC0
      go_wp2
      go_roundw
      case rel=>exact ⟨k+1,by omega,by go_num,HP2.out⟩
      case measure=>simp [intOf];omega
     ·have hk1:¬ (k:Int)<(L:Int):=by omega
      have HK1:=hide (HKp.out wr k (by omega) hp)
      clear hp HKp HEn
      go_wp2_with fail
      refine (unhide HK1).mono ?_
      rintro e w1 ⟨rfl,hp1⟩
      have HP2:=hide hp1.fr
      clear hp1 HK1
      go_wp2
      go_ret
      exact ⟨rfl,HP2.out⟩
section
variable {wz:World} {base p:Nat} {v0:Value} {c d:Nat} {l:List Sdi} {col:Nat→Nat} {w:World}
theorem PlayAt.opens {v:Value} {n:Net} (h:PlayAt wz base p v0 c 0 l col w) (hl:l.length≤1) (hn:NetAt wz v n) (hs:ShortNet n) (hc:c≤1000000000) :
  Calls Tryz.prog 8 #[.pointer (some ⟨p,0,none⟩),v,.bool true] w fun e w'=>e=.returned (.bool true)∧∃ v0' l' col',l'.length≤l.length+1∧PlayAt wz base p v0' (c+3145731) 0 l' col' w'∧(∀ b,b<w.heap.size→20<col b→col' b=col b)∧Fr (fun b=>base≤b∧(col b≤20∨col b=24)) w w':=by
 have h1:=hs.2.1
 have h2:=hs.2.2.1
 have hst:NetStays base col w v n:=fun wx hx=>hn.below (h.wzm.trans ⟨hx.os,hx.tape,hx.output,hx.size,fun b hb'=>hx.block b (by have:=h.wzm.size;omega) (fun e=>by have:=e.1;have:=h.wzb;omega)⟩)
 have hz:∀ w',Fr (fun b=>base≤b∧(col b≤20∨col b=24)) w w'→Below wz.heap.size wz w':=fun w' hf=>h.wzm.trans ⟨hf.os,hf.tape,hf.output,hf.size,fun b hb=>hf.block b (by have:=h.wzm.size;omega) (fun e=>by have:=e.1;have:=h.wzb;omega)⟩
 have hold:∀ (w':World) (col':Nat→Nat) (v0':Value) (c':Nat),c≤c'→Bk base col' w' p v0' c'→Fr (fun b=>base≤b∧(col b≤20∨col b=24)) w w'→(∀ b,b<w.heap.size→20<col b→col' b=col b)→∀ i (hi:i<l.length),Sd wz base p v0' c' l[i].sd (30+2*i) (31+2*i) l[i].x l[i].y l[i].n l[i].vs l[i].vr l[i].vw col' w' l[i].R l[i].R∧Fine l[i].n l[i].R 0:=fun w' col' v0' c' hcc hb hf ho i hi=>by
  obtain ⟨g1,g2⟩:=h.side i hi
  exact ⟨⟨g1.at'.frame (fun b hb e=>⟨hf.block b hb (fun e'=>by have:=e'.2;omega),ho b hb (by omega)⟩) (hz w' hf),hb,hz w' hf,h.wzb,g1.x0,g1.x9,g1.y0,g1.y9,g1.ne,g1.fits,g1.net,g1.short⟩,g2⟩
 cases hok:validB n
 ·refine (opens_plain h.bk hst hs (by omega) true (fun _=>hok)).mono fun e w' ⟨q1,col',q2,q3⟩=>⟨q1,v0,l,col',by omega,?_,q3.old,q3.fr.mono fun b _ e=>⟨e.1,Or.inl e.2⟩⟩
  have hf:Fr (fun b=>base≤b∧(col b≤20∨col b=24)) w w':=q3.fr.mono fun b _ e=>⟨e.1,Or.inl e.2⟩
  have q2':Bk base col' w' p v0 (c+3145731):=q2.frame (fun _ _ _=>rfl) (fun _ _ _=>rfl) q2.low (Nat.le_refl _) (by omega)
  refine ⟨hold w' col' v0 _ (by omega) q2' hf q3.old,q2',own_of_blockB h.row fun g hg=>q3.fr.block g (h.row.lt g hg).2 (fun e=>by have:=h.v0c g hg;omega),fun g hg=>?_,h.dist,h.len,hz w' hf,h.wzb⟩
  rw [q3.old g (h.row.lt g hg).2 (by rw [h.v0c g hg];omega)];exact h.v0c g hg
 ·have hvl:(l.map fun i=>(Value.pointer (some ⟨i.sd,0,none⟩):Value)).length=l.length:=by simp
  refine (opens_add (vals:=l.map fun i=>(Value.pointer (some ⟨i.sd,0,none⟩):Value)) (some wz) (30+2*l.length) (31+2*l.length) (by omega) (by omega) (by omega) (by omega) h.bk (by rw [hvl];exact h.row) h.v0c (by omega) hst hs (by omega) hok (fun wz' e=>by cases e;exact ⟨hn,h.wzm,h.wzb⟩)).mono fun e w' ⟨q1,q2⟩=>⟨q1,?_⟩
  obtain ⟨col',v0',sd,x,y,vs,vr,vw,hv,r1,r2,r3,r4,r5,r6,r7,r8,r9,r10,r11⟩:=q2.ex
  have r1':Bk base col' w' p v0' (c+3145731):=r1.frame (fun _ _ _=>rfl) (fun _ _ _=>rfl) r1.low (Nat.le_refl _) (by omega)
  have hfits:=fits_of_short hs
  refine ⟨v0',l++[⟨sd,x,y,n,vs,vr,vw,initR n n.streams⟩],col',by simp,⟨fun i hi=>?_,r1',?_,r3,fun i j hi hj hij=>?_,by simp;omega,hz w' r9,h.wzb⟩,r10,r9⟩
  ·rcases Nat.lt_or_ge i l.length with hlt | hge
   ·rw [List.getElem_append_left hlt]
    exact hold w' col' v0' _ (by omega) r1' r9 r10 i hlt
   ·have:i=l.length:=by simp at hi;omega
    subst this
    rw [List.getElem_append_right (Nat.le_refl _)]
    simp only [Nat.sub_self,List.getElem_cons_zero]
    exact ⟨⟨⟨r6,r4,r7,r8 wz rfl⟩,r1',hz w' r9,h.wzb,by omega,by omega,by omega,by omega,by omega,hfits,by rw [← hv];exact hn,hs⟩,Fine.init hok hfits⟩
  ·rw [List.length_append,List.map_append]
   rw [hvl] at r2
   exact r2
  ·have hlt:∀ a (ha:a<l.length),l[a].sd<w.heap.size:=fun a ha=>lt_of_blk (h.side a ha).1.at'.blk
   rcases Nat.lt_or_ge i l.length with h3 | h3
   ·rw [List.getElem_append_left h3]
    rcases Nat.lt_or_ge j l.length with h4 | h4
    ·rw [List.getElem_append_left h4];exact h.dist i j h3 h4 hij
    ·rw [List.getElem_append_right h4]
     have:=hlt i h3
     simp
     omega
   ·rw [List.getElem_append_right h3]
    rcases Nat.lt_or_ge j l.length with h4 | h4
    ·rw [List.getElem_append_left h4]
     have:=hlt j h4
     simp
     omega
    ·simp at hi hj;omega
theorem play_new {w1:World} (hp:w1.heap[p]? = some (.cells #[.slice none 0 0,.slice none 0 0,.slice none 0 0,.slice none 0 0,.slice none 0 0,.slice none 0 0,.slice none 0 0,.slice none 0 0] 35 (0,0))) (hge:wz.heap.size≤p) (hz:Below wz.heap.size wz w1) :
  PlayAt wz wz.heap.size p (.slice none 0 0) 0 0 [] (fun b=>if b<wz.heap.size then 99 else if b=p then 0 else 21) w1:=by
 have hn:¬ p<wz.heap.size:=by omega
 have h0:(fun b=>if b<wz.heap.size then 99 else if b=p then 0 else 21) p=0:=by simp [hn]
 exact ⟨(fun i hi=>by simp at hi),bk_new hp h0 hge (fun b h=>by simp [h]),⟨rfl,Or.inl ⟨rfl,rfl⟩⟩,(fun g hg=>by cases hg),(fun i j hi=>by simp at hi),by simp,hz,Nat.le_refl _⟩
end
end Go.Proofs.YthfdgdfnflilfaaGreatDoor

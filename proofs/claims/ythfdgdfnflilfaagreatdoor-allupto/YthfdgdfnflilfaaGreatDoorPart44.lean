/- Part 44: RefLB, RefLC, Loads1, Loads2. -/
import Derived.Lib.BufferWrite
import Derived.Test.YthfdgdfnflilfaaGreatDoorPart27
import Derived.Test.YthfdgdfnflilfaaGreatDoorPart35
import Derived.Test.YthfdgdfnflilfaaGreatDoorPart37
import Derived.Test.YthfdgdfnflilfaaGreatDoorPart38
import Derived.Test.YthfdgdfnflilfaaGreatDoorPart39
import Derived.Test.YthfdgdfnflilfaaGreatDoorPart42
namespace Go.Proofs.YthfdgdfnflilfaaGreatDoor
open Go.RowKit Go.Conc
set_option maxRecDepth 1000000 in
set_option maxHeartbeats 16000000 in
theorem roundW {n:Net} {wz w:World} {s:ByteArray} {l rs:List Int} {X:Option (Rc×List Int)} {p gS gW cS cW:Nat} {Q0:Exit→Act→World→Prop} (hctx:LoadCtx n wz w s l rs X) (hret:∀ a w',RetNo n wz w l rs a w'→Q0 .ret a w') (hexit:∀ a w',EndW p gS gW cS cW n wz w s l X a w'→Q0 (.exit 0) a w') (a:Act) (wr:World) (hI:WWk p gS gW cS cW n wz w s l X a wr) :
  Code.wp Tryz.prog bodyW (Exit.then (fun a' w'=>WWk p gS gW cS cW n wz w s l X a' w'∧muW n a' w'<muW n a wr) Q0) a wr:=by
 refine frame289 (C:=fun a=>WWk p gS gW cS cW n wz w s l X a wr→Code.wp Tryz.prog bodyW (Exit.then (fun a' w'=>WWk p gS gW cS cW n wz w s l X a' w'∧muW n a' w'<muW n a wr) Q0) a wr) ?_ a hI.d hI.sz hI
 intro qa qb qc qd qe qf qg qh qi qj qk ql qm qn qo qp qq qr qs qt qu qv qw qx qy qz qA qB qC qD qE qF qG qH qI qJ qK qL qM qN qO qP qQ qR qS qT qU qV qW qX qY qZ q0 q1 q2 q3 q4 q5 q6 q7 q8 q9 za zb zc zd ze zf zg zh zi zj zk zl zm zn zo zp zq zr zs zt zu zv zw zx zy zz zA zB zC zD zE zF zG zH zI zJ zK zL zM zN zO zP zQ zR zS zT zU zV zW zX zY zZ z0 z1 z2 z3 z4 z5 z6 z7 z8 z9 ya yb yc yd ye yf yg yh yi yj yk yl ym yn yo yp yq yr ys yt yu yv yw yx yy yz yA yB yC yD yE yF yG yH yI yJ yK yL yM yN yO yP yQ yR yS yT yU yV yW yX yY yZ y0 y1 y2 y3 y4 y5 y6 y7 y8 y9 va vb vc vd ve vf vg vh vi vj vk vl vm vn vo vp vq vr vs vt vu vv vw vx vy vz vA vB vC vD vE vF vG vH vI vJ vK vL vM vN vO vP vQ vR vS vT vU vV vW vX vY vZ v0 v1 v2 v3 v4 v5 v6 v7 v8 v9 ja jb jc jd je jf jg jh ji jj jk jl jm jn jo jp jq jr js jt ju jv jw jx jy jz jA jB jC jD jE jF jG jH jI jJ jK jL jM jN jO hI
 obtain ⟨-, -,e1,e6,k,pos,hk,e7,e8,hr⟩:=hI
 have e1:qb=.string s:=e1
 have e6:qg=.pointer (some ⟨p,0,none⟩):=e6
 have e7:qh=.int .i64 (atN l.length pos):=e7
 have e8:qi=.int .i64 k:=e8
 subst e1 e6 e7 e8
 by_cases hlt:k<n.workers.length
 ·exact loadW_one hctx hret hr hlt _ _ _ _ _ _ _ _ _ _ _ _ _ _ _ _ _ _ _ _ _ _ _ _ _ _ _ _ _ _ _ _ _ _ _ _ _ _ _ _ _ _ _ _ _ _ _ _ _ _ _ _ _ _ _ _ _ _ _ _ _ _ _ _ _ _ _ _ _ _ _ _ _ _ _ _ _ _ _ _ _ _ _ _ _ _ _ _ _ _ _ _ _ _ _ _ _ _ _ _ _ _ _ _ _ _ _ _ _ _ _ _ _ _ _ _ _ _ _ _ _ _ _ _ _ _ _ _ _ _ _ _ _ _ _ _ _ _ _ _ _ _ _ _ _ _ _ _ _ _ _ _ _ _ _ _ _ _ _ _ _ _ _ _ _ _ _ _ _ _ _ _ _ _ _ _ _ _ _ _ _ _ _ _ _ _ _ _ _ _ _ _ _ _ _ _ _ _ _ _ _ _ _ _ _ _ _ _ _ _ _ _ _ _ _ _ _ _ _ _ _ _ _ _ _ _ _ _ _ _ _ _ _ _ _ _ _ _ _ _ _ _ _ _ _ _ _ _ _ _ _ _ _ _ _ _ _ _ _ _ _ _ _ _ _ _ _ _ _ _ _ _ _ _ _ _ _ _ _ _ _ _ _ _ _
 ·have hke:k=n.workers.length:=by omega
  subst hke
  have HExit:=hide hexit
  have HR:=hide hr
  obtain ⟨p0,p1⟩:=hr.parts
  have hkk:¬ (n.workers.length:Int)<(n.workers.length:Int):=by omega
  clear hctx hret hexit hr
  conv=>arg 2;whnf
  go_wp2
  exact HExit.out _ _ ⟨rfl,rfl,rfl,rfl,pos,rfl,HR.out⟩
theorem loopW {n:Net} {wz w:World} {s:ByteArray} {l rs:List Int} {X:Option (Rc×List Int)} {p gS gW cS cW:Nat} {Q0:Exit→Act→World→Prop} (hctx:LoadCtx n wz w s l rs X) (hret:∀ a w',RetNo n wz w l rs a w'→Q0 .ret a w') (hexit:∀ a w',EndW p gS gW cS cW n wz w s l X a w'→Q0 (.exit 0) a w') {a:Act} {wr:World} (hI:WWk p gS gW cS cW n wz w s l X a wr):Code.wp Tryz.prog (Code.loop bodyW) Q0 a wr:=
 wp_loop (WWk p gS gW cS cW n wz w s l X) (muW n) hI fun a wr hI=>roundW hctx hret hexit a wr hI
set_option maxRecDepth 1000000 in
set_option maxHeartbeats 16000000 in
theorem roundS {n:Net} {wz w:World} {s:ByteArray} {l rs:List Int} {X:Option (Rc×List Int)} {p gS gW cS cW:Nat} {Q0:Exit→Act→World→Prop} (hctx:LoadCtx n wz w s l rs X) (hret:∀ a w',RetNo n wz w l rs a w'→Q0 .ret a w') (hexit:∀ a w',EndS p gS gW cS cW n wz w s l X a w'→Q0 (.exit 6) a w') (a:Act) (wr:World) (hI:WSt p gS gW cS cW n wz w s l X a wr) :
  Code.wp Tryz.prog bodyS (Exit.then (fun a' w'=>WSt p gS gW cS cW n wz w s l X a' w'∧muS n a' w'<muS n a wr) Q0) a wr:=by
 refine frame289 (C:=fun a=>WSt p gS gW cS cW n wz w s l X a wr→Code.wp Tryz.prog bodyS (Exit.then (fun a' w'=>WSt p gS gW cS cW n wz w s l X a' w'∧muS n a' w'<muS n a wr) Q0) a wr) ?_ a hI.d hI.sz hI
 intro qa qb qc qd qe qf qg qh qi qj qk ql qm qn qo qp qq qr qs qt qu qv qw qx qy qz qA qB qC qD qE qF qG qH qI qJ qK qL qM qN qO qP qQ qR qS qT qU qV qW qX qY qZ q0 q1 q2 q3 q4 q5 q6 q7 q8 q9 za zb zc zd ze zf zg zh zi zj zk zl zm zn zo zp zq zr zs zt zu zv zw zx zy zz zA zB zC zD zE zF zG zH zI zJ zK zL zM zN zO zP zQ zR zS zT zU zV zW zX zY zZ z0 z1 z2 z3 z4 z5 z6 z7 z8 z9 ya yb yc yd ye yf yg yh yi yj yk yl ym yn yo yp yq yr ys yt yu yv yw yx yy yz yA yB yC yD yE yF yG yH yI yJ yK yL yM yN yO yP yQ yR yS yT yU yV yW yX yY yZ y0 y1 y2 y3 y4 y5 y6 y7 y8 y9 va vb vc vd ve vf vg vh vi vj vk vl vm vn vo vp vq vr vs vt vu vv vw vx vy vz vA vB vC vD vE vF vG vH vI vJ vK vL vM vN vO vP vQ vR vS vT vU vV vW vX vY vZ v0 v1 v2 v3 v4 v5 v6 v7 v8 v9 ja jb jc jd je jf jg jh ji jj jk jl jm jn jo jp jq jr js jt ju jv jw jx jy jz jA jB jC jD jE jF jG jH jI jJ jK jL jM jN jO hI
 obtain ⟨-, -,e1,e6,k,pos,hk,e7,e8,hr⟩:=hI
 have e1:qb=.string s:=e1
 have e6:qg=.pointer (some ⟨p,0,none⟩):=e6
 have e7:qh=.int .i64 (atN l.length pos):=e7
 have e8:qo=.int .i64 k:=e8
 subst e1 e6 e7 e8
 by_cases hlt:k<n.streams.length
 ·cases hsr:srcd n k with
  | true=>exact loadS_src hctx hret hr hlt hsr _ _ _ _ _ _ _ _ _ _ _ _ _ _ _ _ _ _ _ _ _ _ _ _ _ _ _ _ _ _ _ _ _ _ _ _ _ _ _ _ _ _ _ _ _ _ _ _ _ _ _ _ _ _ _ _ _ _ _ _ _ _ _ _ _ _ _ _ _ _ _ _ _ _ _ _ _ _ _ _ _ _ _ _ _ _ _ _ _ _ _ _ _ _ _ _ _ _ _ _ _ _ _ _ _ _ _ _ _ _ _ _ _ _ _ _ _ _ _ _ _ _ _ _ _ _ _ _ _ _ _ _ _ _ _ _ _ _ _ _ _ _ _ _ _ _ _ _ _ _ _ _ _ _ _ _ _ _ _ _ _ _ _ _ _ _ _ _ _ _ _ _ _ _ _ _ _ _ _ _ _ _ _ _ _ _ _ _ _ _ _ _ _ _ _ _ _ _ _ _ _ _ _ _ _ _ _ _ _ _ _ _ _ _ _ _ _ _ _ _ _ _ _ _ _ _ _ _ _ _ _ _ _ _ _ _ _ _ _ _ _ _ _ _ _ _ _ _ _ _ _ _ _ _ _ _ _ _ _ _ _ _ _ _ _ _ _ _ _ _ _ _ _ _ _ _ _ _ _ _ _ _ _ _ _
  | false=>exact loadS_un hctx hret hr hlt hsr _ _ _ _ _ _ _ _ _ _ _ _ _ _ _ _ _ _ _ _ _ _ _ _ _ _ _ _ _ _ _ _ _ _ _ _ _ _ _ _ _ _ _ _ _ _ _ _ _ _ _ _ _ _ _ _ _ _ _ _ _ _ _ _ _ _ _ _ _ _ _ _ _ _ _ _ _ _ _ _ _ _ _ _ _ _ _ _ _ _ _ _ _ _ _ _ _ _ _ _ _ _ _ _ _ _ _ _ _ _ _ _ _ _ _ _ _ _ _ _ _ _ _ _ _ _ _ _ _ _ _ _ _ _ _ _ _ _ _ _ _ _ _ _ _ _ _ _ _ _ _ _ _ _ _ _ _ _ _ _ _ _ _ _ _ _ _ _ _ _ _ _ _ _ _ _ _ _ _ _ _ _ _ _ _ _ _ _ _ _ _ _ _ _ _ _ _ _ _ _ _ _ _ _ _ _ _ _ _ _ _ _ _ _ _ _ _ _ _ _ _ _ _ _ _ _ _ _ _ _ _ _ _ _ _ _ _ _ _ _ _ _ _ _ _ _ _ _ _ _ _ _ _ _ _ _ _ _ _ _ _ _ _ _ _ _ _ _ _ _ _ _ _ _ _ _ _ _ _ _ _ _ _ _ _
 ·have hke:k=n.streams.length:=by omega
  subst hke
  have HExit:=hide hexit
  have HR:=hide hr
  have p0:=hr.parts
  have hkk:¬ (n.streams.length:Int)<(n.streams.length:Int):=by omega
  clear hctx hret hexit hr
  conv=>arg 2;whnf
  go_wp2
  exact HExit.out _ _ ⟨rfl,rfl,rfl,rfl,pos,rfl,HR.out⟩
theorem loopS {n:Net} {wz w:World} {s:ByteArray} {l rs:List Int} {X:Option (Rc×List Int)} {p gS gW cS cW:Nat} {Q0:Exit→Act→World→Prop} (hctx:LoadCtx n wz w s l rs X) (hret:∀ a w',RetNo n wz w l rs a w'→Q0 .ret a w') (hexit:∀ a w',EndS p gS gW cS cW n wz w s l X a w'→Q0 (.exit 6) a w') {a:Act} {wr:World} (hI:WSt p gS gW cS cW n wz w s l X a wr):Code.wp Tryz.prog (Code.loop bodyS) Q0 a wr:=
 wp_loop (WSt p gS gW cS cW n wz w s l X) (muS n) hI fun a wr hI=>roundS hctx hret hexit a wr hI
theorem load_last {n:Net} {wz w:World} {s:ByteArray} {l rs:List Int} {X:Option (Rc×List Int)} {p gS gW cS cW pos:Nat} {wr:World} (hctx:LoadCtx n wz w s l rs X) (hr:RAtS p gS gW cS cW w.heap.size wz w n l X n.streams.length pos wr) :
  Below w.heap.size w wr∧atN l.length pos=8*(pos:Int)∧((8*(pos:Int)=(s.size:Int)∧RLoadOut wz (fun b=>b<w.heap.size) n l rs (some ⟨p,0,none⟩) 0 wr)∨(¬ 8*(pos:Int)=(s.size:Int)∧RLoadOut wz (fun b=>b<w.heap.size) n l rs none 3 wr)):=by
 have hok:=hctx.ok
 have hssz:=hctx.str.size
 have hsh:=hctx.str.short
 have hposl:=hr.pos
 have hbel:=hr.below
 obtain ⟨L,R,⟨rfl,rfl,rfl,rfl,rfl⟩,hra,hfo,hco, -, -,hpx⟩:=hr.ex
 rw [Nat.sub_self] at hpx
 have hX2:loadR n l rs=if l.drop pos=[]∧rs=[] then some R else none:=by rw [loadR_read', ← hctx.hX, ← hpx];rfl
 refine ⟨hbel,by unfold atN;rw [if_pos hposl],?_⟩
 by_cases hq:pos=l.length∧rs=[]
 ·rw [if_pos ⟨by rw [hq.1];exact List.drop_length,hq.2⟩] at hX2
  refine Or.inl ⟨?_,⟨fun e=>(by rw [hok] at e;cases e),fun _ e=>(by rw [hX2] at e;cases e),fun _ R' e=>?_⟩⟩
  ·have e1:=hq.1
   have e2:rs.length=0:=by rw [hq.2];rfl
   omega
  ·rw [hX2] at e
   cases e
   exact ⟨L.p,rfl,rfl,⟨L,rfl,hra,fun b hb hlt'=>by have:=hfo b hb;omega,hco⟩,fun b hb=>Nat.lt_of_lt_of_le hb hbel.size⟩
 ·rw [if_neg (fun e=>hq ⟨by have:=List.drop_eq_nil_iff.1 e.1;omega,e.2⟩)] at hX2
  refine Or.inr ⟨fun e=>hq ?_,⟨fun e=>(by rw [hok] at e;cases e),fun _ _=>⟨rfl,rfl⟩,fun _ R' e=>by rw [hX2] at e;cases e⟩⟩
  have:rs.length=0:=by omega
  exact ⟨by omega,List.eq_nil_of_length_eq_zero this⟩
set_option maxRecDepth 1000000 in
set_option maxHeartbeats 16000000 in
theorem refLoad_yes {n:Net} {v:Value} {wz w:World} {s:ByteArray} {l rs:List Int} (hnc:NetAt wz v n) (hwc:Below wz.heap.size wz w) (hs:ShortNet n) (hf:NetFits n) (h:StrIs s l rs) (hlen:l.length≤274877906944) (hok:validB n=true) :
  Calls Tryz.prog 76 #[v,.string s] w fun e w'=>∃ y fn,e=.returned (.tuple #[.pointer y,.int .i64 fn])∧RLoadOut wz (fun b=>b<w.heap.size) n l rs y fn w'∧Below w.heap.size w w':=by
 obtain ⟨hs1,hs8,hw1,hw6⟩:=valid_counts hok
 obtain ⟨X,hX⟩:∃ X,X=(parseW n n.workers.length (initR n n.streams) l).bind fun q=>parseS n n.streams.length q.1 q.2:=⟨_,rfl⟩
 have HN:Hid (∀ wx,Below w.heap.size w wx→Calls Tryz.prog 14 #[v] wx fun e w'=>∃ p gS gW cS cW,e=.returned (.pointer (some ⟨p,0,none⟩))∧RAtW p gS gW cS cW w.heap.size wz w n l X 0 0 w'):=fun wx hx=>by
  refine (refNew_calls hnc (hwc.trans (hx.mono hwc.size)) hs hok).mono fun e w' ⟨q,q1,q2,q3⟩=>?_
  obtain ⟨L,rfl,k1,k2,k3⟩:=q2.ex
  refine ⟨L.p,L.gS,L.gW,L.cS,L.cW,q1,⟨L,_,⟨rfl,rfl,rfl,rfl,rfl⟩,k1,fun b hb=>?_,k3,(Fine.init hok hf).half,rfl,?_⟩,Nat.zero_le _,hx.trans (q3.mono hx.size)⟩
  ·have:=k2 b hb
   have:=hx.size
   omega
  ·rw [hX,Nat.sub_zero,List.drop_zero]
 have HNum:Hid (∀ (k:Nat) wx,Calls Tryz.prog 91 #[.string s,.int .i64 (atN l.length k)] wx fun e w'=>e=.returned (.tuple #[.int .i64 (l.getD k 0),.int .i64 (atN l.length (k+1))])∧w'=wx):=fun k wx=>refNumber_calls h k (by omega) wx
 have hssz:=h.size
 have hsh:=h.short
 obtain ⟨vs,vr,vw,rfl,h1,h2,h3⟩:=hnc
 obtain ⟨sa,sc,rfl⟩:=h1.form
 obtain ⟨ar,cr,rfl⟩:=h2.form
 obtain ⟨aw,cw,rfl⟩:=h3.form
 have hb0:Below w.heap.size w (w.alloc (.cells #[.slice sa n.streams.length sc,.slice ar n.sources.length cr,.slice aw n.workers.length cw] 26)):=(Below.refl _ _).alloc (Nat.le_refl _) _
 have HN1:=hide (HN.out _ hb0)
 have HCtx:Hid (LoadCtx n wz w s l rs X):=⟨hok,hlen,hX,h,hwc⟩
 have HLast:Hid (∀ (p gS gW cS cW pos:Nat) (wr:World),RAtS p gS gW cS cW w.heap.size wz w n l X n.streams.length pos wr→Below w.heap.size w wr∧atN l.length pos=8*(pos:Int)∧((8*(pos:Int)=(s.size:Int)∧RLoadOut wz (fun b=>b<w.heap.size) n l rs (some ⟨p,0,none⟩) 0 wr)∨(¬ 8*(pos:Int)=(s.size:Int)∧RLoadOut wz (fun b=>b<w.heap.size) n l rs none 3 wr))):=fun p gS gW cS cW pos wr hr=>load_last ⟨hok,hlen,hX,h,hwc⟩ hr
 clear HN h1 h2 h3 hb0 hwc hs hf h HNum hX
 go_enter Tryz.func76,Tryz.ntmps76
 go_wp2_with fail
 refine (unhide HN1).mono ?_
 rintro e w1 ⟨p,gS,gW,cS,cW,rfl,hr0⟩
 obtain ⟨p0,p1⟩:=hr0.parts
 have HR0:=hide hr0
 clear hr0 HN1
 go_wp2
 have hat0:(0:Int)=atN l.length 0:=by simp [atN]
 have HRetF:Hid (∀ a w',RetNo n wz w l rs a w'→bodyPost Tryz.prog Tryz.f76 (fun e w'=>∃ y fn,e=.returned (.tuple #[.pointer y,.int .i64 fn])∧RLoadOut wz (fun b=>b<w.heap.size) n l rs y fn w'∧Below w.heap.size w w') .ret a w'):=fun a w' hr=>by
  refine frame289 (C:=fun a=>RetNo n wz w l rs a w'→bodyPost Tryz.prog Tryz.f76 (fun e w'=>∃ y fn,e=.returned (.tuple #[.pointer y,.int .i64 fn])∧RLoadOut wz (fun b=>b<w.heap.size) n l rs y fn w'∧Below w.heap.size w w') .ret a w') ?_ a hr.d hr.sz hr
  intro qa qb qc qd qe qf qg qh qi qj qk ql qm qn qo qp qq qr qs qt qu qv qw qx qy qz qA qB qC qD qE qF qG qH qI qJ qK qL qM qN qO qP qQ qR qS qT qU qV qW qX qY qZ q0 q4 q5 q6 q7 q8 q9 za zb zc zd ze zf zg zh zi zj zk zl zm zn zo zp zq zr zs zt zu zv zw zx zy zz zA zB zC zD zE zF zG zH zI zJ zK zL zM zN zO zP zQ zR zS zT zU zV zW zX zY zZ z0 z1 z2 z3 z4 z5 z6 z7 z8 z9 ya yb yc yd ye yf yg yh yi yj yk yl ym yn yo yp yq yr ys yt yu yv yw yx yy yz yA yB yC yD yE yF yG yH yI yJ yK yL yM yN yO yP yQ yR yS yT yU yV yW yX yY yZ y0 y1 y2 y3 y4 y5 y6 y7 y8 y9 va vb vc vd ve vf vg vh vi vj vk vl vm vn vo vp vq vt vu vv vx vy vz vA vB vC vD vE vF vG vH vI vJ vK vL vM vN vO vP vQ vR vS vT vU vV vW vX vY vZ v0 v1 v2 v3 v4 v5 v6 v7 v8 v9 ja jb jc jd je jf jg jh ji jj jk jl jm jn jo jp jq jr js jt ju jv jw jx jy jz jA jB jC jD jE jF jG jH jI jJ jK jL jM jN jO jP jQ jR jS jT jU hr
  obtain ⟨-, -,e4,e5,ho,hb⟩:=hr
  have e4:qe=.pointer none:=e4
  have e5:qf=.int .i64 3:=e5
  subst e4 e5
  go_ret2
  exact ⟨none,3,rfl,ho,hb⟩
 refine loopW (p:=p) (gS:=gS) (gW:=gW) (cS:=cS) (cW:=cW) HCtx.out ?ret ?exit ?init
 case ret=>exact fun a w' hr=>HRetF.out a w' hr
 case init=>exact ⟨rfl,rfl,rfl,rfl,0,0,Nat.zero_le _,(by show Value.int .i64 0=_;rw [← hat0]),rfl,HR0.out⟩
 case exit=>
  intro a w2 hr
  clear HR0 p0 p1 hat0
  refine frame289 (C:=fun a=>EndW p gS gW cS cW n wz w s l X a w2→Exit.inBlock 0 (Exit.then _ _) (.exit 0) a w2) ?_ a hr.d hr.sz hr
  clear hr a
  intro qa qb qc qd qe qf qg qh qi qj qk ql qm qn qo qp qq qr qs qt qu qv qw qx qy qz qA qB qC qD qE qF qG qH qI qJ qK qL qM qN qO qP qQ qR qS qT qU qV qW qX qY qZ q0 q4 q5 q6 q7 q8 q9 za zb zc zd ze zf zg zh zi zj zk zl zm zn zo zp zq zr zs zt zu zv zw zx zy zz zA zB zC zD zE zF zG zH zI zJ zK zL zM zN zO zP zQ zR zS zT zU zV zW zX zY zZ z0 z1 z2 z3 z4 z5 z6 z7 z8 z9 ya yb yc yd ye yf yg yh yi yj yk yl ym yn yo yp yq yr ys yt yu yv yw yx yy yz yA yB yC yD yE yF yG yH yI yJ yK yL yM yN yO yP yQ yR yS yT yU yV yW yX yY yZ y0 y1 y2 y3 y4 y5 y6 y7 y8 y9 va vb vc vd ve vf vg vh vi vj vk vl vm vn vo vp vq vt vu vv vx vy vz vA vB vC vD vE vF vG vH vI vJ vK vL vM vN vO vP vQ vR vS vT vU vV vW vX vY vZ v0 v1 v2 v3 v4 v5 v6 v7 v8 v9 ja jb jc jd je jf jg jh ji jj jk jl jm jn jo jp jq jr js jt ju jv jw jx jy jz jA jB jC jD jE jF jG jH jI jJ jK jL jM jN jO jP jQ jR jS jT jU hr
  obtain ⟨-, -,e1,e6,pos,e7,hrw⟩:=hr
  have e1:qb=.string s:=e1
  have e6:qg=.pointer (some ⟨p,0,none⟩):=e6
  have e7:qh=.int .i64 (atN l.length pos):=e7
  subst e1 e6 e7
  have HS0:=hide hrw.last
  clear hrw
  go_wp2
  refine loopS (p:=p) (gS:=gS) (gW:=gW) (cS:=cS) (cW:=cW) HCtx.out ?ret2 ?exit2 ?init2
  case ret2=>exact fun a w' hr=>HRetF.out a w' hr
  case init2=>exact ⟨rfl,rfl,rfl,rfl,0,pos,Nat.zero_le _,rfl,rfl,HS0.out⟩
  case exit2=>
   intro a w3 hr
   clear HS0
   refine frame289 (C:=fun a=>EndS p gS gW cS cW n wz w s l X a w3→Exit.inBlock 6 (Exit.then _ _) (.exit 6) a w3) ?_ a hr.d hr.sz hr
   clear hr a
   intro qa qb qc qd qe qf qg qh qi qj qk ql qm qn qo qp qq qr qs qt qu qv qw qx qy qz qA qB qC qD qE qF qG qH qI qJ qK qL qM qN qO qP qQ qR qS qT qU qV qW qX qY qZ q0 q4 q5 q6 q7 q8 q9 za zb zc zd ze zf zg zh zi zj zk zl zm zn zo zp zq zr zs zt zu zv zw zx zy zz zA zB zC zD zE zF zG zH zI zJ zK zL zM zN zO zP zQ zR zS zT zU zV zW zX zY zZ z0 z1 z2 z3 z4 z5 z6 z7 z8 z9 ya yb yc yd ye yf yg yh yi yj yk yl ym yn yo yp yq yr ys yt yu yv yw yx yy yz yA yB yC yD yE yF yG yH yI yJ yK yL yM yN yO yP yQ yR yS yT yU yV yW yX yY yZ y0 y1 y2 y3 y4 y5 y6 y7 y8 y9 va vb vc vd ve vf vg vh vi vj vk vl vm vn vo vp vq vt vu vv vx vy vz vA vB vC vD vE vF vG vH vI vJ vK vL vM vN vO vP vQ vR vS vT vU vV vW vX vY vZ v0 v1 v2 v3 v4 v5 v6 v7 v8 v9 ja jb jc jd je jf jg jh ji jj jk jl jm jn jo jp jq jr js jt ju jv jw jx jy jz jA jB jC jD jE jF jG jH jI jJ jK jL jM jN jO jP jQ jR jS jT jU hr
   obtain ⟨-, -,e1,e6,pos,e7,hrw⟩:=hr
   have e1:qb=.string s:=e1
   have e6:qg=.pointer (some ⟨p,0,none⟩):=e6
   have e7:qh=.int .i64 (atN l.length pos):=e7
   subst e1 e6 e7
   obtain ⟨hb,hat,hcs⟩:=HLast.out p gS gW cS cW pos w3 hrw
   have HB:=hide hb
   rw [hat]
   clear hrw hb hat HLast HRetF HCtx
   rcases hcs with ⟨hsz,ho⟩ | ⟨hne,ho⟩
   ·have HO:=hide ho
    rw [hsz]
    have hbeq:((s.size:Int) != (s.size:Int))=false:=by simp
    clear ho hsz
    go_wp2
    go_ret2
    exact ⟨_,0,rfl,HO.out,HB.out⟩
   ·have HO:=hide ho
    have hbeq:((8*(pos:Int)) != (s.size:Int))=true:=by simpa using hne
    clear ho
    go_wp2
    go_ret2
    exact ⟨none,3,rfl,HO.out,HB.out⟩
theorem str_bytesL (s:ByteArray):strOfNums (bytesL s)=s:=by
 have e:(strOfNums (bytesL s)).data=s.data:=by
  apply Array.ext'
  rw [strOfNums_data,bytesL,List.map_map]
  conv=>rhs;rw [← List.map_id s.data.toList]
  refine List.map_congr_left fun x _=>?_
  simp only [Function.comp,id,Int.toNat_natCast]
  exact UInt8.ofNat_toNat
 cases s
 exact congrArg ByteArray.mk e
def brow (s:ByteArray) (a b:Int):Array Value:=(byteRow (bytesL s++[a,b])).toArray
theorem brow_size (s:ByteArray) (a b:Int):(brow s a b).size=s.size+2:=by simp [brow,byteRow,bytesL_length]
theorem copy_str (w:World) (s:ByteArray) (ty:TypeId) :
  (Builtin.copy_ #[100,9] ty #[.slice (some ⟨w.heap.size,0,none⟩) (s.size+2) (s.size+2),.string s]).run Tryz.prog (w.alloc (.cells (zrow (.int .u8 0) (s.size+2)) 5)) =
   .ok (goInt s.size) (w.alloc (.cells (brow s 0 0) 5)):=by
 have hu:(Tryz.prog.info? 5).map (·.size)=some 1:=by kernel_rfl
 rw [Lib.run_copy_row_string (P:=Tryz.prog) _ 100 9 ty 5 w.heap.size 0 (s.size+2) (s.size+2) s (zrow (.int .u8 0) (s.size+2)) 5 Tryz.underlying100 hu (heap_alloc_new _ _) (by omega) (by simp [zrow])]
 rw [setRow_alloc]
 have e:(List.take 0 (zrow (.int .u8 0) (s.size+2)).toList++Lib.byteCells s.data.toList++List.drop (0+s.size) (zrow (.int .u8 0) (s.size+2)).toList).toArray=brow s 0 0:=by
  have h1:(zrow (.int .u8 0) (s.size+2)).toList=List.replicate (s.size+2) (.int .u8 0):=by simp [zrow]
  rw [h1,List.take_zero,List.nil_append,Nat.zero_add,List.drop_replicate]
  have h2:s.size+2-s.size=2:=by omega
  rw [h2]
  simp [brow,byteRow,bytesL,Lib.byteCells,List.replicate]
 rw [e]
structure InAt (w1:World) (ib:Nat) (s:ByteArray) (wr:World):Prop where
 blk:wr.heap[ib]? = some (.cells (brow s 252 253) 5 (0,0))
 ge:w1.heap.size≤ib
theorem brow_get (s:ByteArray) (a b:Int) (i:Nat) (h:i<s.size):(byteRow (bytesL s++[a,b]))[i]? = some (.int .u8 ((bytesL s).getD i 0)):=by
 have h':i<(bytesL s).length:=by rw [bytesL_length];exact h
 simp only [byteRow,List.getElem?_map,List.getElem?_append_left h',List.getElem?_eq_getElem h',Option.map_some]
 rw [getD_eq _ _ _ h']
theorem brow_a (s:ByteArray) (a b:Int):(byteRow (bytesL s++[a,b]))[s.size]? = some (.int .u8 a):=by
 simp only [byteRow,List.getElem?_map]
 rw [List.getElem?_append_right (by rw [bytesL_length];exact Nat.le_refl _),bytesL_length,Nat.sub_self]
 rfl
theorem brow_b (s:ByteArray) (a b:Int):(byteRow (bytesL s++[a,b]))[s.size+1]? = some (.int .u8 b):=by
 simp only [byteRow,List.getElem?_map]
 rw [List.getElem?_append_right (by rw [bytesL_length];omega),bytesL_length,Nat.add_sub_cancel_left]
 rfl
theorem InAt.bytes {w1 wr:World} {ib:Nat} {s:ByteArray} (h:InAt w1 ib s wr) (hs:s.size≤70368744177664):BytesAt wr (.slice (some ⟨ib,0,none⟩) s.size (s.size+2)) (bytesL s):=by
 refine ⟨_,_,by rw [bytesL_length],by rw [bytesL_length];omega,by rw [bytesL_length];omega,Or.inr ⟨ib,0,rfl,fun i hi j hj=>?_⟩⟩
 rw [bytesL_length] at hi
 have hj0:j=0:=by omega
 subst hj0
 have:=row_cell (l:=byteRow (bytesL s++[252,253])) h.blk (brow_get s 252 253 i hi)
 simpa using this
theorem InAt.conv {w1 wr:World} {ib:Nat} {s:ByteArray} (h:InAt w1 ib s wr):(convert 100 9 (.slice (some ⟨ib,0,none⟩) s.size (s.size+2))).run Tryz.prog wr=.ok (.string s) wr:=by
 have:=run_convert_bytes_arg wr 100 5 Tryz.underlying100 Tryz.underlying5 ib 0 s.size (s.size+2) (bytesL s) (bytesL_length s) (fun i hi=>by rw [Nat.zero_add];exact row_cell (l:=byteRow (bytesL s++[252,253])) h.blk (brow_get s 252 253 i hi)) 9 Tryz.underlying9
 rw [str_bytesL] at this
 exact this
theorem InAt.cells {w1 wr:World} {ib:Nat} {s:ByteArray} (h:InAt w1 ib s wr):wr.cell? ⟨ib,s.size,none⟩=some (.int .u8 252)∧wr.cell? ⟨ib,s.size+1,none⟩=some (.int .u8 253):=
 ⟨row_cell (l:=byteRow (bytesL s++[252,253])) h.blk (brow_a s 252 253),row_cell (l:=byteRow (bytesL s++[252,253])) h.blk (brow_b s 252 253)⟩
theorem InAt.keep {w1 wr w':World} {ib:Nat} {s:ByteArray} (h:InAt w1 ib s wr) (hb:w'.heap[ib]? = wr.heap[ib]?):InAt w1 ib s w':=⟨hb.trans h.blk,h.ge⟩
set_option maxRecDepth 100000 in
set_option maxHeartbeats 2000000 in
theorem refLoad_out {n:Net} {v:Value} {w:World} (s:ByteArray) (hn:NetAt w v n) (hok:validB n=false) :
  Calls Tryz.prog 76 #[v,.string s] w fun e w'=>e=.returned (.tuple #[.pointer none,.int .i64 1])∧Below w.heap.size w w':=by
 have HN:Hid (∀ wx,Below w.heap.size w wx→Calls Tryz.prog 14 #[v] wx fun e w'=>e=.returned (.pointer none)∧Below w.heap.size w w'):=fun wx hx=>(refNew_out (hn.below hx) hok).mono fun e w' ⟨q1,q2⟩=>⟨q1,hx.trans (q2.mono hx.size)⟩
 obtain ⟨vs,vr,vw,rfl,h1,h2,h3⟩:=hn
 obtain ⟨sa,sc,rfl⟩:=h1.form
 obtain ⟨ar,cr,rfl⟩:=h2.form
 obtain ⟨aw,cw,rfl⟩:=h3.form
 have HB0:Hid (Below w.heap.size w (w.alloc (.cells #[.slice sa n.streams.length sc,.slice ar n.sources.length cr,.slice aw n.workers.length cw] 26))):=(Below.refl _ _).alloc (Nat.le_refl _) _
 clear h1 h2 h3 hok
 go_enter Tryz.func76,Tryz.ntmps76
 go_wp2_with fail
 refine (unhide HN _ HB0.out).mono ?_
 rintro e w1 ⟨rfl,hb1⟩
 have HB1:=hide hb1
 clear hb1 HN HB0
 go_wp2
 go_ret2
 exact ⟨rfl,HB1.out⟩
theorem refLoad_any {n:Net} {v:Value} {wz w:World} {s:ByteArray} {l rs:List Int} (hnc:NetAt wz v n) (hwc:Below wz.heap.size wz w) (hs:ShortNet n) (h:StrIs s l rs) (hlen:l.length≤274877906944) :
  Calls Tryz.prog 76 #[v,.string s] w fun e w'=>∃ y fn,e=.returned (.tuple #[.pointer y,.int .i64 fn])∧RLoadOut wz (fun b=>b<w.heap.size) n l rs y fn w'∧Below w.heap.size w w':=by
 cases hok:validB n with
 | true=>exact refLoad_yes hnc hwc hs (fits_of_short hs) h hlen hok
 | false=>exact (refLoad_out s (hnc.below hwc) hok).mono fun e w' ⟨q1,q2⟩=>⟨none,1,q1,⟨fun _=>⟨rfl,rfl⟩,fun e=>(by rw [hok] at e;cases e),fun e=>by rw [hok] at e;cases e⟩,q2⟩
def LRes (wz:World) (cx cy:Nat) (n:Net) (l rs:List Int) (x y:Option Addr) (col:Nat→Nat) (w:World):Prop:=
 (x=none∧y=none)∨∃ R xb yb,validB n=true∧loadR n l rs=some R∧x=some ⟨xb,0,none⟩∧y=some ⟨yb,0,none⟩∧Has (fun b=>b<w.heap.size∧col b≠cx) xb n R w∧RHas wz (fun b=>b<w.heap.size∧col b≠cy) yb n R w
structure MidL (wz:World) (base:Nat) (col:Nat→Nat) (w:World) (p:Nat) (v0:Value) (c cx cy:Nat) (n:Net) (l rs:List Int) (ib:Nat) (x y:Option Addr) (w5:World):Prop where
 ex:∃ col5,Bk base col5 w5 p v0 c∧Opened base col col5 w w5∧col5 ib=22∧w.heap.size≤ib∧ib<w5.heap.size∧LRes wz cx cy n l rs x y col5 w5
theorem loads_back {base:Nat} {col:Nat→Nat} {wz w w1 wI w3 w4:World} {p:Nat} {v0:Value} {c cx cy ib:Nat} {n:Net} {vs vr vw:Value} {L:LoanL} {s:ByteArray} {l rs:List Int} {x y:Option Addr} {en fn:Int} (hcx9:cx<90) (hcy9:cy<90) (hb:Bk base col w p v0 c) (hn:NetStays base col w (.agg #[vs,vr,vw]) n) (hs:ShortNet n) (hc:c+n.sources.length+n.workers.length+3≤1099511627776)
  (hwz:Below wz.heap.size wz w) (hzb:wz.heap.size≤base)
  (hL:LoanAt (w.alloc (.cells #[vs,vr,vw] 26)).heap.size L w1 n) (hb1:Below (w.alloc (.cells #[vs,vr,vw] 26)).heap.size (w.alloc (.cells #[vs,vr,vw] 26)) w1) (hbI:Below w1.heap.size w1 wI) (hin:InAt w1 ib s wI) (hb3:Below wI.heap.size wI w3) (hx:LoadOut (fun b=>b<wI.heap.size) n l rs x en w3) (hb4:Below w3.heap.size w3 w4) (hy:RLoadOut wz (fun b=>b<w3.heap.size) n l rs y fn w4) :
  Calls Tryz.prog 15 #[.pointer (some ⟨p,0,none⟩),.pointer (some ⟨L.q,0,none⟩),.agg #[vs,vr,vw]] w4 fun e w5=>e=.returned (.bool true)∧InAt w1 ib s w5∧MidL wz base col w p v0 (c+n.sources.length+n.workers.length+3) cx cy n l rs ib x y w5:=by
 have hsz0:(w.alloc (.cells #[vs,vr,vw] 26)).heap.size=w.heap.size+1:=by simp
 have z1:w.heap.size<w1.heap.size:=by have:=hb1.size;rw [hsz0] at this;omega
 have zI:=hbI.size
 have z3:=hb3.size
 have z4:=hb4.size
 have hge:=hin.ge
 have hil:=lt_of_blk hin.blk
 have hb34:Below wI.heap.size wI w4:=hb3.trans (hb4.mono z3)
 refine (opens_back 22 40 (by decide) (by decide) hb hn hs hc hL hb1 hbI hb34).mono fun e w' ⟨r1,col',r2,r3,r4,r5,r6,_⟩=>?_
 have e1:∀ b,w1.heap.size≤b→b<wI.heap.size→col4 col w.heap.size w1.heap.size wI.heap.size w4.heap.size 22 40 b=22:=fun b h h'=>col4_x z1 h h'
 have e2:∀ b,wI.heap.size≤b→b<w4.heap.size→col4 col w.heap.size w1.heap.size wI.heap.size w4.heap.size 22 40 b=40:=fun b h h'=>col4_y z1 zI h h'
 have k22:∀ b,w1.heap.size≤b→b<wI.heap.size→col' b=22:=fun b h h'=>by rw [r5 b (by omega) (by omega) (by rw [e1 b h h'];omega),e1 b h h']
 have k40:∀ b,wI.heap.size≤b→b<w4.heap.size→col' b=40:=fun b h h'=>by rw [r5 b (by omega) h' (by rw [e2 b h h'];omega),e2 b h h']
 have w45:∀ b,w1.heap.size≤b→b<w4.heap.size→w'.heap[b]? = w4.heap[b]? := fun b h h'=>r4.block b h' (fun k=>by
  have:=k.2
  rcases Nat.lt_or_ge b wI.heap.size with hq | hq
  ·rw [e1 b h hq] at this;omega
  ·rw [e2 b hq h'] at this;omega)
 have z5:=r4.size
 obtain ⟨cs,hp, -⟩:=hb.blk
 have hbase:base≤w.heap.size:=Nat.le_trans hb.ge (Nat.le_of_lt (lt_of_blk hp))
 have hzw:Below wz.heap.size wz w':=hwz.trans ⟨r3.fr.os,r3.fr.tape,r3.fr.output,r3.fr.size,fun b h=>r3.fr.block b (by have:=hwz.size;omega) (fun e=>by have:=e.1;omega)⟩
 let c6:Nat→Nat:=fun b=>if wI.heap.size≤b∧b<w3.heap.size then cx else if w3.heap.size≤b∧b<w4.heap.size then cy else col' b
 have c6o:∀ b,b<wI.heap.size∨w4.heap.size≤b→c6 b=col' b:=fun b h=>by
  show (if wI.heap.size≤b∧b<w3.heap.size then cx else if w3.heap.size≤b∧b<w4.heap.size then cy else col' b)=col' b
  rw [if_neg (by omega),if_neg (by omega)]
 have c6x:∀ b,wI.heap.size≤b→b<w3.heap.size→c6 b=cx:=fun b h h'=>by
  show (if wI.heap.size≤b∧b<w3.heap.size then cx else _)=cx
  rw [if_pos ⟨h,h'⟩]
 have c6y:∀ b,w3.heap.size≤b→b<w4.heap.size→c6 b=cy:=fun b h h'=>by
  show (if wI.heap.size≤b∧b<w3.heap.size then cx else if w3.heap.size≤b∧b<w4.heap.size then cy else col' b)=cy
  rw [if_neg (by omega),if_pos ⟨h,h'⟩]
 refine ⟨r1,hin.keep (by rw [w45 ib hge (by omega),hb34.block ib hil]),⟨c6,?_,⟨r3.fr,fun b h h'=>?_,fun b h=>?_⟩,?_,by omega,by omega,?_⟩⟩
 ·refine r2.frame (fun _ _ _=>rfl) (fun b h h8=>?_) (fun b h=>?_) (Nat.le_refl _) (Nat.le_refl _)
  ·refine c6o b ?_
   rcases Nat.lt_or_ge b wI.heap.size with hq | hq
   ·exact Or.inl hq
   ·rcases Nat.lt_or_ge b w4.heap.size with hq2 | hq2
    ·rw [k40 b hq hq2] at h8;omega
    ·exact Or.inr hq2
  ·rw [c6o b (by omega)];exact r2.low b h
 ·rw [c6o b (by omega)];exact r3.old b h h'
 ·rcases Nat.lt_or_ge b wI.heap.size with hq | hq
  ·rw [c6o b (Or.inl hq)];exact r3.new b h
  ·rcases Nat.lt_or_ge b w3.heap.size with hq2 | hq2
   ·rw [c6x b hq hq2];exact hcx9
   ·rcases Nat.lt_or_ge b w4.heap.size with hq3 | hq3
    ·rw [c6y b hq2 hq3];exact hcy9
    ·rw [c6o b (Or.inr hq3)];exact r3.new b h
 ·rw [c6o ib (Or.inl hil)];exact k22 ib hge hil
 ·cases hok:validB n with
  | false=>exact Or.inl ⟨(hx.bad hok).1,(hy.bad hok).1⟩
  | true=>
   cases hl:loadR n l rs with
   | none=>exact Or.inl ⟨(hx.no hok hl).1,(hy.no hok hl).1⟩
   | some R=>
    obtain ⟨xb,q1, -,q2⟩:=hx.yes hok R hl
    obtain ⟨yb,q3, -,q4⟩:=hy.yes hok R hl
    refine Or.inr ⟨R,xb,yb,hok,hl,q1,q3,q2.turn (fun b h h'=>?_) (fun b h h' h''=>h''.2 (c6x b (by omega) h)) (fun b h=>h.1),q4.turn (fun b h h'=>?_) (fun b h h' h''=>h''.2 (c6y b (by omega) h)) (fun b h=>h.1) hzw⟩
    ·rw [w45 b (by omega) (by omega),hb4.block b h]
    ·exact w45 b (by omega) h
theorem loads_same {n:Net} {l rs:List Int} {wz w3 w4:World} {A A':Nat→Prop} {x y:Option Addr} {en fn:Int} (hx:LoadOut A n l rs x en w3) (hy:RLoadOut wz A' n l rs y fn w4):en=fn∧x.isSome=y.isSome:=by
 cases hok:validB n with
 | false=>
  obtain ⟨a1,a2⟩:=hx.bad hok
  obtain ⟨b1,b2⟩:=hy.bad hok
  rw [a1,a2,b1,b2];exact ⟨rfl,rfl⟩
 | true=>
  cases hl:loadR n l rs with
  | none=>
   obtain ⟨a1,a2⟩:=hx.no hok hl
   obtain ⟨b1,b2⟩:=hy.no hok hl
   rw [a1,a2,b1,b2];exact ⟨rfl,rfl⟩
  | some R=>
   obtain ⟨xb,q1,q2, -⟩:=hx.yes hok R hl
   obtain ⟨yb,q3,q4, -⟩:=hy.yes hok R hl
   rw [q1,q2,q3,q4];exact ⟨rfl,rfl⟩
structure LoadsDone (wz:World) (base:Nat) (col:Nat→Nat) (w:World) (p:Nat) (v0:Value) (c cx cy:Nat) (n:Net) (l rs:List Int) (x y:Option Addr) (w':World):Prop where
 ex:∃ col',Bk base col' w' p v0 c∧Opened base col col' w w'∧LRes wz cx cy n l rs x y col' w'
theorem MidL.done {wz:World} {base:Nat} {col:Nat→Nat} {w:World} {p:Nat} {v0:Value} {c cx cy:Nat} {n:Net} {l rs:List Int} {ib:Nat} {x y:Option Addr} {w5 w':World} {col5:Nat→Nat} (hcx:29<cx) (hcy:29<cy) (hwz:Below wz.heap.size wz w) (hzb:wz.heap.size≤base) (h2:Opened base col col5 w w5) (h3:col5 ib=22) (h4:w.heap.size≤ib) (h6:LRes wz cx cy n l rs x y col5 w5) (hk:Backed base col5 w5 p v0 c ib w'):LoadsDone wz base col w p v0 (c+1) cx cy n l rs x y w':=by
 obtain ⟨col',k1,k2,k3,k4⟩:=hk.ex
 have z1:=h2.fr.size
 have z2:=hk.fr.size
 have hfr:Fr (fun b=>base≤b∧col b≤20) w w':=h2.fr.trans hk.fr fun b hb e=>by
  rcases e with e | e
  ·omega
  ·refine ⟨e.1,?_⟩
   rcases Nat.lt_or_ge 20 (col b) with hq | hq
   ·have:=h2.old b hb hq;omega
   ·exact hq
 have hzw:Below wz.heap.size wz w':=hwz.trans ⟨hfr.os,hfr.tape,hfr.output,hfr.size,fun b h=>hfr.block b (by have:=hwz.size;omega) (fun e=>by have:=e.1;omega)⟩
 refine ⟨col',k1,⟨hfr,fun b h h'=>?_,fun b h=>?_⟩,?_⟩
 ·rw [k2 b (by omega) (by omega)];exact h2.old b h h'
 ·rcases Nat.lt_or_ge b w5.heap.size with hq | hq
  ·by_cases e:b=ib
   ·rw [e,k4];omega
   ·rw [k2 b hq e];exact h2.new b h
  ·have:=k3 b hq;omega
 ·rcases h6 with h6 | ⟨R,xb,yb,q1,q2,q3,q4,q5,q6⟩
  ·exact Or.inl h6
  ·refine Or.inr ⟨R,xb,yb,q1,q2,q3,q4,q5.turn (fun b h h'=>?_) (fun b h h' h''=>?_) (fun b h=>h.1),q6.turn (fun b h h'=>?_) (fun b h h' h''=>?_) (fun b h=>h.1) hzw⟩
   all_goals have hcb:=Classical.byContradiction fun e=>h' ⟨h,e⟩
   ·exact hk.fr.block b h (fun e=>by rcases e with e | e;rw [e,h3] at hcb;omega;omega)
   ·exact h''.2 ((k2 b h (fun e=>by rw [e,h3] at hcb;omega)).trans hcb)
   ·exact hk.fr.block b h (fun e=>by rcases e with e | e;rw [e,h3] at hcb;omega;omega)
   ·exact h''.2 ((k2 b h (fun e=>by rw [e,h3] at hcb;omega)).trans hcb)
end Go.Proofs.YthfdgdfnflilfaaGreatDoor

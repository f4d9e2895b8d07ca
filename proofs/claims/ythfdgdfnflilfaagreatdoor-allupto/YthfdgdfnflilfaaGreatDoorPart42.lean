/- Part 42: RefL8. -/
import Derived.Test.YthfdgdfnflilfaaGreatDoorPart35
namespace Go.Proofs.YthfdgdfnflilfaaGreatDoor
open Go.RowKit Go.Conc
set_option maxRecDepth 1000000 in
set_option maxHeartbeats 16000000 in
theorem loadS_src {n:Net} {wz w:World} {s:ByteArray} {l rs:List Int} {X:Option (Rc×List Int)} {p gS gW cS cW:Nat} {Q0:Exit→Act→World→Prop} (hctx:LoadCtx n wz w s l rs X) (hret:∀ a w',RetNo n wz w l rs a w'→Q0 .ret a w') {k pos:Nat} {wr:World} (hr:RAtS p gS gW cS cW w.heap.size wz w n l X k pos wr) (hlt:k<n.streams.length) (hsr:srcd n k=true) (qa qc qd qe qf qg qh qi qj qk ql qm qn qo qp qq qr qs qt qu qv qw qx qy qz qA qB qC qD qE qF qG qH qI qJ qK qL qM qN qO qP qQ qR qS qT qU qV qW qX qY qZ q0 q1 q2 q3 q4 q5 q6 q7 q8 q9 za zb zc zd ze zf zg zh zi zj zk zl zm zn zo zp zq zr zs zt zu zv zw zx zy zz zA zB zC zD zE zF zG zH zI zJ zK zL zM zN zO zP zQ zR zS zT zU zV zW zX zY zZ z5 z6 z7 z8 z9 ya yb yc yd ye yf yg yh yi yj yk yl ym yn yo yp yq yr ys yt yu yv yw yx yy yz yA yB yC yD yE yF yG yH yI yJ yK yL yM yN yO yP yQ yR yS yT yU yV yW yX yY yZ y5 y6 y7 y8 y9 va vb vc vd ve vf vg vh vi vj vk vl vm vn vo vp vq vr vs vt vu vv vx vy vz vA vB vC vD vE vF vG vH vI vJ vK vL vM vN vO vP vQ vR vS vT vU vV vW vX vY vZ v0 v1 v2 v3 v4 v5 v6 v7 v8 v9 ja jb jc jd je jf jg jh ji jj jk jl jm jn jo jp jq jr js jt ju jv jw jx jy jz jA jB jC jD jE jF jG jH jI jJ jK jL jM jN jO jP jQ jR jS jT jU jV jW:Value) :
  Code.wp Tryz.prog bodyS (Exit.then (fun a' w'=>WSt p gS gW cS cW n wz w s l X a' w'∧muS n a' w'<muS n ⟨#[qa,.string s,qc,qd,qe,qf,.pointer (some ⟨p,0,none⟩),.int .i64 (atN l.length pos),qg,qh,qi,qj,qk,ql,.int .i64 k,qm,qn,qo,qp,qq,qr,qs,qt,qu,qv,qw,qx,qy,qz,qA,qB,qC,qD,qE,qF,qG,qH,qI,qJ,qK,qL,qM,qN,qO,qP,qQ,qR,qS,qT,qU,qV,qW,qX,qY,qZ,q0,q1,q2,q3,q4,q5,q6,q7,q8,q9,za,zb,zc,zd,ze,zf,zg,zh,zi,zj,zk,zl,zm,zn,zo,zp,zq,zr,zs,zt,zu,zv,zw,zx,zy,zz,zA,zB,zC,zD,zE,zF,zG,zH,zI,zJ,zK,zL,zM,zN,zO,zP,zQ,zR,zS,zT,zU,zV,zW,zX,zY,zZ,z5,z6,z7,z8,z9,ya,yb,yc,yd,ye,yf,yg,yh,yi,yj,yk,yl,ym,yn,yo,yp,yq,yr,ys,yt,yu,yv,yw,yx,yy,yz,yA,yB,yC,yD,yE,yF,yG,yH,yI,yJ,yK,yL,yM,yN,yO,yP,yQ,yR,yS,yT,yU,yV,yW,yX,yY,yZ,y5,y6,y7,y8,y9,va,vb,vc,vd,ve,vf,vg,vh,vi,vj,vk,vl,vm,vn,vo,vp,vq,vr,vs,vt,vu,vv,vx,vy,vz,vA,vB,vC,vD,vE,vF,vG,vH,vI,vJ,vK,vL,vM,vN,vO,vP,vQ,vR,vS,vT,vU,vV,vW,vX,vY,vZ,v0,v1,v2,v3,v4,v5,v6,v7,v8,v9,ja,jb,jc,jd,je,jf,jg,jh,ji,jj,jk,jl,jm,jn,jo,jp,jq,jr,js,jt,ju,jv,jw,jx,jy,jz,jA,jB,jC,jD,jE,jF,jG,jH,jI,jJ,jK,jL,jM,jN,jO,jP,jQ,jR,jS,jT,jU,jV,jW],[]⟩ wr) Q0) ⟨#[qa,.string s,qc,qd,qe,qf,.pointer (some ⟨p,0,none⟩),.int .i64 (atN l.length pos),qg,qh,qi,qj,qk,ql,.int .i64 k,qm,qn,qo,qp,qq,qr,qs,qt,qu,qv,qw,qx,qy,qz,qA,qB,qC,qD,qE,qF,qG,qH,qI,qJ,qK,qL,qM,qN,qO,qP,qQ,qR,qS,qT,qU,qV,qW,qX,qY,qZ,q0,q1,q2,q3,q4,q5,q6,q7,q8,q9,za,zb,zc,zd,ze,zf,zg,zh,zi,zj,zk,zl,zm,zn,zo,zp,zq,zr,zs,zt,zu,zv,zw,zx,zy,zz,zA,zB,zC,zD,zE,zF,zG,zH,zI,zJ,zK,zL,zM,zN,zO,zP,zQ,zR,zS,zT,zU,zV,zW,zX,zY,zZ,z5,z6,z7,z8,z9,ya,yb,yc,yd,ye,yf,yg,yh,yi,yj,yk,yl,ym,yn,yo,yp,yq,yr,ys,yt,yu,yv,yw,yx,yy,yz,yA,yB,yC,yD,yE,yF,yG,yH,yI,yJ,yK,yL,yM,yN,yO,yP,yQ,yR,yS,yT,yU,yV,yW,yX,yY,yZ,y5,y6,y7,y8,y9,va,vb,vc,vd,ve,vf,vg,vh,vi,vj,vk,vl,vm,vn,vo,vp,vq,vr,vs,vt,vu,vv,vx,vy,vz,vA,vB,vC,vD,vE,vF,vG,vH,vI,vJ,vK,vL,vM,vN,vO,vP,vQ,vR,vS,vT,vU,vV,vW,vX,vY,vZ,v0,v1,v2,v3,v4,v5,v6,v7,v8,v9,ja,jb,jc,jd,je,jf,jg,jh,ji,jj,jk,jl,jm,jn,jo,jp,jq,jr,js,jt,ju,jv,jw,jx,jy,jz,jA,jB,jC,jD,jE,jF,jG,jH,jI,jJ,jK,jL,jM,jN,jO,jP,jQ,jR,jS,jT,jU,jV,jW],[]⟩ wr:=by
 conv=>arg 2;whnf
 have hok:=hctx.ok
 have hlen:=hctx.len
 have HXX:=hide hctx.hX
 have hssz:=hctx.str.size
 have hsh:=hctx.str.short
 have HNum:Hid (∀ (k:Nat) wx,Calls Tryz.prog 91 #[.string s,.int .i64 (atN l.length k)] wx fun e w'=>e=.returned (.tuple #[.int .i64 (l.getD k 0),.int .i64 (atN l.length (k+1))])∧w'=wx):=fun k wx=>refNumber_calls hctx.str k (by omega) wx
 have HWc:=hide hctx.wz
 have HFits:=hide hctx.str.fits
 have HRet:=hide hret
 obtain ⟨hs1,hs8,hw1,hw6⟩:=valid_counts hok
 clear hctx hret
 have p0:=hr.parts
 obtain ⟨W0,rfl⟩:∃ W0,W0=wr:=⟨_,rfl⟩
 have hposl:=hr.pos
 have hbel:=hr.below
 obtain ⟨L,R,hL,hra,hfo,hco,hhf,hin,hpx⟩:=hr.ex
 obtain ⟨rfl,rfl,rfl,rfl,rfl⟩:=id hL
 have hk0:(0:Int)≤(k:Int):=by omega
 have hk1:(k:Int)<(n.streams.length:Int):=by omega
 have c0:=hra.sc hlt 0 _ (by decide) rfl
 have c1:=hra.sc hlt 1 _ (by decide) rfl
 have c2:=hra.sc hlt 2 _ (by decide) rfl
 have c3:=hra.sc hlt 3 _ (by decide) rfl
 have c4:=hra.sc hlt 4 _ (by decide) rfl
 rw [Nat.add_zero] at c0
 obtain ⟨av,cv,hvw⟩:=own_slice (hra.words k hlt)
 have HX0:=hide (XLd.start hra hlt)
 rw [hvw] at c2 HX0
 have HNo:Hid (getS (srcd n k) (used n k) (R.s k) (l.drop pos)=none→∀ wx,RLoadOut wz (fun b=>b<w.heap.size) n l rs none 3 wx):=fun hg wx=>by
  have e:=hpx
  rw [parseS_at hlt,hg] at e
  refine ⟨fun e'=>(by rw [hok] at e';cases e'),fun _ _=>⟨rfl,rfl⟩,fun _ R' e'=>?_⟩
  rw [loadR_read', ← HXX.out, ← e] at e'
  cases e'
 have HNx:Hid (∀ {xb:Nat} {vw:Value} {ws:List Int} {rdn ron pos':Nat} {wr:World},XLd L W0 n k xb vw ws rdn ron wr→getS (srcd n k) (used n k) (R.s k) (l.drop pos)=some (⟨ws,rdn,ron⟩,l.drop pos')→pos'≤l.length→∀ q,RAtS L.p L.gS L.gW L.cS L.cW w.heap.size wz w n l X (k+1) pos' ((putS wr L.gS k (.bool (srcd n k)) (.bool (used n k)) vw (.int .i64 rdn) (.int .i64 ron)).drewN q)):=fun h1 h2 h3 q=>h1.next hra hlt hL hfo hco hhf hin hpx hbel HWc.out HWc.out.size hbel.size HFits.out h2 h3 q
 have HBx:Hid (∀ {xb:Nat} {vw:Value} {ws:List Int} {rd ro:Int} {wr:World},XLd L W0 n k xb vw ws rd ro wr→Below w.heap.size w wr):=fun h1=>hbel.trans ⟨h1.fr.os,h1.fr.tape,h1.fr.output,h1.fr.size,fun b hb=>h1.fr.block b (by have:=hbel.size;omega) (fun e=>by have:=hfo b (Or.inr (Or.inr (Or.inr ⟨k,hlt,e⟩)));omega)⟩
 have HGc:Hid (∀ {xb:Nat} {vw:Value} {ws:List Int} {rd ro:Int} {wr:World},XLd L W0 n k xb vw ws rd ro wr→wr.cell? ⟨L.p,0,none⟩=some (.slice (some ⟨L.gS,0,none⟩) n.streams.length L.cS)∧(∀ j,j<5→∃ u,wr.cell? ⟨L.gS,k*5+j,none⟩=some u∧wr.frozen? ⟨L.gS,k*5+j,none⟩=false)∧L.gS≠xb∧L.gS≠L.p∧xb≠L.p):=fun h1=>h1.gcells hra hlt
 have HNm:=hide (HNum.out pos)
 have HIn:=hide (hin k (Nat.le_refl _) hlt)
 clear hr hra hL hfo hco hhf hin hpx hbel hvw
 rw [hsr] at c0 HX0 HNo HNx
 clear HNum HIn
 generalize hml:(R.s k).words.length=ml at *
 obtain ⟨f0,hf0⟩:∃ f0,f0=l.getD pos 0:=⟨_,rfl⟩
 rw [← hf0] at HNm
 have HF0:=hide hf0
 clear hf0
 go_wp2_with fail
 refine (unhide HNm _).mono ?_
 rintro e w2 ⟨rfl,hw2⟩
 rw [← hw2] at HX0
 clear hw2 HNm c0 c1 c2 c3 c4 p0
 obtain ⟨⟨x0,x1,x2,x3,x4⟩, -,xf3, -⟩:=HX0.out.cells
 have HX1:=hide (HX0.out.read f0)
 generalize W0.heap.size=xb at *
 clear HX0
 go_upto_region 31 with fail
 generalize w2.setCell ⟨xb,3,none⟩ (.int .i64 f0)=w3 at *
 clear x0 x1 x2 x3 x4 xf3
 obtain ⟨⟨x0,x1,x2,x3,x4⟩, -⟩:=HX1.out.cells
 have HB3:=hide (HBx.out HX1.out)
 by_cases hA:pos+1≤l.length
 ·have hat:atN l.length (pos+1)=8*((pos+1:Nat):Int):=by unfold atN;rw [if_pos hA]
  obtain ⟨a0,ha0⟩:∃ a0,a0=atN l.length (pos+1):=⟨_,rfl⟩
  have ha1:0≤a0:=by rw [ha0,hat];omega
  have HA0:=hide ha0
  rw [← ha0]
  have hd0:decide (a0<0)=false:=by simp;omega
  clear ha0 hat
  by_cases hB:f0<0
  ·have HO:=hide (HNo.out (getS_src_none fun _ h'=>absurd h' (by rw [← HF0.out];omega)))
   have hd1:decide (f0<0)=true:=by simpa using hB
   clear HNo HNx HBx HGc HA0 HF0 HX1
   go_wp2
   exact HRet.out _ _ ⟨rfl,rfl,rfl,rfl,HO.out _,HB3.out⟩
  ·by_cases hC:(ml:Int)<f0
   ·have HO:=hide (HNo.out (getS_src_none fun _ _ h'=>absurd h' (by rw [← HF0.out,hml];omega)))
    have hd1:decide (f0<0)=false:=by simpa using hB
    have hd2:decide ((ml:Int)<f0)=true:=by simpa using hC
    clear HNo HNx HBx HGc HA0 HF0 HX1
    go_wp2
    exact HRet.out _ _ ⟨rfl,rfl,rfl,rfl,HO.out _,HB3.out⟩
   ·obtain ⟨fn,hfn⟩:∃ fn:Nat,f0=fn:=⟨f0.toNat,by omega⟩
    subst hfn
    have HO:=hide (HNx.out HX1.out (pos':=pos+1) (by
     have e:=getS_src (u:=used n k) (m0:=R.s k) hA (by rw [← HF0.out];omega) (by rw [← HF0.out,hml];omega)
     rw [← HF0.out] at e
     simpa using e) hA)
    have hd1:decide ((fn:Int)<0)=false:=by simp
    have hd2:decide ((ml:Int)<(fn:Int))=false:=by simpa using hC
    obtain ⟨y0,y1,y2,y3,y4⟩:=HGc.out HX1.out
    obtain ⟨qa,z0,zf0⟩:=y1 0 (by decide)
    obtain ⟨qb,z1,zf1⟩:=y1 1 (by decide)
    obtain ⟨qc,z2,zf2⟩:=y1 2 (by decide)
    obtain ⟨qd,z3,zf3⟩:=y1 3 (by decide)
    obtain ⟨qe,z4,zf4⟩:=y1 4 (by decide)
    rw [Nat.add_zero] at z0 zf0
    rw [hsr] at x0
    clear HNo HNx HBx HGc HF0 HX1 y1 hml HB3 hsr
    go_wp2
    go_region_held3 (fun w'=>w'.cell? ⟨L.p,0,none⟩=some (.slice (some ⟨L.gS,0,none⟩) n.streams.length L.cS)∧w'.cell? ⟨xb,0,none⟩=some (.bool true)∧w'.cell? ⟨xb,1,none⟩=some (.bool (used n k))∧w'.cell? ⟨xb,2,none⟩=some (.slice av ml cv)∧w'.cell? ⟨xb,3,none⟩=some (.int .i64 fn)∧w'.cell? ⟨xb,4,none⟩=some (.int .i64 (R.s k).room)) (go_keep) (fail)
    go_wp2
    refine ⟨⟨rfl,rfl,rfl,rfl,k+1,pos+1,by omega,?_,?_,HO.out 1⟩,?_⟩
    ·show Value.int .i64 _=_
     rw [HA0.out]
    ·show Value.int .i64 _=_
     go_num
    ·show n.streams.length-(intOf (Value.int .i64 _)).toNat<n.streams.length-(intOf (Value.int .i64 _)).toNat
     simp [intOf];omega
 ·have hat:atN l.length (pos+1) = -1:=by unfold atN;rw [if_neg hA]
  have HO:=hide (HNo.out (getS_src_none fun h'=>absurd h' hA))
  rw [hat]
  clear HNo HNx HBx HGc hat HF0 HX1
  go_wp2
  exact HRet.out _ _ ⟨rfl,rfl,rfl,rfl,HO.out _,HB3.out⟩
end Go.Proofs.YthfdgdfnflilfaaGreatDoor

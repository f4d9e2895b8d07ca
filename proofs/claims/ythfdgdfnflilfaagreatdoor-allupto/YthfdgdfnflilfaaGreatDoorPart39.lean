/- Part 39: RefL9. -/
import Derived.Test.YthfdgdfnflilfaaGreatDoorPart35
namespace Go.Proofs.YthfdgdfnflilfaaGreatDoor
open Go.RowKit Go.Conc
set_option maxRecDepth 1000000 in
set_option maxHeartbeats 16000000 in
theorem loadS_un {n:Net} {wz w:World} {s:ByteArray} {l rs:List Int} {X:Option (Rc×List Int)} {p gS gW cS cW:Nat} {Q0:Exit→Act→World→Prop} (hctx:LoadCtx n wz w s l rs X) (hret:∀ a w',RetNo n wz w l rs a w'→Q0 .ret a w') {k pos:Nat} {wr:World} (hr:RAtS p gS gW cS cW w.heap.size wz w n l X k pos wr) (hlt:k<n.streams.length) (hsr:srcd n k=false) (qa qc qd qe qf qg qh qi qj qk ql qm qn qo qp qq qr qs qt qu qv qw qx qy qz qA qB qC qD qE qF qG qH qI qJ qK qL qM qN qO qP qQ qR qS qT qU qV qW qX qY qZ q0 q1 q2 q3 q4 q5 q6 q7 q8 q9 za zb zc zd ze zf zg zh zi zj zk zl zm zn zo zp zq zr zs zt zu zv zw zx zy zz zA zB zC zD zE zF zG zH zI zJ zK zL zM zN zO zP zQ zR zS zT zU zV zW zX zY zZ z5 z6 z7 z8 z9 ya yb yc yd ye yf yg yh yi yj yk yl ym yn yo yp yq yr ys yt yu yv yw yx yy yz yA yB yC yD yE yF yG yH yI yJ yK yL yM yN yO yP yQ yR yS yT yU yV yW yX yY yZ y5 y6 y7 y8 y9 va vb vc vd ve vf vg vh vi vj vk vl vm vn vo vp vq vr vs vt vu vv vx vy vz vA vB vC vD vE vF vG vH vI vJ vK vL vM vN vO vP vQ vR vS vT vU vV vW vX vY vZ v0 v1 v3 v4 v5 v6 v7 v8 v9 ja jb jc jd je jf jg jh ji jj jk jl jm jn jo jp jq jr js jt ju jv jw jx jy jz jA jB jC jD jE jF jG jH jI jJ jK jL jM jN jO jP jQ jR jS jT jU jV jW jX:Value) :
  Code.wp Tryz.prog bodyS (Exit.then (fun a' w'=>WSt p gS gW cS cW n wz w s l X a' w'∧muS n a' w'<muS n ⟨#[qa,.string s,qc,qd,qe,qf,.pointer (some ⟨p,0,none⟩),.int .i64 (atN l.length pos),qg,qh,qi,qj,qk,ql,.int .i64 k,qm,qn,qo,qp,qq,qr,qs,qt,qu,qv,qw,qx,qy,qz,qA,qB,qC,qD,qE,qF,qG,qH,qI,qJ,qK,qL,qM,qN,qO,qP,qQ,qR,qS,qT,qU,qV,qW,qX,qY,qZ,q0,q1,q2,q3,q4,q5,q6,q7,q8,q9,za,zb,zc,zd,ze,zf,zg,zh,zi,zj,zk,zl,zm,zn,zo,zp,zq,zr,zs,zt,zu,zv,zw,zx,zy,zz,zA,zB,zC,zD,zE,zF,zG,zH,zI,zJ,zK,zL,zM,zN,zO,zP,zQ,zR,zS,zT,zU,zV,zW,zX,zY,zZ,z5,z6,z7,z8,z9,ya,yb,yc,yd,ye,yf,yg,yh,yi,yj,yk,yl,ym,yn,yo,yp,yq,yr,ys,yt,yu,yv,yw,yx,yy,yz,yA,yB,yC,yD,yE,yF,yG,yH,yI,yJ,yK,yL,yM,yN,yO,yP,yQ,yR,yS,yT,yU,yV,yW,yX,yY,yZ,y5,y6,y7,y8,y9,va,vb,vc,vd,ve,vf,vg,vh,vi,vj,vk,vl,vm,vn,vo,vp,vq,vr,vs,vt,vu,vv,vx,vy,vz,vA,vB,vC,vD,vE,vF,vG,vH,vI,vJ,vK,vL,vM,vN,vO,vP,vQ,vR,vS,vT,vU,vV,vW,vX,vY,vZ,v0,v1,v3,v4,v5,v6,v7,v8,v9,ja,jb,jc,jd,je,jf,jg,jh,ji,jj,jk,jl,jm,jn,jo,jp,jq,jr,js,jt,ju,jv,jw,jx,jy,jz,jA,jB,jC,jD,jE,jF,jG,jH,jI,jJ,jK,jL,jM,jN,jO,jP,jQ,jR,jS,jT,jU,jV,jW,jX],[]⟩ wr) Q0) ⟨#[qa,.string s,qc,qd,qe,qf,.pointer (some ⟨p,0,none⟩),.int .i64 (atN l.length pos),qg,qh,qi,qj,qk,ql,.int .i64 k,qm,qn,qo,qp,qq,qr,qs,qt,qu,qv,qw,qx,qy,qz,qA,qB,qC,qD,qE,qF,qG,qH,qI,qJ,qK,qL,qM,qN,qO,qP,qQ,qR,qS,qT,qU,qV,qW,qX,qY,qZ,q0,q1,q2,q3,q4,q5,q6,q7,q8,q9,za,zb,zc,zd,ze,zf,zg,zh,zi,zj,zk,zl,zm,zn,zo,zp,zq,zr,zs,zt,zu,zv,zw,zx,zy,zz,zA,zB,zC,zD,zE,zF,zG,zH,zI,zJ,zK,zL,zM,zN,zO,zP,zQ,zR,zS,zT,zU,zV,zW,zX,zY,zZ,z5,z6,z7,z8,z9,ya,yb,yc,yd,ye,yf,yg,yh,yi,yj,yk,yl,ym,yn,yo,yp,yq,yr,ys,yt,yu,yv,yw,yx,yy,yz,yA,yB,yC,yD,yE,yF,yG,yH,yI,yJ,yK,yL,yM,yN,yO,yP,yQ,yR,yS,yT,yU,yV,yW,yX,yY,yZ,y5,y6,y7,y8,y9,va,vb,vc,vd,ve,vf,vg,vh,vi,vj,vk,vl,vm,vn,vo,vp,vq,vr,vs,vt,vu,vv,vx,vy,vz,vA,vB,vC,vD,vE,vF,vG,vH,vI,vJ,vK,vL,vM,vN,vO,vP,vQ,vR,vS,vT,vU,vV,vW,vX,vY,vZ,v0,v1,v3,v4,v5,v6,v7,v8,v9,ja,jb,jc,jd,je,jf,jg,jh,ji,jj,jk,jl,jm,jn,jo,jp,jq,jr,js,jt,ju,jv,jw,jx,jy,jz,jA,jB,jC,jD,jE,jF,jG,jH,jI,jJ,jK,jL,jM,jN,jO,jP,jQ,jR,jS,jT,jU,jV,jW,jX],[]⟩ wr:=by
 conv=>arg 2;whnf
 have hok:=hctx.ok
 have hlen:=hctx.len
 have HXX:=hide hctx.hX
 have hssz:=hctx.str.size
 have hsh:=hctx.str.short
 have HNum:Hid (∀ (k:Nat) wx,Calls Tryz.prog 91 #[.string s,.int .i64 (atN l.length k)] wx fun e w'=>e=.returned (.tuple #[.int .i64 (l.getD k 0),.int .i64 (atN l.length (k+1))])∧w'=wx):=fun k wx=>refNumber_calls hctx.str k (by omega) wx
 have HWc:=hide hctx.wz
 have HFits:=hide hctx.str.fits
 have HRet:=hide hret
 obtain ⟨hs1,hs8,hw1,hw6⟩:=valid_counts hok
 clear hctx hret
 have p0:=hr.parts
 obtain ⟨W0,rfl⟩:∃ W0,W0=wr:=⟨_,rfl⟩
 have hposl:=hr.pos
 have hbel:=hr.below
 obtain ⟨L,R,hL,hra,hfo,hco,hhf,hin,hpx⟩:=hr.ex
 obtain ⟨rfl,rfl,rfl,rfl,rfl⟩:=id hL
 have hk0:(0:Int)≤(k:Int):=by omega
 have hk1:(k:Int)<(n.streams.length:Int):=by omega
 have c0:=hra.sc hlt 0 _ (by decide) rfl
 have c1:=hra.sc hlt 1 _ (by decide) rfl
 have c2:=hra.sc hlt 2 _ (by decide) rfl
 have c3:=hra.sc hlt 3 _ (by decide) rfl
 have c4:=hra.sc hlt 4 _ (by decide) rfl
 rw [Nat.add_zero] at c0
 obtain ⟨av,cv,hvw⟩:=own_slice (hra.words k hlt)
 have HX0:=hide (XLd.start hra hlt)
 rw [hvw] at c2 HX0
 have HNo:Hid (getS (srcd n k) (used n k) (R.s k) (l.drop pos)=none→∀ wx,RLoadOut wz (fun b=>b<w.heap.size) n l rs none 3 wx):=fun hg wx=>by
  have e:=hpx
  rw [parseS_at hlt,hg] at e
  refine ⟨fun e'=>(by rw [hok] at e';cases e'),fun _ _=>⟨rfl,rfl⟩,fun _ R' e'=>?_⟩
  rw [loadR_read', ← HXX.out, ← e] at e'
  cases e'
 have HNx:Hid (∀ {xb:Nat} {vw:Value} {ws:List Int} {rdn ron pos':Nat} {wr:World},XLd L W0 n k xb vw ws rdn ron wr→getS (srcd n k) (used n k) (R.s k) (l.drop pos)=some (⟨ws,rdn,ron⟩,l.drop pos')→pos'≤l.length→∀ q,RAtS L.p L.gS L.gW L.cS L.cW w.heap.size wz w n l X (k+1) pos' ((putS wr L.gS k (.bool (srcd n k)) (.bool (used n k)) vw (.int .i64 rdn) (.int .i64 ron)).drewN q)):=fun h1 h2 h3 q=>h1.next hra hlt hL hfo hco hhf hin hpx hbel HWc.out HWc.out.size hbel.size HFits.out h2 h3 q
 have HBx:Hid (∀ {xb:Nat} {vw:Value} {ws:List Int} {rd ro:Int} {wr:World},XLd L W0 n k xb vw ws rd ro wr→Below w.heap.size w wr):=fun h1=>hbel.trans ⟨h1.fr.os,h1.fr.tape,h1.fr.output,h1.fr.size,fun b hb=>h1.fr.block b (by have:=hbel.size;omega) (fun e=>by have:=hfo b (Or.inr (Or.inr (Or.inr ⟨k,hlt,e⟩)));omega)⟩
 have HGc:Hid (∀ {xb:Nat} {vw:Value} {ws:List Int} {rd ro:Int} {wr:World},XLd L W0 n k xb vw ws rd ro wr→wr.cell? ⟨L.p,0,none⟩=some (.slice (some ⟨L.gS,0,none⟩) n.streams.length L.cS)∧(∀ j,j<5→∃ u,wr.cell? ⟨L.gS,k*5+j,none⟩=some u∧wr.frozen? ⟨L.gS,k*5+j,none⟩=false)∧L.gS≠xb∧L.gS≠L.p∧xb≠L.p):=fun h1=>h1.gcells hra hlt
 have HNm:=hide (HNum.out pos)
 have HIn:=hide (hin k (Nat.le_refl _) hlt)
 clear hr hra hL hfo hco hhf hin hpx hbel hvw
 have hw0:(R.s k).words=[]:=by rw [HIn.out,init0_s k hlt,hsr];rfl
 have hrd0:(R.s k).read=0:=by rw [HIn.out,init0_s k hlt]
 rw [hsr] at c0 HX0 HNo HNx
 rw [hw0] at c2 HX0
 rw [hrd0] at c3 HX0
 have c2:W0.cell? ⟨L.gS,k*5+2,none⟩=some (.slice av 0 cv):=c2
 have c3:W0.cell? ⟨L.gS,k*5+3,none⟩=some (.int .i64 0):=c3
 have HX0:Hid (XLd L W0 n k W0.heap.size (.slice av 0 cv) [] 0 (R.s k).room (W0.alloc (.cells #[.bool false,.bool (used n k),.slice av 0 cv,.int .i64 0,.int .i64 (R.s k).room] 88))):=HX0
 clear HNm HIn hw0 hrd0
 obtain ⟨f,hf⟩:∃ f:Nat→Int,f=fun i=>l.getD (pos+i) 0:=⟨_,rfl⟩
 have HNf:Hid (∀ (i:Nat) wx,Calls Tryz.prog 91 #[.string s,.int .i64 (atN l.length (pos+i))] wx fun e w'=>e=.returned (.tuple #[.int .i64 (f i),.int .i64 (atN l.length (pos+(i+1)))])∧w'=wx):=fun i wx=>by
  rw [hf];exact HNum.out (pos+i) wx
 have HFF:Hid (∀ i,f i=l.getD (pos+i) 0):=fun i=>by rw [hf]
 have HAt:Hid (atN l.length pos=atN l.length (pos+0)):=rfl
 obtain ⟨⟨x0,x1,x2,x3,x4⟩, -⟩:=HX0.out.cells
 have HX1:=hide (HX0.out.three f)
 have hszx:(W0.alloc (.cells #[.bool false,.bool (used n k),.slice av 0 cv,.int .i64 0,.int .i64 (R.s k).room] 88)).heap.size=W0.heap.size+1:=by simp
 rw [hszx] at HX1
 clear HX0 hf hszx
 generalize hrm:(R.s k).room=rm at *
 go_upto_region 36 with fail
 clear c0 c1 c2 c3 c4 x0 x1 x2 x3 x4 p0
 generalize (W0.alloc (.cells #[.bool false,.bool (used n k),.slice av 0 cv,.int .i64 0,.int .i64 rm] 88)).alloc (.cells #[.int .i64 0,.int .i64 0,.int .i64 0] 150)=wA at *
 generalize W0.heap.size+1=tb at *
 generalize W0.heap.size=xb at *
 go_wp2
 go_loopw [7,20] (fun at_ i wq=>∃ j:Nat,j≤3∧at_=.int .i64 (atN l.length (pos+j))∧i=.int .i64 j∧Ld3 L W0 n k xb tb (.slice av 0 cv) [] 0 rm f j wq) (fun _ i _=>3-(intOf i).toNat)
 case atStart=>exact ⟨0,Nat.zero_le _,by rw [HAt.out],rfl,HX1.out⟩
 case round=>
  clear HX1
  obtain ⟨j,hj,rfl,rfl,hld⟩:=hrel
  by_cases hj3:j<3
  ·have HNj:=hide (HNf.out j)
   obtain ⟨c3,c4⟩:=hld.cell j hj3
   have HL1:=hide hld.set
   have hj0:(0:Int)≤(j:Int):=by omega
   have hj1:(j:Int)<3:=by omega
   clear hld HNf HAt
   generalize f j=fj at *
   generalize atN l.length (pos+j)=a0 at *
   generalize ha1:atN l.length (pos+(j+1))=a1 at *
   have HA1:=hide ha1
   clear ha1
   go_wp2_with fail
   refine (unhide HNj _).mono ?_
   rintro e w2 ⟨rfl,rfl⟩
   go_wp2
   go_roundw
   case rel=>exact ⟨j+1,by omega,by rw [HA1.out],by go_num,HL1.out⟩
   case measure=>simp [intOf];omega
  ·have hj3':j=3:=by omega
   subst hj3'
   obtain ⟨c0, -⟩:=hld.cell 0 (by decide)
   obtain ⟨c1, -⟩:=hld.cell 1 (by decide)
   obtain ⟨c2, -⟩:=hld.cell 2 (by decide)
   simp only [Nat.reduceLT,if_true] at c0 c1 c2
   obtain ⟨⟨x0,x1,x2,x3,x4⟩, -,xf3,xf4⟩:=hld.x.cells
   have nt:=hld.ne
   have HX2:=hide ((hld.x.room (f 0)).read (f 1))
   clear hld HNf HAt
   go_upto_region 45 with fail
   generalize (wr.setCell ⟨xb,4,none⟩ (.int .i64 (f 0))).setCell ⟨xb,3,none⟩ (.int .i64 (f 1))=w3 at *
   clear c0 c1 c2 x0 x1 x2 x3 x4 xf3 xf4
   obtain ⟨⟨x0,x1,x2,x3,x4⟩, -⟩:=HX2.out.cells
   have HB3:=hide (HBx.out HX2.out)
   have HBad:Hid ((pos+3≤l.length→0≤f 2→f 2+(pos+3)≤l.length→0≤f 1→f 1≤f 2→(rm:Int)≤f 0→f 0≤40→(used n k=false→f 0=rm∧f 1=0)→¬ (used n k=true→f 2-f 1≤f 0))→∀ wx,RLoadOut wz (fun b=>b<w.heap.size) n l rs none 3 wx):=fun h'=>HNo.out (getS_un_none HFF.out (by rw [hrm];exact h'))
   have HGood:Hid (∀ a b c:Nat,f 0=a→f 1=b→f 2=c→pos+3≤l.length→c+(pos+3)≤l.length→b≤c→rm≤a→a≤40→(used n k=false→a=rm∧b=0)→(used n k=true→c≤b+a)→getS false (used n k) (R.s k) (l.drop pos)=some (⟨(l.drop (pos+3)).take c,b,a⟩,l.drop (pos+3+c))):=fun a b c e0 e1 e2 g0 g1 g2 g3 g4 g5 g6=>getS_un HFF.out g0 e0 e1 e2 g1 g2 (by rw [hrm];exact g3) g4 (by rw [hrm];exact g5) g6
   have HNa:Hid (∀ (i:Nat) wx,pos+3+i<l.length→Calls Tryz.prog 91 #[.string s,.int .i64 (atN l.length (pos+3+i))] wx fun e w'=>e=.returned (.tuple #[.int .i64 ((l.drop (pos+3)).getD i 0),.int .i64 (atN l.length (pos+3+(i+1)))])∧w'=wx):=fun i wx hi=>by
    have:=HNum.out (pos+3+i) wx
    have e:(l.drop (pos+3)).getD i 0=l.getD (pos+3+i) 0:=by simp [List.getD,List.getElem?_drop]
    rw [e];exact this
   have hpl:pos≤l.length:=hposl
   rw [hsr] at x0
   clear HNo HFF HNum
   generalize f 0=fa at *
   generalize f 1=fb at *
   generalize f 2=fc at *
   by_cases hA:pos+3≤l.length
   ·have hat:atN l.length (pos+3)=8*((pos+3:Nat):Int):=by unfold atN;rw [if_pos hA]
    obtain ⟨rem,hrem⟩:∃ rem:Nat,rem=l.length-(pos+3):=⟨_,rfl⟩
    have hwq:wrap64 ((s.size:Int)-atN l.length (pos+3))=(s.size:Int)-atN l.length (pos+3):=by rw [hat];unfold wrap64;omega
    have hquo:((s.size:Int)-atN l.length (pos+3)) / 8=rem:=by rw [hat];omega
    have hqt:((s.size:Int)-atN l.length (pos+3)).tdiv 8=rem:=by rw [hat,Int.tdiv_eq_ediv_of_nonneg (by omega)];omega
    obtain ⟨a0,ha0⟩:∃ a0,a0=atN l.length (pos+3):=⟨_,rfl⟩
    have ha1:0≤a0:=by rw [ha0,hat];omega
    have HA0:=hide ha0
    rw [← ha0] at hwq hquo hqt ⊢
    have hd0:decide (a0<0)=false:=by simp;omega
    clear ha0 hat
    by_cases h1:fc<0
    ·have HO:=hide (HBad.out fun _ h'=>absurd h' (by omega))
     have hd1:decide (fc<0)=true:=by simpa using h1
     clear HBad HGood HNx HBx HGc HA0 HX2 HNa
     go_wp2
     exact HRet.out _ _ ⟨rfl,rfl,rfl,rfl,HO.out _,HB3.out⟩
    have hd1:decide (fc<0)=false:=by simpa using h1
    by_cases h2:(rem:Int)<fc
    ·have HO:=hide (HBad.out fun _ _ h'=>absurd h' (by omega))
     have hd2:decide ((rem:Int)<fc)=true:=by simpa using h2
     clear HBad HGood HNx HBx HGc HA0 HX2 HNa
     go_wp2
     exact HRet.out _ _ ⟨rfl,rfl,rfl,rfl,HO.out _,HB3.out⟩
    have hd2:decide ((rem:Int)<fc)=false:=by simpa using h2
    by_cases h3:fb<0
    ·have HO:=hide (HBad.out fun _ _ _ h'=>absurd h' (by omega))
     have hd3:decide (fb<0)=true:=by simpa using h3
     clear HBad HGood HNx HBx HGc HA0 HX2 HNa
     go_wp2
     exact HRet.out _ _ ⟨rfl,rfl,rfl,rfl,HO.out _,HB3.out⟩
    have hd3:decide (fb<0)=false:=by simpa using h3
    by_cases h4:fc<fb
    ·have HO:=hide (HBad.out fun _ _ _ _ h'=>absurd h' (by omega))
     have hd4:decide (fc<fb)=true:=by simpa using h4
     clear HBad HGood HNx HBx HGc HA0 HX2 HNa
     go_wp2
     exact HRet.out _ _ ⟨rfl,rfl,rfl,rfl,HO.out _,HB3.out⟩
    have hd4:decide (fc<fb)=false:=by simpa using h4
    by_cases h5:fa<(rm:Int)
    ·have HO:=hide (HBad.out fun _ _ _ _ _ h'=>absurd h' (by omega))
     have hd5:decide (fa<(rm:Int))=true:=by simpa using h5
     clear HBad HGood HNx HBx HGc HA0 HX2 HNa
     go_wp2
     exact HRet.out _ _ ⟨rfl,rfl,rfl,rfl,HO.out _,HB3.out⟩
    have hd5:decide (fa<(rm:Int))=false:=by simpa using h5
    by_cases h6:40<fa
    ·have HO:=hide (HBad.out fun _ _ _ _ _ _ h'=>absurd h' (by omega))
     have hd6:decide (40<fa)=true:=by simpa using h6
     clear HBad HGood HNx HBx HGc HA0 HX2 HNa
     go_wp2
     exact HRet.out _ _ ⟨rfl,rfl,rfl,rfl,HO.out _,HB3.out⟩
    have hd6:decide (40<fa)=false:=by simpa using h6
    obtain ⟨an,rfl⟩:∃ an:Nat,fa=an:=⟨fa.toNat,by omega⟩
    obtain ⟨bn,rfl⟩:∃ bn:Nat,fb=bn:=⟨fb.toNat,by omega⟩
    obtain ⟨cn,rfl⟩:∃ cn:Nat,fc=cn:=⟨fc.toNat,by omega⟩
    have hwd:wrap64 ((cn:Int)-(bn:Int))=(cn:Int)-bn:=by unfold wrap64;omega
    have HLast:Hid ((used n k=false→an=rm∧bn=0)→(used n k=true→cn≤bn+an)→getS false (used n k) (R.s k) (l.drop pos)=some (⟨(l.drop (pos+3)).take cn,bn,an⟩,l.drop (pos+3+cn))):=fun g1 g2=>HGood.out an bn cn rfl rfl rfl hA (by omega) (by omega) (by omega) (by omega) g1 g2
    have hcl:cn+(pos+3)≤l.length:=by omega
    go_upto_region 47 with fail
    have hcase:(used n k=false∧(an:Int)=rm∧(bn:Int)=0)∨(used n k=true∧¬ (an:Int)<(cn:Int)-bn)∨(used n k=false∧(an:Int)=rm∧¬ (bn:Int)=0)∨(used n k=false∧¬ (an:Int)=rm)∨(used n k=true∧(an:Int)<(cn:Int)-bn):=by
     cases used n k<;>simp<;>omega
    rcases hcase with ⟨hu,h7,h8⟩ | ⟨hu,h7⟩ | ⟨hu,h7,h8⟩ | ⟨hu,h7⟩ | ⟨hu,h7⟩
    rotate_left
    rotate_left
    ·have HO:=hide (HBad.out fun _ _ _ _ _ _ _ h'=>absurd (h' hu).2 h8)
     rw [hu] at x1
     clear HBad HGood HNx HBx HGc HA0 HX2 HNa HLast
     go_wp2
     exact HRet.out _ _ ⟨rfl,rfl,rfl,rfl,HO.out _,HB3.out⟩
    ·have HO:=hide (HBad.out fun _ _ _ _ _ _ _ h'=>absurd (h' hu).1 h7)
     rw [hu] at x1
     clear HBad HGood HNx HBx HGc HA0 HX2 HNa HLast
     go_wp2
     exact HRet.out _ _ ⟨rfl,rfl,rfl,rfl,HO.out _,HB3.out⟩
    ·have HO:=hide (HBad.out fun _ _ _ _ _ _ _ _ h'=>absurd (h' hu) (by omega))
     have hd7:decide ((an:Int)<(cn:Int)-bn)=true:=by simpa using h7
     rw [hu] at x1
     clear HBad HGood HNx HBx HGc HA0 HX2 HNa HLast
     go_wp2
     exact HRet.out _ _ ⟨rfl,rfl,rfl,rfl,HO.out _,HB3.out⟩
    all_goals
     first
     |have HLs:=hide (HLast.out (fun _=>⟨by omega,by omega⟩) (fun e=>by rw [hu] at e;cases e))
      rw [hu] at x1
      clear HBad HGood HLast HB3
      go_upto_region 49 with fail
      clear h7 h8
     |have HLs:=hide (HLast.out (fun e=>by rw [hu] at e;cases e) (fun _=>by omega))
      have hd7:decide ((an:Int)<(cn:Int)-bn)=false:=by simpa using h7
      rw [hu] at x1
      clear HBad HGood HLast HB3
      go_upto_region 49 with fail
      clear h7 hd7
     clear hu x0 x1 x2 x3 x4 hd0 hd1 hd2 hd3 hd4 hd5 hd6 h1 h2 h3 h4 h5 h6 hwq hquo hqt hwd ha1 hrm
     rw [HA0.out]
     clear HA0
     obtain ⟨iI,hiI,hI0,hI1,hI2⟩:=info_parts Tryz.info3
     go_wp2
     go_loopw [7,24] (fun at_ i wq=>∃ (j:Nat) (vw:Value),j≤cn∧at_=.int .i64 (atN l.length (pos+3+j))∧i=.int .i64 j∧XLd L W0 n k xb vw ((l.drop (pos+3)).take j) bn an wq) (fun _ i _=>cn-(intOf i).toNat)
     case atStart=>exact ⟨0,_,Nat.zero_le _,rfl,rfl,HX2.out⟩
     case round=>
      clear HX2
      obtain ⟨j,vw,hj,rfl,rfl,hld⟩:=hrel
      by_cases hjc:j<cn
      ·have HNj:=hide (HNa.out j wr (by omega))
       obtain ⟨⟨x0,x1,x2,x3,x4⟩,xf2, -⟩:=hld.cells
       obtain ⟨v2,vc2,hv2⟩:=own_slice hld.own
       have hlj:((l.drop (pos+3)).take j).length=j:=by rw [List.length_take,List.length_drop];omega
       rw [hlj] at hv2
       have HO:=hide hld.own
       rw [hlj] at HO
       have HTk:Hid ((l.drop (pos+3)).take (j+1)=(l.drop (pos+3)).take j++[(l.drop (pos+3)).getD j 0]):=by
        have h':j<(l.drop (pos+3)).length:=by rw [List.length_drop];omega
        unfold Hid
        rw [List.take_succ_eq_append_getElem h',getD_eq _ _ _ h']
       have HWo:Hid (∀ {o:Obj} {g cap:Nat} {w2:World},w2.ownsRow 0 3 1 (.slice (some ⟨g,0,none⟩) (j+1) cap) (j+1) (intRow ((l.drop (pos+3)).take j)++[.int .i64 ((l.drop (pos+3)).getD j 0)])→(wr.alloc o).grownBy w2 vw.ownBlock→(vw.ownBlock=some g∨g=wr.heap.size+1)→(w2.cell? ⟨xb,2,none⟩=some vw∧w2.frozen? ⟨xb,2,none⟩=false)∧XLd L W0 n k xb (.slice (some ⟨g,0,none⟩) (j+1) cap) ((l.drop (pos+3)).take (j+1)) bn an (w2.setCell ⟨xb,2,none⟩ (.slice (some ⟨g,0,none⟩) (j+1) cap))):=fun {o g cap w2} h1 h2 h3=>by
        rw [HTk.out]
        have:=hld.word (x:=(l.drop (pos+3)).getD j 0) (o:=o) (g:=g) (cap:=cap) (w2:=w2) (by rw [hlj];exact h1) h2 h3
        rw [hlj] at this
        exact this
       have hj0:(0:Int)≤(j:Int):=by omega
       have hj1:(j:Int)<(cn:Int):=by omega
       have h63:j+1≤maxLen:=by unfold maxLen;omega
       have hbytes:(j+1)*8≤140737488355328:=by omega
       have hxl:=lt_of_cell x2
       clear hld hlj HNa HNx HBx HGc HLs x0 x1 x3 x4 HTk
       subst hv2
       generalize (l.drop (pos+3)).getD j 0=xj at *
       generalize hrow:intRow ((l.drop (pos+3)).take j)=row at *
       clear hrow
       generalize atN l.length (pos+3+j)=a0 at *
       generalize ha1:atN l.length (pos+3+(j+1))=a1 at *
       have HA1:=hide ha1
       clear ha1
       go_wp2_with fail
       refine (unhide HNj).mono ?_
       rintro e w2 ⟨rfl,rfl⟩
       go_wp2_with (at_builtin;refine wpList_append_lies _ rfl (.tmp 272) (.tmp 274) 22 rfl 0 3 iI (.int .i64 0) 1 8 Tryz.underlying22 hiI hI0 hI1 hI2 rfl (by decide) (.slice v2 j vc2) j row rfl (HO.out.alloc _) ⟨w2.heap.size,0,none⟩ 1 1 [.int .i64 xj] rfl rfl ?c1 ?c2 (by decide) h63 hbytes (Nat.zero_le _) (w2.heap.size+1) (by simp) ?_)
       case c1=>exact cell_one_new _ _ _
       case c2=>intro u hu;simp at hu;subst hu;rfl
       intro g gcap w4 hown hgrow hor hglt
       obtain ⟨⟨z2,zf2⟩,hx4⟩:=HWo.out hown hgrow hor
       have HX4:=hide hx4
       clear hx4 hown hgrow hor HWo HO
       go_wp2
       go_roundw
       case rel=>exact ⟨j+1,_,by omega,by rw [HA1.out],by go_num,HX4.out⟩
       case measure=>simp [intOf];omega
      ·have hjl:j=cn:=by omega
       subst hjl
       have HO:=hide (HNx.out hld HLs.out (by omega))
       obtain ⟨⟨x0,x1,x2,x3,x4⟩, -⟩:=hld.cells
       obtain ⟨v2,vc2,hv2⟩:=own_slice hld.own
       obtain ⟨y0,y1,y2,y3,y4⟩:=HGc.out hld
       obtain ⟨qa,z0,zf0⟩:=y1 0 (by decide)
       obtain ⟨qb,z1,zf1⟩:=y1 1 (by decide)
       obtain ⟨qc,z2,zf2⟩:=y1 2 (by decide)
       obtain ⟨qd,z3,zf3⟩:=y1 3 (by decide)
       obtain ⟨qe,z4,zf4⟩:=y1 4 (by decide)
       rw [Nat.add_zero] at z0 zf0
       rw [hsr] at x0
       subst hv2
       have hjj:¬ (j:Int)<(j:Int):=by omega
       clear hld HNa HNx HBx HGc HLs y1 hsr
       generalize ((l.drop (pos+3)).take j).length=wl at *
       generalize hpp:atN l.length (pos+3+j)=a0 at *
       have HPP:=hide hpp
       clear hpp
       go_wp2
       go_region_held3 (fun w'=>w'.cell? ⟨L.p,0,none⟩=some (.slice (some ⟨L.gS,0,none⟩) n.streams.length L.cS)∧w'.cell? ⟨xb,0,none⟩=some (.bool false)∧w'.cell? ⟨xb,1,none⟩=some (.bool (used n k))∧w'.cell? ⟨xb,2,none⟩=some (.slice v2 wl vc2)∧w'.cell? ⟨xb,3,none⟩=some (.int .i64 bn)∧w'.cell? ⟨xb,4,none⟩=some (.int .i64 an)) (go_keep) (fail)
       go_wp2
       refine ⟨⟨rfl,rfl,rfl,rfl,k+1,pos+3+j,by omega,?_,?_,HO.out 1⟩,?_⟩
       ·show Value.int .i64 _=_
        rw [HPP.out]
       ·show Value.int .i64 _=_
        go_num
       ·show n.streams.length-(intOf (Value.int .i64 _)).toNat<n.streams.length-(intOf (Value.int .i64 _)).toNat
        simp [intOf];omega
   ·have hat:atN l.length (pos+3) = -1:=by unfold atN;rw [if_neg hA]
    have HO:=hide (HBad.out fun h'=>absurd h' hA)
    rw [hat]
    clear HBad HGood HNx HBx HGc hat HX2 HNa
    go_wp2
    exact HRet.out _ _ ⟨rfl,rfl,rfl,rfl,HO.out _,HB3.out⟩
end Go.Proofs.YthfdgdfnflilfaaGreatDoor

/- Part 27: RefLA, RefLB, RefLC, LoadF, LoadG. -/
import Derived.WalkLawsBesides
import Derived.Test.YthfdgdfnflilfaaGreatDoorPart26
namespace Go.Proofs.YthfdgdfnflilfaaGreatDoor
open Go.RowKit Go.Conc
set_option maxRecDepth 1000000 in
set_option maxHeartbeats 16000000 in
theorem loadW_one {n:Net} {wz w:World} {s:ByteArray} {l rs:List Int} {X:Option (Rc×List Int)} {p gS gW cS cW:Nat} {Q0:Exit→Act→World→Prop} (hctx:LoadCtx n wz w s l rs X) (hret:∀ a w',RetNo n wz w l rs a w'→Q0 .ret a w') {k pos:Nat} {wr:World} (hr:RAtW p gS gW cS cW w.heap.size wz w n l X k pos wr) (hlt:k<n.workers.length) (qa qc qd qe qf qg qh qi qj qk ql qm qn qo qp qq qr qs qt qu qv qw qx qy qz qA qB qC qD qE qF qG qH qI qJ qK qL qM qN qO qP qQ qR qS qT qU qV qW qX qY qZ q0 q1 q2 q3 q4 q5 q6 q7 q8 q9 za zb zc zd ze zf zg zh zi zj zk zl zm zn zo zp zq zr zs zt zu zv zw zx zy zz zA zB zC zD zE zF zG zH zI zJ zK zL zM zN zO zP zQ zR zS zT zU zV zW zX zY zZ z0 z1 z2 z3 z4 z5 z6 z7 z8 z9 ya yb yc yd ye yf yg yh yi yj yk yl ym yn yo yp yq yr ys yt yu yv yw yx yy yz yA yB yC yD yE yF yG yH yI yJ yK yL yM yN yO yP yQ yR yS yT yU yV yW yX yY yZ y0 y4 y5 y6 y7 y8 y9 va vb vc vd ve vf vg vh vi vj vk vl vm vn vo vp vq vr vs vt vu vv vw vx vy vz vA vB vC vD vE vF vG vH vI vJ vK vL vM vN vO vP vQ vR vS vT vU vV vW vX vY vZ v0 v1 v2 v3 v4 v5 v6 v7 v8 v9 ja jb jc jd je jf jg jh ji jk jl jm jn jo jp jq jr js jt ju jv jw jx jy jz jA jB jC jD jE jF jG jH jI jJ jK jL jM jN jO jP:Value) :
  Code.wp Tryz.prog bodyW (Exit.then (fun a' w'=>WWk p gS gW cS cW n wz w s l X a' w'∧muW n a' w'<muW n ⟨#[qa,.string s,qc,qd,qe,qf,.pointer (some ⟨p,0,none⟩),.int .i64 (atN l.length pos),.int .i64 k,qg,qh,qi,qj,qk,ql,qm,qn,qo,qp,qq,qr,qs,qt,qu,qv,qw,qx,qy,qz,qA,qB,qC,qD,qE,qF,qG,qH,qI,qJ,qK,qL,qM,qN,qO,qP,qQ,qR,qS,qT,qU,qV,qW,qX,qY,qZ,q0,q1,q2,q3,q4,q5,q6,q7,q8,q9,za,zb,zc,zd,ze,zf,zg,zh,zi,zj,zk,zl,zm,zn,zo,zp,zq,zr,zs,zt,zu,zv,zw,zx,zy,zz,zA,zB,zC,zD,zE,zF,zG,zH,zI,zJ,zK,zL,zM,zN,zO,zP,zQ,zR,zS,zT,zU,zV,zW,zX,zY,zZ,z0,z1,z2,z3,z4,z5,z6,z7,z8,z9,ya,yb,yc,yd,ye,yf,yg,yh,yi,yj,yk,yl,ym,yn,yo,yp,yq,yr,ys,yt,yu,yv,yw,yx,yy,yz,yA,yB,yC,yD,yE,yF,yG,yH,yI,yJ,yK,yL,yM,yN,yO,yP,yQ,yR,yS,yT,yU,yV,yW,yX,yY,yZ,y0,y4,y5,y6,y7,y8,y9,va,vb,vc,vd,ve,vf,vg,vh,vi,vj,vk,vl,vm,vn,vo,vp,vq,vr,vs,vt,vu,vv,vw,vx,vy,vz,vA,vB,vC,vD,vE,vF,vG,vH,vI,vJ,vK,vL,vM,vN,vO,vP,vQ,vR,vS,vT,vU,vV,vW,vX,vY,vZ,v0,v1,v2,v3,v4,v5,v6,v7,v8,v9,ja,jb,jc,jd,je,jf,jg,jh,ji,jk,jl,jm,jn,jo,jp,jq,jr,js,jt,ju,jv,jw,jx,jy,jz,jA,jB,jC,jD,jE,jF,jG,jH,jI,jJ,jK,jL,jM,jN,jO,jP],[]⟩ wr) Q0) ⟨#[qa,.string s,qc,qd,qe,qf,.pointer (some ⟨p,0,none⟩),.int .i64 (atN l.length pos),.int .i64 k,qg,qh,qi,qj,qk,ql,qm,qn,qo,qp,qq,qr,qs,qt,qu,qv,qw,qx,qy,qz,qA,qB,qC,qD,qE,qF,qG,qH,qI,qJ,qK,qL,qM,qN,qO,qP,qQ,qR,qS,qT,qU,qV,qW,qX,qY,qZ,q0,q1,q2,q3,q4,q5,q6,q7,q8,q9,za,zb,zc,zd,ze,zf,zg,zh,zi,zj,zk,zl,zm,zn,zo,zp,zq,zr,zs,zt,zu,zv,zw,zx,zy,zz,zA,zB,zC,zD,zE,zF,zG,zH,zI,zJ,zK,zL,zM,zN,zO,zP,zQ,zR,zS,zT,zU,zV,zW,zX,zY,zZ,z0,z1,z2,z3,z4,z5,z6,z7,z8,z9,ya,yb,yc,yd,ye,yf,yg,yh,yi,yj,yk,yl,ym,yn,yo,yp,yq,yr,ys,yt,yu,yv,yw,yx,yy,yz,yA,yB,yC,yD,yE,yF,yG,yH,yI,yJ,yK,yL,yM,yN,yO,yP,yQ,yR,yS,yT,yU,yV,yW,yX,yY,yZ,y0,y4,y5,y6,y7,y8,y9,va,vb,vc,vd,ve,vf,vg,vh,vi,vj,vk,vl,vm,vn,vo,vp,vq,vr,vs,vt,vu,vv,vw,vx,vy,vz,vA,vB,vC,vD,vE,vF,vG,vH,vI,vJ,vK,vL,vM,vN,vO,vP,vQ,vR,vS,vT,vU,vV,vW,vX,vY,vZ,v0,v1,v2,v3,v4,v5,v6,v7,v8,v9,ja,jb,jc,jd,je,jf,jg,jh,ji,jk,jl,jm,jn,jo,jp,jq,jr,js,jt,ju,jv,jw,jx,jy,jz,jA,jB,jC,jD,jE,jF,jG,jH,jI,jJ,jK,jL,jM,jN,jO,jP],[]⟩ wr:=by
 conv=>arg 2;whnf
 have hok:=hctx.ok
 have hlen:=hctx.len
 have HXX:=hide hctx.hX
 have hssz:=hctx.str.size
 have hsh:=hctx.str.short
 have HNum:Hid (∀ (k:Nat) wx,Calls Tryz.prog 91 #[.string s,.int .i64 (atN l.length k)] wx fun e w'=>e=.returned (.tuple #[.int .i64 (l.getD k 0),.int .i64 (atN l.length (k+1))])∧w'=wx):=fun k wx=>refNumber_calls hctx.str k (by omega) wx
 have HWc:=hide hctx.wz
 have HFits:=hide hctx.str.fits
 have HRet:=hide hret
 obtain ⟨hs1,hs8,hw1,hw6⟩:=valid_counts hok
 clear hctx hret
 obtain ⟨p0,p1⟩:=hr.parts
 obtain ⟨W0,rfl⟩:∃ W0,W0=wr:=⟨_,rfl⟩
 have hposl:=hr.pos
 have hbel:=hr.below
 obtain ⟨L,R,⟨rfl,rfl,rfl,rfl,rfl⟩,hra,hfo,hco,hhf,his,hpx⟩:=hr.ex
 have hk0:(0:Int)≤(k:Int):=by omega
 have hk1:(k:Int)<(n.workers.length:Int):=by omega
 obtain ⟨f,hf⟩:∃ f:Nat→Int,f=fun i=>l.getD (pos+i) 0:=⟨_,rfl⟩
 have HNm:Hid (∀ (i:Nat) wx,Calls Tryz.prog 91 #[.string s,.int .i64 (atN l.length (pos+i))] wx fun e w'=>e=.returned (.tuple #[.int .i64 (f i),.int .i64 (atN l.length (pos+(i+1)))])∧w'=wx):=fun i wx=>by
  rw [hf];exact HNum.out (pos+i) wx
 have HRA:=hide hra
 have HL0:Hid (LdW L W0 n R k W0.heap.size f 0 0 (W0.alloc (.cells #[.int .i64 0,.int .i64 0,.int .i64 0,.int .i64 0,.int .i64 0,.int .i64 0] 148))):=LdW.start hra
 have HBe:=hide hbel
 have HFo:=hide hfo
 have HCo:=hide hco
 have HHf:=hide hhf
 have HIs:=hide his
 have HPx:=hide hpx
 have HF:=hide hf
 clear hr hra hbel hfo hco hhf his hpx hf HNum
 go_wp2
 generalize W0.heap.size=sb at *
 generalize W0.alloc (.cells #[.int .i64 0,.int .i64 0,.int .i64 0,.int .i64 0,.int .i64 0,.int .i64 0] 148)=wA at *
 have HAt:Hid (atN l.length pos=atN l.length (pos+0)):=rfl
 go_loopw [7,10] (fun at_ i wq=>∃ j:Nat,j≤6∧at_=.int .i64 (atN l.length (pos+j))∧i=.int .i64 j∧LdW L W0 n R k sb f j 0 wq) (fun _ i _=>6-(intOf i).toNat)
 case atStart=>exact ⟨0,Nat.zero_le _,by rw [HAt.out],rfl,HL0.out⟩
 case round=>
  clear HL0
  obtain ⟨j,hj,rfl,rfl,hld⟩:=hrel
  by_cases hj6:j<6
  ·have HNj:=hide (HNm.out j)
   obtain ⟨-, -,c3, -⟩:=hld.cells HRA.out hlt
   obtain ⟨c3,c4⟩:=c3 j hj6
   have HL1:=hide (hld.six_set HRA.out)
   have hj0:(0:Int)≤(j:Int):=by omega
   have hj1:(j:Int)<6:=by omega
   clear hld HNm HAt
   generalize f j=fj at *
   generalize atN l.length (pos+j)=a0 at *
   generalize ha1:atN l.length (pos+(j+1))=a1 at *
   have HA1:=hide ha1
   clear ha1
   go_wp2_with fail
   refine (unhide HNj _).mono ?_
   rintro e w2 ⟨rfl,rfl⟩
   go_wp2
   go_roundw
   case rel=>exact ⟨j+1,by omega,by rw [HA1.out],by go_num,HL1.out⟩
   case measure=>simp [intOf];omega
  ·have hj6':j=6:=by omega
   subst hj6'
   obtain ⟨c1,c2,c3,c5,c6, -⟩:=hld.cells HRA.out hlt
   obtain ⟨c3,c4⟩:=c3 0 (by decide)
   obtain ⟨qb,c7,c8⟩:=c5 1 (by decide)
   simp only [Nat.reduceLT,if_true] at c3
   obtain ⟨n1,n2,n3⟩:=hld.ne HRA.out
   have n1':=n1.symm
   have HL1:Hid (LdW L W0 n R k sb f 6 (1+0) ((wr.setCell ⟨L.gW,k*7+1,none⟩ (.int .i64 (f 0))).drew)):=(hld.put HRA.out hlt (by decide)).drewN 1
   clear hld HNm HAt c4 c5 c6
   have HFF:Hid (∀ i,f i=l.getD (pos+i) 0):=fun i=>by rw [HF.out]
   go_wp2
   go_region_held3 (fun w'=>w'.cell? ⟨L.p,1,none⟩=some (.slice (some ⟨L.gW,0,none⟩) n.workers.length L.cW)∧w'.cell? ⟨sb,0,none⟩=some (.int .i64 (f 0))) (go_keep) (fail)
   go_wp2
   generalize (wr.setCell ⟨L.gW,k*7+1,none⟩ (.int .i64 (f 0))).drew=wC at *
   clear c1 c2 c3 c7 c8
   go_loopw [13] (fun i wq=>∃ j:Nat,j≤4∧i=.int .i64 j∧LdW L W0 n R k sb f 6 (1+j) wq) (fun i _=>4-(intOf i).toNat)
   case atStart=>exact ⟨0,Nat.zero_le _,rfl,HL1.out⟩
   case round=>
    clear HL1
    obtain ⟨j,hj,rfl,hld⟩:=hrel
    by_cases hj4:j<4
    ·obtain ⟨c1,c2,c3,c5, -, -⟩:=hld.cells HRA.out hlt
     obtain ⟨c3, -⟩:=c3 (1+j) (by omega)
     obtain ⟨qb,c7,c8⟩:=c5 (2+j) (by omega)
     rw [if_pos (by omega)] at c3
     rw [← Nat.add_assoc] at c7 c8
     have HL1:Hid (LdW L W0 n R k sb f 6 (1+(j+1)) ((wr.setCell ⟨L.gW,k*7+2+j,none⟩ (.int .i64 (f (1+j)))).drew)):=by
      have:=(hld.put HRA.out hlt (by omega)).drewN 1
      rw [show k*7+(1+j+1)=k*7+2+j by omega,show 1+j+1=1+(j+1) by omega] at this
      exact this
     have hj0:(0:Int)≤(j:Int):=by omega
     have hj1:(j:Int)<4:=by omega
     obtain ⟨jj,hjj⟩:∃ jj,jj=1+j:=⟨_,rfl⟩
     rw [← hjj] at c3
     have hwj:IntKind.i64.wrap (1+(j:Int))=(jj:Int):=by rw [IntKind.wrap_i64];omega
     have hj2:(jj:Int)<6:=by omega
     have hj3:(0:Int)≤(jj:Int):=by omega
     rw [← hjj] at HL1
     clear hld c5 hjj
     generalize f jj=fj at *
     go_wp2
     go_region_held3 (fun w'=>w'.cell? ⟨L.p,1,none⟩=some (.slice (some ⟨L.gW,0,none⟩) n.workers.length L.cW)∧w'.cell? ⟨sb,jj,none⟩=some (.int .i64 fj)) (go_keep) (fail)
     go_wp2
     go_roundw
     case rel=>exact ⟨j+1,by omega,by go_num,HL1.out⟩
     case measure=>simp [intOf];omega
    ·have hj4':j=4:=by omega
     subst hj4'
     obtain ⟨c1,c2,c3,c5, -, -⟩:=hld.cells HRA.out hlt
     obtain ⟨c3, -⟩:=c3 5 (by decide)
     obtain ⟨qb,c7,c8⟩:=c5 6 (by decide)
     simp only [Nat.reduceLT,if_true] at c3
     have HL2:Hid (LdW L W0 n R k sb f 6 6 ((wr.setCell ⟨L.gW,k*7+6,none⟩ (.int .i64 (f 5))).drew)):=(hld.put HRA.out hlt (by decide)).drewN 1
     clear hld c5
     go_wp2
     go_region_held3 (fun w'=>w'.cell? ⟨L.p,1,none⟩=some (.slice (some ⟨L.gW,0,none⟩) n.workers.length L.cW)∧w'.cell? ⟨sb,5,none⟩=some (.int .i64 (f 5))) (go_keep) (fail)
     go_wp2
     generalize (wr.setCell ⟨L.gW,k*7+6,none⟩ (.int .i64 (f 5))).drew=wD at *
     clear c1 c2 c3 c7 c8
     obtain ⟨c1,c2, -, -,c6,c9⟩:=HL2.out.cells HRA.out hlt
     have c9:=c9 (by decide)
     obtain ⟨ac,cc,hvc⟩:=(HCo.out k hlt).form
     rw [hvc] at c6
     have HVC:=hide hvc
     have HBD:Hid (Below w.heap.size w wD):=HBe.out.trans ⟨HL2.out.fr.os,HL2.out.fr.tape,HL2.out.fr.output,HL2.out.fr.size,fun b hb=>HL2.out.fr.block b (by have:=HBe.out.size;omega) (fun e=>by have:=HFo.out L.gW (Or.inr (Or.inr (Or.inl rfl)));omega)⟩
     have HFF:Hid (∀ i,f i=l.getD (pos+i) 0):=fun i=>by rw [HF.out]
     have HNo:Hid (getW (codeOf n k).length (l.drop pos)=none→∀ wx,RLoadOut wz (fun b=>b<w.heap.size) n l rs none 3 wx):=fun hg wx=>by
      have e:=HPx.out
      rw [parseW_at hlt,hg] at e
      refine ⟨fun e'=>(by rw [hok] at e';cases e'),fun _ _=>⟨rfl,rfl⟩,fun _ R' e'=>?_⟩
      rw [loadR_read', ← HXX.out, ← e] at e'
      cases e'
     have HYes:Hid (pos+6≤l.length→0≤f 0→f 0≤(codeOf n k).length→∀ q,RAtW L.p L.gS L.gW L.cS L.cW w.heap.size wz w n l X (k+1) (pos+6) (wD.drewN q)):=fun g1 g2 g3 q=>by
      obtain ⟨y,y1,y2,y3⟩:=getW_drop HFF.out g1 g2 g3
      have hbq:=below_drewN HBD.out q
      have e:=HPx.out
      rw [parseW_at hlt,y1] at e
      refine ⟨⟨L,_,⟨rfl,rfl,rfl,rfl,rfl⟩,(HL2.out.drewN q).done HRA.out hlt (fun a ha=>(HCo.out a ha).below (HWc.out.trans (hbq.mono HWc.out.size))) y3 y2,HFo.out,HCo.out,HHf.out.setW hlt ((getW_some y1).2.2 fun x hx=>HFits.out x (List.mem_of_mem_drop hx)),HIs.out,e⟩,g1,hbq⟩
     clear hvc
     by_cases hA:pos+6≤l.length
     ·have hat:atN l.length (pos+6)=8*((pos+6:Nat):Int):=by unfold atN;rw [if_pos hA]
      obtain ⟨a0,ha0⟩:∃ a0,a0=atN l.length (pos+6):=⟨_,rfl⟩
      have ha1:0≤a0:=by rw [ha0,hat];omega
      have HA0:=hide ha0
      rw [← ha0]
      have hd0:decide (a0<0)=false:=by simp;omega
      clear ha0 hat
      by_cases hB:f 0<0
      ·have HO:=hide (HNo.out (getW_drop_none HFF.out fun _ h'=>absurd h' (by omega)))
       have hd1:decide (f 0<0)=true:=by simpa using hB
       clear HNo HYes HFF HVC HL2 HA0
       generalize f 0=f0 at *
       generalize (codeOf n k).length=cl at *
       go_quiet (fail)
       go_wp2
       exact HRet.out _ _ ⟨rfl,rfl,rfl,rfl,HO.out _,below_drewN HBD.out _⟩
      ·by_cases hC:((codeOf n k).length:Int)<f 0
       ·have HO:=hide (HNo.out (getW_drop_none HFF.out fun _ _ h'=>absurd h' (by omega)))
        have hd1:decide (f 0<0)=false:=by simpa using hB
        have hd2:decide (((codeOf n k).length:Int)<f 0)=true:=by simpa using hC
        clear HNo HYes HFF HVC HL2 HA0
        generalize f 0=f0 at *
        generalize (codeOf n k).length=cl at *
        go_quiet (fail)
        go_wp2
        exact HRet.out _ _ ⟨rfl,rfl,rfl,rfl,HO.out _,below_drewN HBD.out _⟩
       ·have HO:=hide (HYes.out hA (by omega) (by omega))
        have hd1:decide (f 0<0)=false:=by simpa using hB
        have hd2:decide (((codeOf n k).length:Int)<f 0)=false:=by simpa using hC
        clear HNo HYes HFF HVC HL2
        generalize f 0=f0 at *
        generalize (codeOf n k).length=cl at *
        go_quiet (fail)
        go_wp2
        refine ⟨⟨rfl,rfl,rfl,rfl,k+1,pos+6,by omega,?_,?_,HO.out _⟩,?_⟩
        ·show Value.int .i64 _=_
         rw [HA0.out]
        ·show Value.int .i64 _=_
         go_num
        ·show n.workers.length-(intOf (Value.int .i64 _)).toNat<n.workers.length-(intOf (Value.int .i64 _)).toNat
         simp [intOf];omega
     ·have hat:atN l.length (pos+6) = -1:=by unfold atN;rw [if_neg hA]
      have HO:=hide (HNo.out (getW_drop_none HFF.out fun h'=>absurd h' hA))
      rw [hat]
      clear HNo HYes HFF HVC HL2 hat
      generalize f 0=f0 at *
      generalize (codeOf n k).length=cl at *
      go_quiet (fail)
      go_wp2
      exact HRet.out _ _ ⟨rfl,rfl,rfl,rfl,HO.out _,below_drewN HBD.out _⟩
set_option maxRecDepth 1000000 in
set_option maxHeartbeats 16000000 in
theorem roundW {n:Net} {wz w:World} {s:ByteArray} {l rs:List Int} {X:Option (Rc×List Int)} {p gS gW cS cW:Nat} {Q0:Exit→Act→World→Prop} (hctx:LoadCtx n wz w s l rs X) (hret:∀ a w',RetNo n wz w l rs a w'→Q0 .ret a w') (hexit:∀ a w',EndW p gS gW cS cW n wz w s l X a w'→Q0 (.exit 0) a w') (a:Act) (wr:World) (hI:WWk p gS gW cS cW n wz w s l X a wr) :
  Code.wp Tryz.prog bodyW (Exit.then (fun a' w'=>WWk p gS gW cS cW n wz w s l X a' w'∧muW n a' w'<muW n a wr) Q0) a wr:=by
 refine frame289 (C:=fun a=>WWk p gS gW cS cW n wz w s l X a wr→Code.wp Tryz.prog bodyW (Exit.then (fun a' w'=>WWk p gS gW cS cW n wz w s l X a' w'∧muW n a' w'<muW n a wr) Q0) a wr) ?_ a hI.d hI.sz hI
 intro qa qb qc qd qe qf qg qh qi qj qk ql qm qn qo qp qq qr qs qt qu qv qw qx qy qz qA qB qC qD qE qF qG qH qI qJ qK qL qM qN qO qP qQ qR qS qT qU qV qW qX qY qZ q0 q1 q2 q3 q4 q5 q6 q7 q8 q9 za zb zc zd ze zf zg zh zi zj zk zl zm zn zo zp zq zr zs zt zu zv zw zx zy zz zA zB zC zD zE zF zG zH zI zJ zK zL zM zN zO zP zQ zR zS zT zU zV zW zX zY zZ z0 z1 z2 z3 z4 z5 z6 z7 z8 z9 ya yb yc yd ye yf yg yh yi yj yk yl ym yn yo yp yq yr ys yt yu yv yw yx yy yz yA yB yC yD yE yF yG yH yI yJ yK yL yM yN yO yP yQ yR yS yT yU yV yW yX yY yZ y0 y1 y2 y3 y4 y5 y6 y7 y8 y9 va vb vc vd ve vf vg vh vi vj vk vl vm vn vo vp vq vr vs vt vu vv vw vx vy vz vA vB vC vD vE vF vG vH vI vJ vK vL vM vN vO vP vQ vR vS vT vU vV vW vX vY vZ v0 v1 v2 v3 v4 v5 v6 v7 v8 v9 ja jb jc jd je jf jg jh ji jj jk jl jm jn jo jp jq jr js jt ju jv jw jx jy jz jA jB jC jD jE jF jG jH jI jJ jK jL jM jN jO hI
 obtain ⟨-, -,e1,e6,k,pos,hk,e7,e8,hr⟩:=hI
 have e1:qb=.string s:=e1
 have e6:qg=.pointer (some ⟨p,0,none⟩):=e6
 have e7:qh=.int .i64 (atN l.length pos):=e7
 have e8:qi=.int .i64 k:=e8
 subst e1 e6 e7 e8
 by_cases hlt:k<n.workers.length
 ·exact loadW_one hctx hret hr hlt _ _ _ _ _ _ _ _ _ _ _ _ _ _ _ _ _ _ _ _ _ _ _ _ _ _ _ _ _ _ _ _ _ _ _ _ _ _ _ _ _ _ _ _ _ _ _ _ _ _ _ _ _ _ _ _ _ _ _ _ _ _ _ _ _ _ _ _ _ _ _ _ _ _ _ _ _ _ _ _ _ _ _ _ _ _ _ _ _ _ _ _ _ _ _ _ _ _ _ _ _ _ _ _ _ _ _ _ _ _ _ _ _ _ _ _ _ _ _ _ _ _ _ _ _ _ _ _ _ _ _ _ _ _ _ _ _ _ _ _ _ _ _ _ _ _ _ _ _ _ _ _ _ _ _ _ _ _ _ _ _ _ _ _ _ _ _ _ _ _ _ _ _ _ _ _ _ _ _ _ _ _ _ _ _ _ _ _ _ _ _ _ _ _ _ _ _ _ _ _ _ _ _ _ _ _ _ _ _ _ _ _ _ _ _ _ _ _ _ _ _ _ _ _ _ _ _ _ _ _ _ _ _ _ _ _ _ _ _ _ _ _ _ _ _ _ _ _ _ _ _ _ _ _ _ _ _ _ _ _ _ _ _ _ _ _ _ _ _ _ _ _ _ _ _ _ _ _ _ _ _ _ _ _ _
 ·have hke:k=n.workers.length:=by omega
  subst hke
  have HExit:=hide hexit
  have HR:=hide hr
  obtain ⟨p0,p1⟩:=hr.parts
  have hkk:¬ (n.workers.length:Int)<(n.workers.length:Int):=by omega
  clear hctx hret hexit hr
  conv=>arg 2;whnf
  go_wp2
  exact HExit.out _ _ ⟨rfl,rfl,rfl,rfl,pos,rfl,HR.out⟩
theorem loopW {n:Net} {wz w:World} {s:ByteArray} {l rs:List Int} {X:Option (Rc×List Int)} {p gS gW cS cW:Nat} {Q0:Exit→Act→World→Prop} (hctx:LoadCtx n wz w s l rs X) (hret:∀ a w',RetNo n wz w l rs a w'→Q0 .ret a w') (hexit:∀ a w',EndW p gS gW cS cW n wz w s l X a w'→Q0 (.exit 0) a w') {a:Act} {wr:World} (hI:WWk p gS gW cS cW n wz w s l X a wr):Code.wp Tryz.prog (Code.loop bodyW) Q0 a wr:=
 wp_loop (WWk p gS gW cS cW n wz w s l X) (muW n) hI fun a wr hI=>roundW hctx hret hexit a wr hI
set_option maxRecDepth 1000000 in
set_option maxHeartbeats 16000000 in
theorem roundS {n:Net} {wz w:World} {s:ByteArray} {l rs:List Int} {X:Option (Rc×List Int)} {p gS gW cS cW:Nat} {Q0:Exit→Act→World→Prop} (hctx:LoadCtx n wz w s l rs X) (hret:∀ a w',RetNo n wz w l rs a w'→Q0 .ret a w') (hexit:∀ a w',EndS p gS gW cS cW n wz w s l X a w'→Q0 (.exit 6) a w') (a:Act) (wr:World) (hI:WSt p gS gW cS cW n wz w s l X a wr) :
  Code.wp Tryz.prog bodyS (Exit.then (fun a' w'=>WSt p gS gW cS cW n wz w s l X a' w'∧muS n a' w'<muS n a wr) Q0) a wr:=by
 refine frame289 (C:=fun a=>WSt p gS gW cS cW n wz w s l X a wr→Code.wp Tryz.prog bodyS (Exit.then (fun a' w'=>WSt p gS gW cS cW n wz w s l X a' w'∧muS n a' w'<muS n a wr) Q0) a wr) ?_ a hI.d hI.sz hI
 intro qa qb qc qd qe qf qg qh qi qj qk ql qm qn qo qp qq qr qs qt qu qv qw qx qy qz qA qB qC qD qE qF qG qH qI qJ qK qL qM qN qO qP qQ qR qS qT qU qV qW qX qY qZ q0 q1 q2 q3 q4 q5 q6 q7 q8 q9 za zb zc zd ze zf zg zh zi zj zk zl zm zn zo zp zq zr zs zt zu zv zw zx zy zz zA zB zC zD zE zF zG zH zI zJ zK zL zM zN zO zP zQ zR zS zT zU zV zW zX zY zZ z0 z1 z2 z3 z4 z5 z6 z7 z8 z9 ya yb yc yd ye yf yg yh yi yj yk yl ym yn yo yp yq yr ys yt yu yv yw yx yy yz yA yB yC yD yE yF yG yH yI yJ yK yL yM yN yO yP yQ yR yS yT yU yV yW yX yY yZ y0 y1 y2 y3 y4 y5 y6 y7 y8 y9 va vb vc vd ve vf vg vh vi vj vk vl vm vn vo vp vq vr vs vt vu vv vw vx vy vz vA vB vC vD vE vF vG vH vI vJ vK vL vM vN vO vP vQ vR vS vT vU vV vW vX vY vZ v0 v1 v2 v3 v4 v5 v6 v7 v8 v9 ja jb jc jd je jf jg jh ji jj jk jl jm jn jo jp jq jr js jt ju jv jw jx jy jz jA jB jC jD jE jF jG jH jI jJ jK jL jM jN jO hI
 obtain ⟨-, -,e1,e6,k,pos,hk,e7,e8,hr⟩:=hI
 have e1:qb=.string s:=e1
 have e6:qg=.pointer (some ⟨p,0,none⟩):=e6
 have e7:qh=.int .i64 (atN l.length pos):=e7
 have e8:qo=.int .i64 k:=e8
 subst e1 e6 e7 e8
 by_cases hlt:k<n.streams.length
 ·cases hsr:srcd n k with
  | true=>exact loadS_src hctx hret hr hlt hsr _ _ _ _ _ _ _ _ _ _ _ _ _ _ _ _ _ _ _ _ _ _ _ _ _ _ _ _ _ _ _ _ _ _ _ _ _ _ _ _ _ _ _ _ _ _ _ _ _ _ _ _ _ _ _ _ _ _ _ _ _ _ _ _ _ _ _ _ _ _ _ _ _ _ _ _ _ _ _ _ _ _ _ _ _ _ _ _ _ _ _ _ _ _ _ _ _ _ _ _ _ _ _ _ _ _ _ _ _ _ _ _ _ _ _ _ _ _ _ _ _ _ _ _ _ _ _ _ _ _ _ _ _ _ _ _ _ _ _ _ _ _ _ _ _ _ _ _ _ _ _ _ _ _ _ _ _ _ _ _ _ _ _ _ _ _ _ _ _ _ _ _ _ _ _ _ _ _ _ _ _ _ _ _ _ _ _ _ _ _ _ _ _ _ _ _ _ _ _ _ _ _ _ _ _ _ _ _ _ _ _ _ _ _ _ _ _ _ _ _ _ _ _ _ _ _ _ _ _ _ _ _ _ _ _ _ _ _ _ _ _ _ _ _ _ _ _ _ _ _ _ _ _ _ _ _ _ _ _ _ _ _ _ _ _ _ _ _ _ _ _ _ _ _ _ _ _ _ _ _ _ _ _ _ _
  | false=>exact loadS_un hctx hret hr hlt hsr _ _ _ _ _ _ _ _ _ _ _ _ _ _ _ _ _ _ _ _ _ _ _ _ _ _ _ _ _ _ _ _ _ _ _ _ _ _ _ _ _ _ _ _ _ _ _ _ _ _ _ _ _ _ _ _ _ _ _ _ _ _ _ _ _ _ _ _ _ _ _ _ _ _ _ _ _ _ _ _ _ _ _ _ _ _ _ _ _ _ _ _ _ _ _ _ _ _ _ _ _ _ _ _ _ _ _ _ _ _ _ _ _ _ _ _ _ _ _ _ _ _ _ _ _ _ _ _ _ _ _ _ _ _ _ _ _ _ _ _ _ _ _ _ _ _ _ _ _ _ _ _ _ _ _ _ _ _ _ _ _ _ _ _ _ _ _ _ _ _ _ _ _ _ _ _ _ _ _ _ _ _ _ _ _ _ _ _ _ _ _ _ _ _ _ _ _ _ _ _ _ _ _ _ _ _ _ _ _ _ _ _ _ _ _ _ _ _ _ _ _ _ _ _ _ _ _ _ _ _ _ _ _ _ _ _ _ _ _ _ _ _ _ _ _ _ _ _ _ _ _ _ _ _ _ _ _ _ _ _ _ _ _ _ _ _ _ _ _ _ _ _ _ _ _ _ _ _ _ _ _ _ _ _ _
 ·have hke:k=n.streams.length:=by omega
  subst hke
  have HExit:=hide hexit
  have HR:=hide hr
  have p0:=hr.parts
  have hkk:¬ (n.streams.length:Int)<(n.streams.length:Int):=by omega
  clear hctx hret hexit hr
  conv=>arg 2;whnf
  go_wp2
  exact HExit.out _ _ ⟨rfl,rfl,rfl,rfl,pos,rfl,HR.out⟩
theorem loopS {n:Net} {wz w:World} {s:ByteArray} {l rs:List Int} {X:Option (Rc×List Int)} {p gS gW cS cW:Nat} {Q0:Exit→Act→World→Prop} (hctx:LoadCtx n wz w s l rs X) (hret:∀ a w',RetNo n wz w l rs a w'→Q0 .ret a w') (hexit:∀ a w',EndS p gS gW cS cW n wz w s l X a w'→Q0 (.exit 6) a w') {a:Act} {wr:World} (hI:WSt p gS gW cS cW n wz w s l X a wr):Code.wp Tryz.prog (Code.loop bodyS) Q0 a wr:=
 wp_loop (WSt p gS gW cS cW n wz w s l X) (muS n) hI fun a wr hI=>roundS hctx hret hexit a wr hI
theorem load_last {n:Net} {wz w:World} {s:ByteArray} {l rs:List Int} {X:Option (Rc×List Int)} {p gS gW cS cW pos:Nat} {wr:World} (hctx:LoadCtx n wz w s l rs X) (hr:RAtS p gS gW cS cW w.heap.size wz w n l X n.streams.length pos wr) :
  Below w.heap.size w wr∧atN l.length pos=8*(pos:Int)∧((8*(pos:Int)=(s.size:Int)∧RLoadOut wz (fun b=>b<w.heap.size) n l rs (some ⟨p,0,none⟩) 0 wr)∨(¬ 8*(pos:Int)=(s.size:Int)∧RLoadOut wz (fun b=>b<w.heap.size) n l rs none 3 wr)):=by
 have hok:=hctx.ok
 have hssz:=hctx.str.size
 have hsh:=hctx.str.short
 have hposl:=hr.pos
 have hbel:=hr.below
 obtain ⟨L,R,⟨rfl,rfl,rfl,rfl,rfl⟩,hra,hfo,hco, -, -,hpx⟩:=hr.ex
 rw [Nat.sub_self] at hpx
 have hX2:loadR n l rs=if l.drop pos=[]∧rs=[] then some R else none:=by rw [loadR_read', ← hctx.hX, ← hpx];rfl
 refine ⟨hbel,by unfold atN;rw [if_pos hposl],?_⟩
 by_cases hq:pos=l.length∧rs=[]
 ·rw [if_pos ⟨by rw [hq.1];exact List.drop_length,hq.2⟩] at hX2
  refine Or.inl ⟨?_,⟨fun e=>(by rw [hok] at e;cases e),fun _ e=>(by rw [hX2] at e;cases e),fun _ R' e=>?_⟩⟩
  ·have e1:=hq.1
   have e2:rs.length=0:=by rw [hq.2];rfl
   omega
  ·rw [hX2] at e
   cases e
   exact ⟨L.p,rfl,rfl,⟨L,rfl,hra,fun b hb hlt'=>by have:=hfo b hb;omega,hco⟩,fun b hb=>Nat.lt_of_lt_of_le hb hbel.size⟩
 ·rw [if_neg (fun e=>hq ⟨by have:=List.drop_eq_nil_iff.1 e.1;omega,e.2⟩)] at hX2
  refine Or.inr ⟨fun e=>hq ?_,⟨fun e=>(by rw [hok] at e;cases e),fun _ _=>⟨rfl,rfl⟩,fun _ R' e=>by rw [hX2] at e;cases e⟩⟩
  have:rs.length=0:=by omega
  exact ⟨by omega,List.eq_nil_of_length_eq_zero this⟩
set_option maxRecDepth 1000000 in
set_option maxHeartbeats 16000000 in
theorem refLoad_yes {n:Net} {v:Value} {wz w:World} {s:ByteArray} {l rs:List Int} (hnc:NetAt wz v n) (hwc:Below wz.heap.size wz w) (hs:ShortNet n) (hf:NetFits n) (h:StrIs s l rs) (hlen:l.length≤274877906944) (hok:validB n=true) :
  Calls Tryz.prog 76 #[v,.string s] w fun e w'=>∃ y fn,e=.returned (.tuple #[.pointer y,.int .i64 fn])∧RLoadOut wz (fun b=>b<w.heap.size) n l rs y fn w'∧Below w.heap.size w w':=by
 obtain ⟨hs1,hs8,hw1,hw6⟩:=valid_counts hok
 obtain ⟨X,hX⟩:∃ X,X=(parseW n n.workers.length (initR n n.streams) l).bind fun q=>parseS n n.streams.length q.1 q.2:=⟨_,rfl⟩
 have HN:Hid (∀ wx,Below w.heap.size w wx→Calls Tryz.prog 14 #[v] wx fun e w'=>∃ p gS gW cS cW,e=.returned (.pointer (some ⟨p,0,none⟩))∧RAtW p gS gW cS cW w.heap.size wz w n l X 0 0 w'):=fun wx hx=>by
  refine (refNew_calls hnc (hwc.trans (hx.mono hwc.size)) hs hok).mono fun e w' ⟨q,q1,q2,q3⟩=>?_
  obtain ⟨L,rfl,k1,k2,k3⟩:=q2.ex
  refine ⟨L.p,L.gS,L.gW,L.cS,L.cW,q1,⟨L,_,⟨rfl,rfl,rfl,rfl,rfl⟩,k1,fun b hb=>?_,k3,(Fine.init hok hf).half,rfl,?_⟩,Nat.zero_le _,hx.trans (q3.mono hx.size)⟩
  ·have:=k2 b hb
   have:=hx.size
   omega
  ·rw [hX,Nat.sub_zero,List.drop_zero]
 have HNum:Hid (∀ (k:Nat) wx,Calls Tryz.prog 91 #[.string s,.int .i64 (atN l.length k)] wx fun e w'=>e=.returned (.tuple #[.int .i64 (l.getD k 0),.int .i64 (atN l.length (k+1))])∧w'=wx):=fun k wx=>refNumber_calls h k (by omega) wx
 have hssz:=h.size
 have hsh:=h.short
 obtain ⟨vs,vr,vw,rfl,h1,h2,h3⟩:=hnc
 obtain ⟨sa,sc,rfl⟩:=h1.form
 obtain ⟨ar,cr,rfl⟩:=h2.form
 obtain ⟨aw,cw,rfl⟩:=h3.form
 have hb0:Below w.heap.size w (w.alloc (.cells #[.slice sa n.streams.length sc,.slice ar n.sources.length cr,.slice aw n.workers.length cw] 26)):=(Below.refl _ _).alloc (Nat.le_refl _) _
 have HN1:=hide (HN.out _ hb0)
 have HCtx:Hid (LoadCtx n wz w s l rs X):=⟨hok,hlen,hX,h,hwc⟩
 have HLast:Hid (∀ (p gS gW cS cW pos:Nat) (wr:World),RAtS p gS gW cS cW w.heap.size wz w n l X n.streams.length pos wr→Below w.heap.size w wr∧atN l.length pos=8*(pos:Int)∧((8*(pos:Int)=(s.size:Int)∧RLoadOut wz (fun b=>b<w.heap.size) n l rs (some ⟨p,0,none⟩) 0 wr)∨(¬ 8*(pos:Int)=(s.size:Int)∧RLoadOut wz (fun b=>b<w.heap.size) n l rs none 3 wr))):=fun p gS gW cS cW pos wr hr=>load_last ⟨hok,hlen,hX,h,hwc⟩ hr
 clear HN h1 h2 h3 hb0 hwc hs hf h HNum hX
 go_enter Tryz.func76,Tryz.ntmps76
 go_wp2_with fail
 refine (unhide HN1).mono ?_
 rintro e w1 ⟨p,gS,gW,cS,cW,rfl,hr0⟩
 obtain ⟨p0,p1⟩:=hr0.parts
 have HR0:=hide hr0
 clear hr0 HN1
 go_wp2
 have hat0:(0:Int)=atN l.length 0:=by simp [atN]
 have HRetF:Hid (∀ a w',RetNo n wz w l rs a w'→bodyPost Tryz.prog Tryz.f76 (fun e w'=>∃ y fn,e=.returned (.tuple #[.pointer y,.int .i64 fn])∧RLoadOut wz (fun b=>b<w.heap.size) n l rs y fn w'∧Below w.heap.size w w') .ret a w'):=fun a w' hr=>by
  refine frame289 (C:=fun a=>RetNo n wz w l rs a w'→bodyPost Tryz.prog Tryz.f76 (fun e w'=>∃ y fn,e=.returned (.tuple #[.pointer y,.int .i64 fn])∧RLoadOut wz (fun b=>b<w.heap.size) n l rs y fn w'∧Below w.heap.size w w') .ret a w') ?_ a hr.d hr.sz hr
  intro qa qb qc qd qe qf qg qh qi qj qk ql qm qn qo qp qq qr qs qt qu qv qw qx qy qz qA qB qC qD qE qF qG qH qI qJ qK qL qM qN qO qP qQ qR qS qT qU qV qW qX qY qZ q0 q4 q5 q6 q7 q8 q9 za zb zc zd ze zf zg zh zi zj zk zl zm zn zo zp zq zr zs zt zu zv zw zx zy zz zA zB zC zD zE zF zG zH zI zJ zK zL zM zN zO zP zQ zR zS zT zU zV zW zX zY zZ z0 z1 z2 z3 z4 z5 z6 z7 z8 z9 ya yb yc yd ye yf yg yh yi yj yk yl ym yn yo yp yq yr ys yt yu yv yw yx yy yz yA yB yC yD yE yF yG yH yI yJ yK yL yM yN yO yP yQ yR yS yT yU yV yW yX yY yZ y0 y1 y2 y3 y4 y5 y6 y7 y8 y9 va vb vc vd ve vf vg vh vi vj vk vl vm vn vo vp vq vt vu vv vx vy vz vA vB vC vD vE vF vG vH vI vJ vK vL vM vN vO vP vQ vR vS vT vU vV vW vX vY vZ v0 v1 v2 v3 v4 v5 v6 v7 v8 v9 ja jb jc jd je jf jg jh ji jj jk jl jm jn jo jp jq jr js jt ju jv jw jx jy jz jA jB jC jD jE jF jG jH jI jJ jK jL jM jN jO jP jQ jR jS jT jU hr
  obtain ⟨-, -,e4,e5,ho,hb⟩:=hr
  have e4:qe=.pointer none:=e4
  have e5:qf=.int .i64 3:=e5
  subst e4 e5
  go_ret2
  exact ⟨none,3,rfl,ho,hb⟩
 refine loopW (p:=p) (gS:=gS) (gW:=gW) (cS:=cS) (cW:=cW) HCtx.out ?ret ?exit ?init
 case ret=>exact fun a w' hr=>HRetF.out a w' hr
 case init=>exact ⟨rfl,rfl,rfl,rfl,0,0,Nat.zero_le _,(by show Value.int .i64 0=_;rw [← hat0]),rfl,HR0.out⟩
 case exit=>
  intro a w2 hr
  clear HR0 p0 p1 hat0
  refine frame289 (C:=fun a=>EndW p gS gW cS cW n wz w s l X a w2→Exit.inBlock 0 (Exit.then _ _) (.exit 0) a w2) ?_ a hr.d hr.sz hr
  clear hr a
  intro qa qb qc qd qe qf qg qh qi qj qk ql qm qn qo qp qq qr qs qt qu qv qw qx qy qz qA qB qC qD qE qF qG qH qI qJ qK qL qM qN qO qP qQ qR qS qT qU qV qW qX qY qZ q0 q4 q5 q6 q7 q8 q9 za zb zc zd ze zf zg zh zi zj zk zl zm zn zo zp zq zr zs zt zu zv zw zx zy zz zA zB zC zD zE zF zG zH zI zJ zK zL zM zN zO zP zQ zR zS zT zU zV zW zX zY zZ z0 z1 z2 z3 z4 z5 z6 z7 z8 z9 ya yb yc yd ye yf yg yh yi yj yk yl ym yn yo yp yq yr ys yt yu yv yw yx yy yz yA yB yC yD yE yF yG yH yI yJ yK yL yM yN yO yP yQ yR yS yT yU yV yW yX yY yZ y0 y1 y2 y3 y4 y5 y6 y7 y8 y9 va vb vc vd ve vf vg vh vi vj vk vl vm vn vo vp vq vt vu vv vx vy vz vA vB vC vD vE vF vG vH vI vJ vK vL vM vN vO vP vQ vR vS vT vU vV vW vX vY vZ v0 v1 v2 v3 v4 v5 v6 v7 v8 v9 ja jb jc jd je jf jg jh ji jj jk jl jm jn jo jp jq jr js jt ju jv jw jx jy jz jA jB jC jD jE jF jG jH jI jJ jK jL jM jN jO jP jQ jR jS jT jU hr
  obtain ⟨-, -,e1,e6,pos,e7,hrw⟩:=hr
  have e1:qb=.string s:=e1
  have e6:qg=.pointer (some ⟨p,0,none⟩):=e6
  have e7:qh=.int .i64 (atN l.length pos):=e7
  subst e1 e6 e7
  have HS0:=hide hrw.last
  clear hrw
  go_wp2
  refine loopS (p:=p) (gS:=gS) (gW:=gW) (cS:=cS) (cW:=cW) HCtx.out ?ret2 ?exit2 ?init2
  case ret2=>exact fun a w' hr=>HRetF.out a w' hr
  case init2=>exact ⟨rfl,rfl,rfl,rfl,0,pos,Nat.zero_le _,rfl,rfl,HS0.out⟩
  case exit2=>
   intro a w3 hr
   clear HS0
   refine frame289 (C:=fun a=>EndS p gS gW cS cW n wz w s l X a w3→Exit.inBlock 6 (Exit.then _ _) (.exit 6) a w3) ?_ a hr.d hr.sz hr
   clear hr a
   intro qa qb qc qd qe qf qg qh qi qj qk ql qm qn qo qp qq qr qs qt qu qv qw qx qy qz qA qB qC qD qE qF qG qH qI qJ qK qL qM qN qO qP qQ qR qS qT qU qV qW qX qY qZ q0 q4 q5 q6 q7 q8 q9 za zb zc zd ze zf zg zh zi zj zk zl zm zn zo zp zq zr zs zt zu zv zw zx zy zz zA zB zC zD zE zF zG zH zI zJ zK zL zM zN zO zP zQ zR zS zT zU zV zW zX zY zZ z0 z1 z2 z3 z4 z5 z6 z7 z8 z9 ya yb yc yd ye yf yg yh yi yj yk yl ym yn yo yp yq yr ys yt yu yv yw yx yy yz yA yB yC yD yE yF yG yH yI yJ yK yL yM yN yO yP yQ yR yS yT yU yV yW yX yY yZ y0 y1 y2 y3 y4 y5 y6 y7 y8 y9 va vb vc vd ve vf vg vh vi vj vk vl vm vn vo vp vq vt vu vv vx vy vz vA vB vC vD vE vF vG vH vI vJ vK vL vM vN vO vP vQ vR vS vT vU vV vW vX vY vZ v0 v1 v2 v3 v4 v5 v6 v7 v8 v9 ja jb jc jd je jf jg jh ji jj jk jl jm jn jo jp jq jr js jt ju jv jw jx jy jz jA jB jC jD jE jF jG jH jI jJ jK jL jM jN jO jP jQ jR jS jT jU hr
   obtain ⟨-, -,e1,e6,pos,e7,hrw⟩:=hr
   have e1:qb=.string s:=e1
   have e6:qg=.pointer (some ⟨p,0,none⟩):=e6
   have e7:qh=.int .i64 (atN l.length pos):=e7
   subst e1 e6 e7
   obtain ⟨hb,hat,hcs⟩:=HLast.out p gS gW cS cW pos w3 hrw
   have HB:=hide hb
   rw [hat]
   clear hrw hb hat HLast HRetF HCtx
   rcases hcs with ⟨hsz,ho⟩ | ⟨hne,ho⟩
   ·have HO:=hide ho
    rw [hsz]
    have hbeq:((s.size:Int) != (s.size:Int))=false:=by simp
    clear ho hsz
    go_wp2
    go_ret2
    exact ⟨_,0,rfl,HO.out,HB.out⟩
   ·have HO:=hide ho
    have hbeq:((8*(pos:Int)) != (s.size:Int))=true:=by simpa using hne
    clear ho
    go_wp2
    go_ret2
    exact ⟨none,3,rfl,HO.out,HB.out⟩
variable {rs:List Int}
def ErrTy (u:TypeId):Prop:=∃ i te j,Tryz.prog.info? u=some i∧i.comparable=true∧Tryz.prog.underlying u=some (.pointer te)∧Tryz.prog.info? te=some j
structure ErrAt (w:World) (a:TypeId×Addr):Prop where
 cell:w.cell? ⟨0,0,none⟩=some (.iface a.1 (.pointer (some a.2)))
 ty:ErrTy a.1
def gave (a:TypeId×Addr):Ending:=.panicked [{v:=.iface a.1 (.pointer (some a.2)),recovered:=false}]
theorem ErrAt.below {B:Nat} {w w':World} {a:TypeId×Addr} (h:ErrAt w a) (hb:Below B w w') (hB:0<B):ErrAt w' a:=⟨by rw [← h.cell];exact hb.cell (p:=⟨0,0,none⟩) hB,h.ty⟩
theorem RdAt.fr_below {B:Nat} {w w':World} {rb:Nat} {l:List Int} (h:RdAt rs B w rb l) (hB:B≤w.heap.size) (hf:Fr (fun y=>y=rb) w w'):Below B w w':=
 ⟨hf.os,hf.tape,hf.output,hf.size,fun k hk=>hf.block k (by omega) (fun e=>by have:=h.ge;omega)⟩
set_option maxHeartbeats 1000000 in
theorem number_gives {B:Nat} {w:World} {rb:Nat} {a:TypeId×Addr} (h:RdAt rs B w rb []) (he:ErrAt w a) :
  Calls Tryz.prog 105 #[.pointer (some ⟨rb,0,none⟩)] w fun e w'=>e=gave a∧w'=w:=by
 obtain ⟨v,hblk,⟨av,cap,rfl,hn,hcap, -⟩, -⟩:=h.blk
 have hsh:=h.short
 rw [List.length_append,bytesOf_length,List.length_nil,Nat.mul_zero,Nat.zero_add] at hblk hn
 have z0:=(blk_cell hblk 0 _ rfl).1
 replace he:=he.cell
 generalize rs.length=m at *
 have q:decide ((m:Int)<8)=true:=by simp;omega
 clear hblk h
 go_enter Tryz.func105,Tryz.ntmps105
 go_wp2
 exact ⟨rfl,rfl,rfl⟩
set_option maxHeartbeats 1000000 in
theorem within_gives {B:Nat} {w:World} {rb:Nat} {l:List Int} {a:TypeId×Addr} (h:RdAt rs B w rb l) (hx:∀ x∈l,Fits64 x) (hB:B≤w.heap.size) (hB0:0<B) (he:ErrAt w a) (least most:Int) (hno:∀ x l',l=x::l'→x<least∨most<x) :
  Calls Tryz.prog 104 #[.pointer (some ⟨rb,0,none⟩),.int .i64 least,.int .i64 most] w fun e w'=>e=gave a∧Below B w w':=by
 cases l with
 | nil=>
  have HN:=hide (number_gives h he)
  clear h he hno hx
  go_enter Tryz.func104,Tryz.ntmps104
  go_wp2_with fail
  refine (unhide HN).mono ?_
  rintro e w1 ⟨rfl,rfl⟩
  exact ⟨rfl,rfl,Below.refl _ _⟩
 | cons x l=>
  have HN:Hid (Calls Tryz.prog 105 #[.pointer (some ⟨rb,0,none⟩)] w fun e w'=>e=.returned (.int .i64 x)∧Below B w w'∧w'.cell? ⟨0,0,none⟩=some (.iface a.1 (.pointer (some a.2)))):=(number_calls h (hx x (by simp))).mono fun e w' ⟨q1,_,q3⟩=>⟨q1,h.fr_below hB q3,(he.below (h.fr_below hB q3) hB0).cell⟩
  have hno':=hno x l rfl
  clear h he hno hx
  rcases hno' with h1 | h1
  ·have q1:decide (x<least)=true:=by simpa using h1
   go_enter Tryz.func104,Tryz.ntmps104
   go_wp2_with fail
   refine (unhide HN).mono ?_
   rintro e w1 ⟨rfl,hb,hc⟩
   have HBl:=hide hb
   clear hb HN
   go_wp2
   exact ⟨rfl,rfl,HBl.out⟩
  ·by_cases h2:x<least
   ·have q1:decide (x<least)=true:=by simpa using h2
    go_enter Tryz.func104,Tryz.ntmps104
    go_wp2_with fail
    refine (unhide HN).mono ?_
    rintro e w1 ⟨rfl,hb,hc⟩
    have HBl:=hide hb
    clear hb HN
    go_wp2
    exact ⟨rfl,rfl,HBl.out⟩
   ·have q1:decide (x<least)=false:=by simpa using h2
    have q2:decide (most<x)=true:=by simpa using h1
    go_enter Tryz.func104,Tryz.ntmps104
    go_wp2_with fail
    refine (unhide HN).mono ?_
    rintro e w1 ⟨rfl,hb,hc⟩
    have HBl:=hide hb
    clear hb HN
    go_wp2
    exact ⟨rfl,rfl,HBl.out⟩
set_option maxHeartbeats 1000000 in
theorem count_gives {B:Nat} {w:World} {rb:Nat} {l:List Int} {a:TypeId×Addr} (h:RdAt rs B w rb l) (hx:∀ x∈l,Fits64 x) (hB:B≤w.heap.size) (hB0:0<B) (he:ErrAt w a) (hno:∀ x l',l=x::l'→x<0∨(l'.length:Int)<x) :
  Calls Tryz.prog 109 #[.pointer (some ⟨rb,0,none⟩)] w fun e w'=>e=gave a∧Below B w w':=by
 cases l with
 | nil=>
  have HN:=hide (number_gives h he)
  clear h he hno hx
  go_enter Tryz.func109,Tryz.ntmps109
  go_wp2_with fail
  refine (unhide HN).mono ?_
  rintro e w1 ⟨rfl,rfl⟩
  exact ⟨rfl,rfl,Below.refl _ _⟩
 | cons x l=>
  have hsh:=h.short
  have hsm:=h.small
  simp only [List.length_cons] at hsm
  have HN:Hid (Calls Tryz.prog 105 #[.pointer (some ⟨rb,0,none⟩)] w fun e w'=>e=.returned (.int .i64 x)∧Below B w w'∧w'.cell? ⟨0,0,none⟩=some (.iface a.1 (.pointer (some a.2)))∧RdAt rs B w' rb l):=(number_calls h (hx x (by simp))).mono fun e w' ⟨q1,q2,q3⟩=>⟨q1,h.fr_below hB q3,(he.below (h.fr_below hB q3) hB0).cell,q2⟩
  have hno':=hno x l rfl
  clear h he hno hx
  by_cases h1:x<0
  ·have q1:decide (x<0)=true:=by simpa using h1
   go_enter Tryz.func109,Tryz.ntmps109
   go_wp2_with fail
   refine (unhide HN).mono ?_
   rintro e w1 ⟨rfl,hb,hc, -⟩
   have HBl:=hide hb
   clear hb HN
   go_wp2
   exact ⟨rfl,rfl,HBl.out⟩
  ·have q1:decide (x<0)=false:=by simpa using h1
   have q2:decide ((l.length:Int)<x)=true:=by simp;omega
   go_enter Tryz.func109,Tryz.ntmps109
   go_wp2_with fail
   refine (unhide HN).mono ?_
   rintro e w1 ⟨rfl,hb,hc,hr⟩
   have HBl:=hide hb
   obtain ⟨v,hblk,⟨av,cap,rfl,hn,hcap, -⟩, -⟩:=hr.blk
   obtain ⟨m,hm⟩:∃ m,m=8*l.length+rs.length:=⟨_,rfl⟩
   rw [List.length_append,bytesOf_length, ← hm] at hblk hn
   have z0:=(blk_cell hblk 0 _ rfl).1
   have e8:(m:Int) / 8=l.length:=by omega
   clear hb HN hr hblk hm
   go_wp2
   exact ⟨rfl,rfl,HBl.out⟩
set_option maxRecDepth 100000 in
set_option maxHeartbeats 2000000 in
theorem numbers_gives {B:Nat} {w:World} {rb:Nat} {l:List Int} {a:TypeId×Addr} (h:RdAt rs B w rb l) (hx:∀ x∈l,Fits64 x) (hB:B≤w.heap.size) (hB0:0<B) (he:ErrAt w a) (n:Nat) (hn:l.length<n) (hm:n≤1099511627776) :
  Calls Tryz.prog 108 #[.pointer (some ⟨rb,0,none⟩),.int .i64 n] w fun e w'=>e=gave a∧Below B w w':=by
 obtain ⟨i0,hi,hz0,hz1,hz2⟩:=info_parts Tryz.info3
 have hrb:rb<w.heap.size:=by obtain ⟨v,hblk, -⟩:=h.blk;exact lt_of_blk hblk
 have HN:Hid (∀ wx k (hk:k<l.length),RdAt rs B wx rb (l.drop k)→Calls Tryz.prog 105 #[.pointer (some ⟨rb,0,none⟩)] wx fun e w'=>e=.returned (.int .i64 l[k])∧RdAt rs B w' rb (l.drop (k+1))∧Fr (fun y=>y=rb) wx w'):=fun wx k hk hr=>by
  rw [List.drop_eq_getElem_cons hk] at hr
  exact number_calls hr (hx _ (List.getElem_mem hk))
 have HG:Hid (∀ wx,RdAt rs B wx rb (l.drop l.length)→Fr (fun y=>y=rb) w wx→Calls Tryz.prog 105 #[.pointer (some ⟨rb,0,none⟩)] wx fun e w'=>e=gave a∧Below B w w'):=fun wx hr hf=>by
  rw [List.drop_length] at hr
  have hb:=h.fr_below hB hf
  exact (number_gives hr (he.below hb hB0)).mono fun e w' ⟨q1,q2⟩=>⟨q1,q2 ▸ hb⟩
 have H0:Hid (RdAt rs B w rb (l.drop 0)):=h
 clear h hx he
 go_enter Tryz.func108,Tryz.ntmps108
 go_wp2
 go_loopw [5,7] (fun st i wr=>∃ (k:Nat) (v':Value),k≤l.length∧i=.int .i64 k∧v'=st∧wr.ownsRow w.heap.size 3 1 v' k (intRow (l.take k))∧RdAt rs B wr rb (l.drop k)∧Fr (fun y=>y=rb) w wr) (fun _ i _=>l.length-(intOf i).toNat)
 case atStart=>exact ⟨0,_,Nat.zero_le _,rfl,rfl,⟨rfl,Or.inl ⟨rfl,rfl⟩⟩,H0.out,Fr.refl _ _⟩
 case round=>
  clear H0
  obtain ⟨k,v1,hk,rfl,rfl,hown,hr,hf⟩:=hrel
  have hkn:(k:Int)<(n:Int):=by omega
  by_cases hlt:k<l.length
  ·have HN1:=hide (HN.out wr k hlt hr)
   have HO:=hide hown
   have HF:=hide hf
   have hsz:=hf.size
   obtain ⟨a2,cap2,rfl⟩:=own_slice hown
   have HT:Hid (intRow (l.take (k+1))=intRow (l.take k)++[.int .i64 l[k]]):=by
    unfold Hid
    rw [List.take_succ_eq_append_getElem hlt];exact intRow_snoc _ _
   clear HN HG hr hown hf
   generalize l[k]=x at *
   go_wp2_with fail
   refine (unhide HN1).mono ?_
   rintro e w1 ⟨rfl,hr1,hf1⟩
   have HO1:Hid (w1.ownsRow w.heap.size 3 1 (.slice a2 k cap2) k (intRow (l.take k))):=own_of_blockB HO.out fun g hg=>by
    obtain ⟨cur,hc⟩:=own_blockB HO.out hg
    have:=own_baseB HO.out hg
    exact hf1.block g (lt_of_blk hc) (by omega)
   have HR1:=hide hr1
   have HF1:Hid (Fr (fun y=>y=rb) w w1):=HF.out.trans hf1 fun _ _ e=>e
   have hsz1:w.heap.size≤w1.heap.size:=Nat.le_trans hsz hf1.size
   have hrb1:rb<w1.heap.size:=by omega
   clear hr1 hf1 HN1 HO HF
   have h63:k+1≤maxLen:=by unfold maxLen;omega
   have hbytes:(k+1)*8≤140737488355328:=by omega
   go_wp2_with (at_builtin;refine wpList_append_lies _ rfl (.tmp 9) (.tmp 12) 22 rfl w.heap.size 3 i0 (.int .i64 0) 1 8 Tryz.underlying22 hi hz0 hz1 hz2 rfl (by decide) (.slice a2 k cap2) k (intRow (l.take k)) rfl (HO1.out.alloc _) ⟨w1.heap.size,0,none⟩ 1 1 [.int .i64 x] rfl rfl ?c1 ?c2 (by decide) h63 hbytes (by simp;omega) (w1.heap.size+1) (by simp) ?_)
   case c1=>exact cell_one_new _ _ _
   case c2=>intro u hu;simp at hu;subst hu;rfl
   intro g gcap w2 hown hgrow hor hglt
   have hne:∀ y,(Value.slice a2 k cap2).ownBlock=some y→w.heap.size≤y:=fun y hy=>own_baseB HO1.out hy
   have HF2:Hid (Fr (fun y=>y=rb) w w2):=(HF1.out.alloc _).grown hgrow fun y hy=>Or.inl (hne y hy)
   have HR2:Hid (RdAt rs B w2 rb (l.drop (k+1))):=by
    have hq:w2.heap[rb]? = w1.heap[rb]? := by
     rw [hgrow.block rb (by simp;omega) (fun e=>by have:=hne rb e.symm;omega),Below.heap_alloc _ _ _ hrb1]
    refine HR1.out.keep ⟨hgrow.os,hgrow.tape,hgrow.output,?_,fun y hy=>?_⟩ hq
    ·have:=hgrow.size;simp at this;omega
    ·rw [hgrow.block y (by simp;omega) (fun e=>by have:=hne y e.symm;omega),Below.heap_alloc _ _ _ (by omega)]
   have HO2:Hid (w2.ownsRow w.heap.size 3 1 (.slice (some ⟨g,0,none⟩) (k+1) gcap) (k+1) (intRow (l.take (k+1)))):=by rw [HT.out];exact hown
   clear hown hgrow hor hne HO1 HR1 HF1
   go_wp2
   go_roundw
   case rel=>exact ⟨k+1,_,by omega,by go_num,rfl,HO2.out,HR2.out,HF2.out⟩
   case measure=>simp [intOf];omega
  ·have hkl:k=l.length:=by omega
   subst hkl
   have HG1:=hide (HG.out wr hr hf)
   clear hown hr hf HN HG
   go_wp2_with fail
   refine (unhide HG1).mono ?_
   rintro e w2 ⟨rfl,hb⟩
   exact ⟨rfl,rfl,hb⟩
set_option maxHeartbeats 1000000 in
theorem end_gives {B:Nat} {w:World} {rb:Nat} {l:List Int} {a:TypeId×Addr} (h:RdAt rs B w rb l) (he:ErrAt w a) (hno:l≠[]∨rs≠[]) :
  Calls Tryz.prog 99 #[.pointer (some ⟨rb,0,none⟩)] w fun e w'=>e=gave a∧w'=w:=by
 obtain ⟨v,hblk,⟨av,cap,rfl,hn,hcap, -⟩, -⟩:=h.blk
 obtain ⟨m,hm⟩:∃ m,m=(bytesOf l++rs).length:=⟨_,rfl⟩
 rw [← hm] at hblk hn
 have hm0:0<m:=by
  rw [hm,List.length_append,bytesOf_length]
  rcases hno with h1 | h1
  ·have:=List.length_pos_iff.2 h1;omega
  ·have:=List.length_pos_iff.2 h1;omega
 have z0:=(blk_cell hblk 0 _ rfl).1
 replace he:=he.cell
 have q:decide ((0:Int)<(m:Int))=true:=by simp;omega
 clear hblk h hm hno
 go_enter Tryz.func99,Tryz.ntmps99
 go_wp2
 exact ⟨rfl,rfl,rfl⟩
variable {rs:List Int}
theorem fr_below2 {B b rb:Nat} {w w':World} (hbB:B≤b) (hrB:B≤rb) (hB:B≤w.heap.size) (h:Fr (fun z=>z=b∨z=rb) w w'):Below B w w':=
 ⟨h.os,h.tape,h.output,h.size,fun k hk=>h.block k (by omega) (fun e=>by omega)⟩
set_option maxRecDepth 100000 in
set_option maxHeartbeats 4000000 in
theorem wload_gives {B:Nat} {w:World} {b rb:Nat} {vc:Value} {code:List Ins} {x:Wk} {l:List Int} {a:TypeId×Addr} (hw:WkAt w b vc code x) (hr:RdAt rs B w rb l) (hx:∀ x∈l,Fits64 x) (hbB:B≤b) (hB:B≤w.heap.size) (hB0:0<B) (he:ErrAt w a) (hno:l.length<6∨∃ p l1,l=p::l1∧(p<0∨(code.length:Int)<p)) :
  Calls Tryz.prog 100 #[.pointer (some ⟨b,0,none⟩),.pointer (some ⟨rb,0,none⟩)] w fun e w'=>e=gave a∧Below B w w':=by
 have hcs:=hw.small
 have hne:b≠rb:=(hw.rd hr (Fr.refl _ _)).2
 have hrB:=hr.ge
 obtain ⟨c0, -⟩:=hw.cells
 obtain ⟨ac,cc,hvc, -, -⟩:=code_form hw.own
 by_cases hin:∃ p l1,l=p::l1∧0≤p∧p≤(code.length:Int)
 ·obtain ⟨p,l1,rfl,hp0,hp1⟩:=hin
  have h5:l1.length<5:=by
   rcases hno with h | ⟨p',l',e,h⟩
   ·simp at h;omega
   ·cases e;omega
  obtain ⟨y,hy⟩:∃ y:Wk,y=⟨p.toNat,fun i=>l1.getD i 0,0⟩:=⟨_,rfl⟩
  have hyp:(y.place:Int)=p:=by rw [hy];dsimp only;omega
  have hyr:∀ j,y.r j=l1.getD j 0:=fun j=>by rw [hy]
  have hyl:y.place≤code.length:=by omega
  have hx1:∀ x∈l1,Fits64 x:=fun x h=>hx x (by simp [h])
  rw [← hyp] at hr
  have HP:Hid (Calls Tryz.prog 104 #[.pointer (some ⟨rb,0,none⟩),.int .i64 0,.int .i64 code.length] w fun e w'=>e=.returned (.int .i64 y.place)∧(w'.heap[b]? = w.heap[b]? ∧ (∃ u,w'.cell? ⟨b,1,none⟩=some u)∧w'.frozen? ⟨b,1,none⟩=false) ∧
    WkAt (w'.setCell ⟨b,1,none⟩ (.int .i64 y.place)) b vc code (partW x y 0)∧RdAt rs B (w'.setCell ⟨b,1,none⟩ (.int .i64 y.place)) rb (l1.drop 0)∧Fr (fun z=>z=b∨z=rb) w (w'.setCell ⟨b,1,none⟩ (.int .i64 y.place))∧B≤w'.heap.size):=by
   refine (within_calls hr ⟨by omega,by omega⟩ 0 code.length (by omega) (by omega)).mono fun e w' ⟨q1,q2,q3⟩=>⟨q1,?_,?_,?_,?_,?_⟩
   ·have hk:=(hw.rd hr q3).1
    exact ⟨q3.block b (lt_of_blk hw.blk) hne,⟨_,hk.cells.2.1⟩,row_frozen hk.blk 1⟩
   ·exact (hw.rd hr q3).1.setPlace hyl
   ·exact q2.set hbB (Nat.le_trans hB q3.size) hne _
   ·exact Fr.setCell (S:=fun z=>z=b∨z=rb) (q3.mono fun _ _ e=>Or.inr e) (p:=⟨b,1,none⟩) (Or.inr (Or.inl rfl)) _
   ·exact Nat.le_trans hB q3.size
  have HN:Hid (∀ wx j,j<4→j<l1.length→WkAt wx b vc code (partW x y j)→RdAt rs B wx rb (l1.drop j)→Fr (fun z=>z=b∨z=rb) w wx→B≤wx.heap.size→Calls Tryz.prog 105 #[.pointer (some ⟨rb,0,none⟩)] wx fun e w'=>e=.returned (.int .i64 (y.r j))∧((∃ u,w'.cell? ⟨b,2+j,none⟩=some u)∧w'.frozen? ⟨b,2+j,none⟩=false) ∧
    WkAt (w'.setCell ⟨b,2+j,none⟩ (.int .i64 (y.r j))) b vc code (partW x y (j+1))∧RdAt rs B (w'.setCell ⟨b,2+j,none⟩ (.int .i64 (y.r j))) rb (l1.drop (j+1))∧Fr (fun z=>z=b∨z=rb) w (w'.setCell ⟨b,2+j,none⟩ (.int .i64 (y.r j)))∧B≤w'.heap.size):=fun wx j hj hjl h1 h2 h3 h4=>by
   rw [List.drop_eq_getElem_cons hjl] at h2
   have e:y.r j=l1[j]:=by rw [hyr,getD_eq _ _ _ hjl]
   refine (number_calls h2 (hx1 _ (List.getElem_mem hjl))).mono fun e' w' ⟨q1,q2,q3⟩=>?_
   have hk:=(h1.rd h2 q3).1
   refine ⟨by rw [e];exact q1,⟨?_,row_frozen hk.blk _⟩,hk.setReg hj,q2.set hbB (Nat.le_trans h4 q3.size) hne _,(h3.trans q3 fun _ _ e=>Or.inr e).setCell (p:=⟨b,2+j,none⟩) (Or.inr (Or.inl rfl)) _,Nat.le_trans h4 q3.size⟩
   have hc:j=0∨j=1∨j=2∨j=3:=by omega
   rcases hc with rfl | rfl | rfl | rfl
   ·exact ⟨_,row_cell hk.blk rfl⟩
   ·exact ⟨_,row_cell hk.blk rfl⟩
   ·exact ⟨_,row_cell hk.blk rfl⟩
   ·exact ⟨_,row_cell hk.blk rfl⟩
  have HG:Hid (∀ wx,RdAt rs B wx rb (l1.drop l1.length)→Fr (fun z=>z=b∨z=rb) w wx→Calls Tryz.prog 105 #[.pointer (some ⟨rb,0,none⟩)] wx fun e w'=>e=gave a∧Below B w w'):=fun wx h2 h3=>by
   rw [List.drop_length] at h2
   have hb:=fr_below2 hbB hrB hB h3
   exact (number_gives h2 (he.below hb hB0)).mono fun e w' ⟨q1,q2⟩=>⟨q1,q2 ▸ hb⟩
  clear hw hr hx he hno hyp hyr hx1 hy hp0 hp1
  subst hvc
  go_enter Tryz.func100,Tryz.ntmps100
  go_wp2_with fail
  refine (unhide HP).mono ?_
  rintro e w1 ⟨rfl,⟨hb1,⟨u1,hu1⟩,hf1⟩,h1,h2,h3,h4⟩
  have H1:=hide h1
  have H2:=hide h2
  have H3:=hide h3
  have hs1:B≤(w1.setCell ⟨b,1,none⟩ (.int .i64 y.place)).heap.size:=by simpa [World.setCell] using h4
  clear h1 h2 h3 HP hb1 h4
  go_wp2
  go_loopw [15] (fun i wr=>∃ j:Nat,j≤4∧j≤l1.length∧i=.int .i64 j∧WkAt wr b (.slice ac code.length cc) code (partW x y j)∧RdAt rs B wr rb (l1.drop j)∧Fr (fun z=>z=b∨z=rb) w wr∧B≤wr.heap.size) (fun i _=>4-(intOf i).toNat)
  case atStart=>exact ⟨0,by omega,by omega,rfl,H1.out,H2.out,H3.out,hs1⟩
  case round=>
   clear H1 H2 H3 hs1 hu1 hf1
   obtain ⟨j,hj,hjl,rfl,h1,h2,h3,h4⟩:=hrel
   by_cases hlt:j<4
   ·have hj0:(0:Int)≤(j:Int):=by omega
    have hj1:(j:Int)<4:=by omega
    by_cases hl:j<l1.length
    ·have HN1:Hid (∀ q,Calls Tryz.prog 105 #[.pointer (some ⟨rb,0,none⟩)] (wr.drewN q) fun e w'=>e=.returned (.int .i64 (y.r j))∧((∃ u,w'.cell? ⟨b,2+j,none⟩=some u)∧w'.frozen? ⟨b,2+j,none⟩=false) ∧
      WkAt (w'.setCell ⟨b,2+j,none⟩ (.int .i64 (y.r j))) b (.slice ac code.length cc) code (partW x y (j+1))∧RdAt rs B (w'.setCell ⟨b,2+j,none⟩ (.int .i64 (y.r j))) rb (l1.drop (j+1))∧Fr (fun z=>z=b∨z=rb) w (w'.setCell ⟨b,2+j,none⟩ (.int .i64 (y.r j)))∧B≤w'.heap.size):=fun q=>HN.out (wr.drewN q) j hlt hl (h1.stays fun _ _=>rfl) (h2.keep (below_drewN (Below.refl _ _) q) rfl) (h3.drewN q) h4
     clear HN HG h1 h2 h3
     generalize y.r j=yr at *
     go_wp2
     go_region_held3 (fun _=>True) (trivial)
      ((go_at_call 105;refine (unhide HN1 _).mono ?_;rintro e w2 ⟨rfl,⟨⟨u,hu⟩,hfz⟩,h1,h2,h3,h4⟩;have H1:=hide h1;have H2:=hide h2;have H3:=hide h3;clear h1 h2 h3))
     go_wp2
     go_roundw
     case rel=>exact ⟨j+1,by omega,by omega,by go_num,H1.out,H2.out,H3.out,by simpa [World.setCell] using h4⟩
     case measure=>simp [intOf];omega
    ·have hjl':j=l1.length:=by omega
     subst hjl'
     have HG1:Hid (∀ q,Calls Tryz.prog 105 #[.pointer (some ⟨rb,0,none⟩)] (wr.drewN q) fun e w'=>e=gave a∧Below B w w'):=fun q=>HG.out (wr.drewN q) (h2.keep (below_drewN (Below.refl _ _) q) rfl) (h3.drewN q)
     clear HN HG h1 h2 h3
     go_wp2
     refine wp_region_held_drew (S:=fun _=>True) (by kernel_rfl) trivial (fun hHeld=>?_)
     refine wpAnyH_take (i:=0) (v:=?v0) rfl (by kernel_rfl) (by kernel_rfl) (by kernel_rfl) (fun _ _ _ h=>h) (Or.inl ⟨by rfl,?hy0⟩) (by assumption) ?r0
     case hy0=>intro w' hSw;go_simp;try with_reducible rfl
     refine wpAnyH_take (i:=1) (v:=?v1) rfl (by kernel_rfl) (by kernel_rfl) (by kernel_rfl) (fun _ _ _ h=>h) (Or.inl ⟨by rfl,?hy1⟩) (by assumption) ?r1
     case hy1=>intro w' hSw;go_simp;try with_reducible rfl
     refine wpAnyH_take (i:=2) (v:=?v2) rfl (by kernel_rfl) (by kernel_rfl) (by kernel_rfl) (fun _ _ _ h=>h) (Or.inl ⟨by rfl,?hy2⟩) (by assumption) ?r2
     case hy2=>intro w' hSw;go_simp;try with_reducible rfl
     refine wpAnyH_take (i:=4) (v:=?v4) rfl (by kernel_rfl) (by kernel_rfl) (by kernel_rfl) (fun _ _ _ h=>h) (Or.inl ⟨by rfl,?hy4⟩) (by assumption) ?r4
     case hy4=>intro w' hSw;go_simp;try with_reducible rfl
     refine wpAnyH_take (i:=5) (v:=?v5) rfl (by kernel_rfl) (by kernel_rfl) (by kernel_rfl) (fun _ _ _ h=>h) (Or.inl ⟨by rfl,?hy5⟩) (by assumption) ?r5
     case hy5=>intro w' hSw;go_simp;try with_reducible rfl
     refine wpAnyH_ready (rs:=[3]) (by kernel_rfl) (by simp) (AllReadyH.cons rfl (fun K' hK=>?_) AllReadyH.nil)
     go_simp
     refine (unhide HG1 1).mono ?_
     rintro e w2 ⟨rfl,hb⟩
     exact ⟨rfl,rfl,hb⟩
   ·have hj4:j=4:=by omega
    have hjl':j=l1.length:=by omega
    rw [hjl'] at h2
    have HG1:=hide (HG.out wr h2 h3)
    clear HN HG h1 h2 h3 hjl'
    subst hj4
    go_wp2_with fail
    refine (unhide HG1).mono ?_
    rintro e w2 ⟨rfl,hb⟩
    exact ⟨rfl,rfl,hb⟩
 ·have HG:=hide (within_gives hr hx hB hB0 he 0 (code.length:Int) fun p l1 e=>by
   by_cases h0:p<0
   ·exact Or.inl h0
   ·by_cases h1:(code.length:Int)<p
    ·exact Or.inr h1
    ·exact absurd ⟨p,l1,e,by omega,by omega⟩ hin)
  clear hw hr hx he hno hin
  subst hvc
  go_enter Tryz.func100,Tryz.ntmps100
  go_wp2_with fail
  refine (unhide HG).mono ?_
  rintro e w1 ⟨rfl,hb⟩
  exact ⟨rfl,rfl,hb⟩
end Go.Proofs.YthfdgdfnflilfaaGreatDoor

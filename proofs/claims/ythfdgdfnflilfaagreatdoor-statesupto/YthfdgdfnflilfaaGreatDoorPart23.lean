/- Part 23: Play2, Open2, Open4, Play3, RefG1, RefG2, RefF. -/
import Derived.Deep.DeepHandedRow
import Derived.Deep.DeepWitnessRowRef
import Derived.Lay
import Derived.Handy
import Derived.Deep.Cut
import Derived.Deep.LoopGhost
import Derived.Test.YthfdgdfnflilfaaGreatDoorCards
import Derived.Test.YthfdgdfnflilfaaGreatDoorTie
import Derived.Test.YthfdgdfnflilfaaGreatDoorPart22
namespace Go.Proofs.YthfdgdfnflilfaaGreatDoor
open Go.RowKit Go.Conc
structure Sdi where
 sd:Nat
 x:Nat
 y:Nat
 n:Net
 vs:Value
 vr:Value
 vw:Value
 R:Rc
structure PlayAt (wz:World) (base p:Nat) (v0:Value) (c d:Nat) (l:List Sdi) (col:Nat→Nat) (w:World):Prop where
 side:∀ i (hi:i<l.length),Sd wz base p v0 c l[i].sd (30+2*i) (31+2*i) l[i].x l[i].y l[i].n l[i].vs l[i].vr l[i].vw col w l[i].R l[i].R∧Fine l[i].n l[i].R d
 bk:Bk base col w p v0 c
 row:w.ownsRow base 50 1 v0 l.length (l.map fun i=>.pointer (some ⟨i.sd,0,none⟩))
 v0c:∀ g,v0.ownBlock=some g→col g=24
 dist:∀ i j (hi:i<l.length) (hj:j<l.length),i≠j→l[i].sd≠l[j].sd
 len:l.length≤2
 wzm:Below wz.heap.size wz w
 wzb:wz.heap.size≤base
def ScriptAt (w:World) (v:Value) (ops:List OpV):Prop:=(∃ a cap,v=.slice a ops.length cap∧ops.length≤149797∧∀ i (hi:i<ops.length),∃ b off,a=some ⟨b,off,none⟩∧∀ j,j<8→w.cell? ⟨b,off+i*8+j,none⟩=ops[i].vals[j]?)∧∀ o∈ops,OpAt w o
section
variable {wz:World} {base p:Nat} {v0:Value} {c d:Nat} {l:List Sdi} {col:Nat→Nat} {w:World}
theorem PlayAt.more (h:PlayAt wz base p v0 c d l col w) {c' d':Nat} (hc:c≤c') (hd:d≤d'):PlayAt wz base p v0 c' d' l col w:=
 ⟨fun i hi=>⟨(h.side i hi).1.more hc,(h.side i hi).2.mono hd⟩,h.bk.frame (fun _ _ _=>rfl) (fun _ _ _=>rfl) h.bk.low (Nat.le_refl _) hc,h.row,h.v0c,h.dist,h.len,h.wzm,h.wzb⟩
theorem PlayAt.went {i c':Nat} {w':World} (h:PlayAt wz base p v0 c d l col w) (hi:i<l.length) {x' y':Nat} {R':Rc} (ht:Turn wz base p v0 c' l[i].sd (30+2*i) (31+2*i) x' y' l[i].n l[i].vs l[i].vr l[i].vw col w R' R' w') {d':Nat} (hd:d≤d') (hf:Fine l[i].n R' d') :
  ∃ col',PlayAt wz base p v0 c' d' (l.set i {l[i] with x:=x',y:=y',R:=R' }) col' w':=by
 obtain ⟨col',h1,h2⟩:=ht.ex
 have hlen:=h.len
 have hrow:=h2.row (by omega) (by omega) (h.side i hi).1.at'.csd (by rw [List.length_map];exact h.row) h.v0c
 rw [List.length_map] at hrow
 refine ⟨col',⟨fun j hj=>?_,h1.bk,?_,hrow.2,fun j k hj hk hjk=>?_,by simpa using h.len,h1.wzm,h1.wzb⟩⟩
 ·have hj':j<l.length:=by simpa using hj
  by_cases e:i=j
  ·subst e
   rw [List.getElem_set_self]
   exact ⟨h1,hf⟩
  ·rw [List.getElem_set_ne e]
   obtain ⟨g1,g2⟩:=h.side j hj'
   exact ⟨⟨g1.at'.did h2 g1.wzm g1.wzb (by omega) (by omega) (by omega) (by omega) (h.dist j i hj' hi (fun e'=>e e'.symm)) (h.side i hi).1.at'.csd (by omega) (by omega) (by omega) (by omega),h1.bk,h1.wzm,h1.wzb,g1.x0,g1.x9,g1.y0,g1.y9,g1.ne,g1.fits,g1.net,g1.short⟩,g2.mono hd⟩
 ·have e:(l.set i {l[i] with x:=x',y:=y',R:=R' }).map (fun i=>(Value.pointer (some ⟨i.sd,0,none⟩):Value))=l.map fun i=>.pointer (some ⟨i.sd,0,none⟩):=by
   rw [List.map_set]
   dsimp only
   have:(l.map fun i=>(Value.pointer (some ⟨i.sd,0,none⟩):Value))[i]'(by simpa using hi)=.pointer (some ⟨l[i].sd,0,none⟩):=by simp
   rw [← this,List.set_getElem_self]
  rw [e,List.length_set]
  exact hrow.1
 ·have hj':j<l.length:=by simpa using hj
  have hk':k<l.length:=by simpa using hk
  have e:∀ a (ha:a<(l.set i {l[i] with x:=x',y:=y',R:=R' }).length) (ha':a<l.length),(l.set i {l[i] with x:=x',y:=y',R:=R' })[a].sd=l[a].sd:=fun a ha ha'=>by
   by_cases e:i=a
   ·subst e;rw [List.getElem_set_self]
   ·rw [List.getElem_set_ne e]
  rw [e j hj hj',e k hk hk']
  exact h.dist j k hj' hk' hjk
theorem PlayAt.below {w':World} (h:PlayAt wz base p v0 c d l col w) (hb:Below w.heap.size w w'):PlayAt wz base p v0 c d l (newcol col w.heap.size 22) w':=by
 have hbl:base≤w.heap.size:=by
  obtain ⟨cs,hp, -⟩:=h.bk.blk
  exact Nat.le_trans h.bk.ge (Nat.le_of_lt (lt_of_blk hp))
 refine ⟨fun i hi=>⟨(h.side i hi).1.belowQ 22 hb,(h.side i hi).2⟩,h.bk.frame (fun b h' _=>hb.block b h') (fun b h' _=>newcol_old h') (fun b h'=>by rw [newcol_old (by omega)];exact h.bk.low b h') hb.size (Nat.le_refl _),own_of_blockB h.row fun g hg=>hb.block g (h.row.lt g hg).2,fun g hg=>?_,h.dist,h.len,h.wzm.trans (hb.mono h.wzm.size),h.wzb⟩
 rw [newcol_old (h.row.lt g hg).2];exact h.v0c g hg
theorem PlayAt.cells (h:PlayAt wz base p v0 c d l col w):∃ a cap,w.cell? ⟨p,0,none⟩=some (.slice a l.length cap)∧∀ i (hi:i<l.length),∃ g,a=some ⟨g,0,none⟩∧w.cell? ⟨g,i,none⟩=some (.pointer (some ⟨l[i].sd,0,none⟩)):=by
 obtain ⟨a,cap,hv, -,hg⟩:=own_row_get h.row
 refine ⟨a,cap,by rw [← hv];exact h.bk.c0,fun i hi=>?_⟩
 obtain ⟨g,e1,e2⟩:=hg i (by simpa using hi)
 exact ⟨g,e1,by rw [e2];simp⟩
structure Playing (wz:World) (base p:Nat) (v0:Value) (c d:Nat) (L:Nat) (w wr:World):Prop where
 ex:∃ l col,l.length=L∧PlayAt wz base p v0 c d l col wr
 fr:Fr (fun b=>base≤b) w wr
theorem Playing.step {L i:Nat} {wr:World} {most:Int} (h:Playing wz base p v0 c d L w wr) (hlaw:StepLaw wz most) (hi:i<L) (hd:d+1048576≤274877906944) (hc:c+4194304≤1099511627776) (o:OpV) (ho:OpAt wz o) (hk:o.kind≤most) :
  ∃ cap g sd,wr.cell? ⟨p,0,none⟩=some (.slice (some ⟨g,0,none⟩) L cap)∧wr.cell? ⟨g,i,none⟩=some (.pointer (some ⟨sd,0,none⟩)) ∧
   Calls Tryz.prog 16 #[.pointer (some ⟨p,0,none⟩),.pointer (some ⟨sd,0,none⟩),.agg #[.int .i64 o.kind,.int .i64 o.num,.slice o.sa o.sched.length o.sc,.slice o.a0 o.net.streams.length o.c0,.slice o.a1 o.net.sources.length o.c1,.slice o.a2 o.net.workers.length o.c2,.string o.str,.bool o.which]] wr fun e w'=>e=.returned (.bool true)∧Playing wz base p v0 (c+2097160) (d+1048576) L w w':=by
 obtain ⟨l,col,rfl,hp⟩:=h.ex
 obtain ⟨a,cap,q1,q2⟩:=hp.cells
 obtain ⟨g,rfl,q3⟩:=q2 i hi
 obtain ⟨s1,s2⟩:=hp.side i hi
 refine ⟨cap,g,l[i].sd,q1,q3,(hlaw _ _ _ _ _ _ _ _ _ _ _ _ _ _ _ _ _ o s1 s2 hd hc ho hk).mono fun e w' ⟨r1,r2⟩=>⟨r1,?_⟩⟩
 obtain ⟨x',y',R',c',k1,k2,k3⟩:=r2.ex
 obtain ⟨col',k4⟩:=hp.went hi (k2.more k1) (by omega) k3
 obtain ⟨col2, -,k5⟩:=k2.ex
 exact ⟨⟨_,col',by simp,k4⟩,h.fr.trans (k5.fr.mono fun b _ e=>e.1) (fun b _ e=>e)⟩
theorem Playing.kept {L:Nat} {wr:World} (h:Playing wz base p v0 c d L w wr) (hc:c≤1099511627776) :
  Calls Tryz.prog 17 #[.pointer (some ⟨p,0,none⟩)] wr fun e w'=>e=.returned (.bool true)∧Playing wz base p v0 c d L w w':=by
 obtain ⟨l,col,hl,hp⟩:=h.ex
 refine (hp.bk.kept (by omega)).mono fun e w' ⟨r1,q,r2⟩=>⟨r1,?_⟩
 subst r2
 exact ⟨⟨l,_,hl,hp.below (below_drewN (Below.refl _ _) q)⟩,h.fr.drewN q⟩
theorem Playing.ended {L i:Nat} {wr:World} (h:Playing wz base p v0 c d L w wr) (hi:i<L) (hd:d≤1099511627776) (hc:c+100≤1099511627776) :
  ∃ cap g sd,wr.cell? ⟨p,0,none⟩=some (.slice (some ⟨g,0,none⟩) L cap)∧wr.cell? ⟨g,i,none⟩=some (.pointer (some ⟨sd,0,none⟩)) ∧
   Calls Tryz.prog 18 #[.pointer (some ⟨p,0,none⟩),.pointer (some ⟨sd,0,none⟩)] wr fun e w'=>e=.returned (.bool true)∧Playing wz base p v0 (c+40) d L w w':=by
 obtain ⟨l,col,rfl,hp⟩:=h.ex
 obtain ⟨a,cap,q1,q2⟩:=hp.cells
 obtain ⟨g,rfl,q3⟩:=q2 i hi
 obtain ⟨s1,s2⟩:=hp.side i hi
 refine ⟨cap,g,l[i].sd,q1,q3,(ended_calls s1 s2 hd hc).mono fun e w' ⟨r1,k2⟩=>⟨r1,?_⟩⟩
 obtain ⟨col',k4⟩:=hp.went hi k2 (Nat.le_refl _) s2
 obtain ⟨col2, -,k5⟩:=k2.ex
 exact ⟨⟨_,col',by simp,k4⟩,h.fr.trans (k5.fr.mono fun b _ e=>e.1) (fun b _ e=>e)⟩
theorem Playing.op {L j:Nat} {wr:World} {a:Option Addr} {cap:Nat} {ops:List OpV} (h:Playing wz base p v0 c d L w wr) (hL:0<L) (hs:ScriptAt wz (.slice a ops.length cap) ops) (hj:j<ops.length) :
  ∃ b off,a=some ⟨b,off,none⟩∧wr.cell? ⟨b,off+j*8,none⟩=some (.int .i64 ops[j].kind)∧wr.cell? ⟨b,off+j*8+1,none⟩=some (.int .i64 ops[j].num)∧wr.cell? ⟨b,off+j*8+2,none⟩=some (.slice ops[j].sa ops[j].sched.length ops[j].sc)∧wr.cell? ⟨b,off+j*8+3,none⟩=some (.slice ops[j].a0 ops[j].net.streams.length ops[j].c0)∧wr.cell? ⟨b,off+j*8+4,none⟩=some (.slice ops[j].a1 ops[j].net.sources.length ops[j].c1)∧wr.cell? ⟨b,off+j*8+5,none⟩=some (.slice ops[j].a2 ops[j].net.workers.length ops[j].c2)∧wr.cell? ⟨b,off+j*8+6,none⟩=some (.string ops[j].str)∧wr.cell? ⟨b,off+j*8+7,none⟩=some (.bool ops[j].which):=by
 obtain ⟨l,col,rfl,hp⟩:=h.ex
 have hz:=(hp.side 0 hL).1.wzm
 obtain ⟨⟨a',cap',hv, -,hc⟩, -⟩:=hs
 simp only [Value.slice.injEq,true_and] at hv
 obtain ⟨rfl,rfl⟩:=hv
 obtain ⟨b,off,rfl,hc2⟩:=hc j hj
 have key:∀ i v,i<8→ops[j].vals[i]? = some v→wr.cell? ⟨b,off+j*8+i,none⟩=some v:=fun i v hi hv=>by
  have e:=(hc2 i hi).trans hv
  rw [hz.cell (lt_of_cell e),e]
 exact ⟨b,off,rfl,key 0 _ (by decide) rfl,key 1 _ (by decide) rfl,key 2 _ (by decide) rfl,key 3 _ (by decide) rfl,key 4 _ (by decide) rfl,key 5 _ (by decide) rfl,key 6 _ (by decide) rfl,key 7 _ (by decide) rfl⟩
theorem Playing.more {L c' d':Nat} {wr:World} (h:Playing wz base p v0 c d L w wr) (hc:c≤c') (hd:d≤d'):Playing wz base p v0 c' d' L w wr:=by
 obtain ⟨l,col,hl,hp⟩:=h.ex
 exact ⟨⟨l,col,hl,hp.more hc hd⟩,h.fr⟩
theorem Playing.row {L:Nat} {wr:World} (h:Playing wz base p v0 c d L w wr):∃ a cap,wr.cell? ⟨p,0,none⟩=some (.slice a L cap):=by
 obtain ⟨l,col,rfl,hp⟩:=h.ex
 obtain ⟨a,cap,q1, -⟩:=hp.cells
 exact ⟨a,cap,q1⟩
end
set_option maxRecDepth 100000 in
set_option maxHeartbeats 4000000 in
theorem play_calls {wz:World} {base p:Nat} {v0:Value} {c d L:Nat} {w:World} {most:Int} {v:Value} {ops:List OpV} (h:Playing wz base p v0 c d L w w) (hL:L≤2) (hs:ScriptAt wz v ops) (hlaw:StepLaw wz most) (hc:c≤1048576000) (hd:d≤1000000) :
  Calls Tryz.prog 9 #[.pointer (some ⟨p,0,none⟩),v,.int .i64 most] w fun e w'=>e=.returned (.bool true)∧Fr (fun b=>base≤b) w w':=by
 obtain ⟨⟨a,cap,rfl,hops, -⟩,hop⟩:=id hs
 have HSc:=hide hs
 have HOp:=hide hop
 have HPl:=hide h
 obtain ⟨ra,rc,p0⟩:=h.row
 clear h hs hop
 go_enter Tryz.func9,Tryz.ntmps9
 go_wp2
 go_loopw [8,9,10,11] (fun i _ _ _ wr=>∃ j:Nat,j≤ops.length∧i=.int .i64 j∧Playing wz base p v0 (c+j*2097160) (d+j*1048576) L w wr) (fun i _ _ _ _=>ops.length-(intOf i).toNat)
 case atStart=>exact ⟨0,Nat.zero_le _,rfl,by simpa using HPl.out⟩
 case round=>
  clear HPl p0
  obtain ⟨j,hj,rfl,hp⟩:=hrel
  by_cases hgo:j<ops.length∧0<L
  ·obtain ⟨hlt,hL0⟩:=hgo
   obtain ⟨b,off,ha,o0,o1,o2,o3,o4,o5,o6,o7⟩:=hp.op hL0 HSc.out hlt
   have hoat:=HOp.out _ (List.getElem_mem hlt)
   have hj0:(0:Int)≤(j:Int):=by omega
   have hj1:(j:Int)<(ops.length:Int):=by omega
   have hLi:(0:Int)<(L:Int):=by omega
   subst ha
   have e1:c+j*2097160+2097160=c+(j+1)*2097160:=by omega
   have e2:d+j*1048576+1048576=d+(j+1)*1048576:=by omega
   have HP2:Hid (Playing wz base p v0 (c+(j+1)*2097160) (d+(j+1)*1048576) L w wr):=hp.more (by omega) (by omega)
   have HKp:Hid (∀ wx,Playing wz base p v0 (c+(j+1)*2097160) (d+(j+1)*1048576) L w wx→Calls Tryz.prog 17 #[.pointer (some ⟨p,0,none⟩)] wx fun e w'=>e=.returned (.bool true)∧Playing wz base p v0 (c+(j+1)*2097160) (d+(j+1)*1048576) L w w'):=fun wx hx=>hx.kept (by omega)
   have HSt:Hid (∀ i,i<L→ops[j].kind≤most→∃ cap g sd,wr.cell? ⟨p,0,none⟩=some (.slice (some ⟨g,0,none⟩) L cap)∧wr.cell? ⟨g,i,none⟩=some (.pointer (some ⟨sd,0,none⟩)) ∧
     Calls Tryz.prog 16 #[.pointer (some ⟨p,0,none⟩),.pointer (some ⟨sd,0,none⟩),.agg #[.int .i64 ops[j].kind,.int .i64 ops[j].num,.slice ops[j].sa ops[j].sched.length ops[j].sc,.slice ops[j].a0 ops[j].net.streams.length ops[j].c0,.slice ops[j].a1 ops[j].net.sources.length ops[j].c1,.slice ops[j].a2 ops[j].net.workers.length ops[j].c2,.string ops[j].str,.bool ops[j].which]] wr fun e w'=>e=.returned (.bool true)∧Playing wz base p v0 (c+(j+1)*2097160) (d+(j+1)*1048576) L w w'):=fun i hi hk=>by
    have:=hp.step hlaw hi (by omega) (by omega) ops[j] hoat hk
    rw [e1,e2] at this
    exact this
   clear hp hoat e1 e2
   generalize ops[j]=o at *
   obtain ⟨kind,num,sched,sa,sc,net,a0,c0,a1,c1,a2,c2,str,which⟩:=o
   dsimp only at o0 o1 o2 o3 o4 o5 o6 o7 HSt
   by_cases hkd:kind≤most
   ·obtain ⟨cap0,g0,sd0,p0,r0,hc0⟩:=HSt.out 0 hL0 hkd
    obtain ⟨cap1,g1,sd1,p1,r1,hc1⟩:=HSt.out (L-1) (by omega) hkd
    have ep:=p0.symm.trans p1
    simp only [Option.some.injEq,Value.slice.injEq,Addr.mk.injEq,and_true,true_and] at ep
    obtain ⟨rfl,rfl⟩:=ep
    have HC0:=hide hc0
    have HC1:=hide hc1
    have hkd':¬ most<kind:=by omega
    have eL:((L-1:Nat):Int)=(L:Int)-1:=by omega
    have hL1:(0:Int)≤(L:Int)-1:=by omega
    have hL2:(L:Int)-1<(L:Int):=by omega
    clear hc0 hc1 HSt p1 HP2 hkd
    cases which
    ·clear HC1
     go_wp2_with fail
     refine (unhide HC0).mono ?_
     rintro e w1 ⟨rfl,hp1⟩
     have HK1:=hide (HKp.out w1 hp1)
     clear hp1 HC0 HKp
     go_wp2_with fail
     refine (unhide HK1).mono ?_
     rintro e w2 ⟨rfl,hp2⟩
     have HP2:=hide hp2
     clear hp2 HK1
     go_wp2
     go_roundw
     case rel=>exact ⟨j+1,by omega,by go_num,HP2.out⟩
     case measure=>simp [intOf];omega
    ·clear HC0
     go_wp2_with fail
     refine (unhide HC1).mono ?_
     rintro e w1 ⟨rfl,hp1⟩
     have HK1:=hide (HKp.out w1 hp1)
     clear hp1 HC1 HKp
     go_wp2_with fail
     refine (unhide HK1).mono ?_
     rintro e w2 ⟨rfl,hp2⟩
     have HP2:=hide hp2
     clear hp2 HK1
     go_wp2
     go_roundw
     case rel=>exact ⟨j+1,by omega,by go_num,HP2.out⟩
     case measure=>simp [intOf];omega
   ·have hkd':most<kind:=by omega
    clear HSt HKp hkd
    go_wp2
    go_roundw
    case rel=>exact ⟨j+1,by omega,by go_num,HP2.out⟩
    case measure=>simp [intOf];omega
  ·obtain ⟨cc,ecc⟩:∃ cc,cc=c+ops.length*2097160:=⟨_,rfl⟩
   obtain ⟨dd,edd⟩:∃ dd,dd=d+ops.length*1048576:=⟨_,rfl⟩
   have HP1:Hid (Playing wz base p v0 cc dd L w wr):=hp.more (by omega) (by omega)
   have hcc:cc≤1000000000000:=by omega
   have hdd:dd≤1000000000000:=by omega
   clear ecc edd
   have HKp:Hid (∀ wx (i:Nat),i≤2→Playing wz base p v0 (cc+40*i) dd L w wx→Calls Tryz.prog 17 #[.pointer (some ⟨p,0,none⟩)] wx fun e w'=>e=.returned (.bool true)∧Playing wz base p v0 (cc+40*i) dd L w w'):=fun wx i hi hx=>hx.kept (by omega)
   have HEn:Hid (∀ wx (i:Nat),i<L→Playing wz base p v0 (cc+40*i) dd L w wx→∃ cap g sd,wx.cell? ⟨p,0,none⟩=some (.slice (some ⟨g,0,none⟩) L cap)∧wx.cell? ⟨g,i,none⟩=some (.pointer (some ⟨sd,0,none⟩)) ∧
     Calls Tryz.prog 18 #[.pointer (some ⟨p,0,none⟩),.pointer (some ⟨sd,0,none⟩)] wx fun e w'=>e=.returned (.bool true)∧Playing wz base p v0 (cc+40*(i+1)) dd L w w'):=fun wx i hi hx=>by
    have:=hx.ended hi (by omega) (by omega)
    rw [show cc+40*i+40=cc+40*(i+1) by omega] at this
    exact this
   clear hp HSc HOp hops
   by_cases hjl:j<ops.length
   ·have hL0:¬ (0:Int)<(L:Int):=fun h2=>hgo ⟨hjl,by omega⟩
    have hj1:(j:Int)<(ops.length:Int):=by omega
    go_wp2
    go_loopw [12,13] (fun i _ wr=>∃ k:Nat,k≤L∧i=.int .i64 k∧Playing wz base p v0 (cc+40*k) dd L w wr) (fun i _ _=>L-(intOf i).toNat)
    case atStart=>exact ⟨0,Nat.zero_le _,rfl,HP1.out⟩
    case round=>
     clear HP1
     obtain ⟨k,hk,rfl,hp⟩:=hrel
     by_cases hkl:k<L
     ·exfalso;omega
     ·have hk1:¬ (k:Int)<(L:Int):=by omega
      have HK1:=hide (HKp.out wr k (by omega) hp)
      clear hp HKp HEn
      go_wp2_with fail
      refine (unhide HK1).mono ?_
      rintro e w1 ⟨rfl,hp1⟩
      have HP2:=hide hp1.fr
      clear hp1 HK1
      go_wp2
      go_ret
      exact ⟨rfl,HP2.out⟩
   ·have hj1:¬ (j:Int)<(ops.length:Int):=by omega
    go_wp2
    go_loopw [12,13] (fun i _ wr=>∃ k:Nat,k≤L∧i=.int .i64 k∧Playing wz base p v0 (cc+40*k) dd L w wr) (fun i _ _=>L-(intOf i).toNat)
    case atStart=>exact ⟨0,Nat.zero_le _,rfl,HP1.out⟩
    case round=>
     clear HP1
     obtain ⟨k,hk,rfl,hp⟩:=hrel
     by_cases hkl:k<L
     ·obtain ⟨cap0,g0,sd0,p0,r0,hc0⟩:=HEn.out wr k hkl hp
      have HC0:=hide hc0
      have hk0:(0:Int)≤(k:Int):=by omega
      have hk1:(k:Int)<(L:Int):=by omega
      clear hc0 hp HEn HKp
      go_wp2_with fail
      refine (unhide HC0).mono ?_
      rintro e w1 ⟨rfl,hp1⟩
      have HP2:=hide hp1
      clear hp1 HC0
      go_wp2
      go_roundw
      case rel=>exact ⟨k+1,by omega,by go_num,HP2.out⟩
      case measure=>simp [intOf];omega
     ·have hk1:¬ (k:Int)<(L:Int):=by omega
      have HK1:=hide (HKp.out wr k (by omega) hp)
      clear hp HKp HEn
      go_wp2_with fail
      refine (unhide HK1).mono ?_
      rintro e w1 ⟨rfl,hp1⟩
      have HP2:=hide hp1.fr
      clear hp1 HK1
      go_wp2
      go_ret
      exact ⟨rfl,HP2.out⟩
open Go.ChangeShapes Go.WideShapes Go.ChangeAt Go.RowKit
theorem door_own:ownKnob Tryz.prog.godebug=none:=by kernel_rfl
theorem fits_of_short {n:Net} (h:ShortNet n):NetFits n:=by
 refine ⟨fun k hk i hi=>?_,fun s hs x hx=>(h.2.2.2.1 s hs).2 x hx⟩
 have hm:codeOf n k∈n.workers:=by unfold codeOf;rw [getD_eq _ _ _ hk];exact List.getElem_mem hk
 exact (h.2.2.2.2 _ hm).2 i hi
theorem slice_one {v v':Value} (h:v.cells.toList=[v']) (hs:∃ a len cap,v=.slice a len cap):v=v':=by
 obtain ⟨a,len,cap,rfl⟩:=hs
 simpa [Value.cells] using h
open Go.ChangeShapes Go.WideShapes Go.ChangeAt Go.RowKit Go.Deep
theorem bulks.many {H:Type} (k:Nat):∀ (l:List (DataW H)),(∀ d∈l,k≤Rows.uptoBulk d)→k*l.length≤Rows.uptoBulkAll l
 | [],_=>by simp [Rows.uptoBulkAll]
 | x::r,h=>by
  have h1:=h x (by simp)
  have h2:=bulks.many k r (fun d hd=>h d (by simp [hd]))
  simp only [Rows.uptoBulkAll,List.length_cons,Nat.mul_add,Nat.mul_one]
  omega
instance:Inhabited OpV:=⟨⟨0,0,[],none,0,⟨[],[],[]⟩,none,0,none,0,none,0,ByteArray.empty,false⟩⟩
section
variable {H:Type} {enc:TypeId×Value→H} {w:World}
theorem many_of_trod {t e:TypeId} {c fuel:Nat} {cs:List Value} {d:DataW H} {ps:List MemPlace} (ht:Tryz.prog.underlying t=some (.slice e)) (hc:Tryz.prog.cellsOf e=c) (hc0:0<c)
  (h:DataW.trod enc Tryz.prog w 0 (fun _=>true) true fuel t cs=some (d,ps)) (hb:Rows.uptoBulk d≤1048576) :
  ∃ (v:Value) (len n:Nat) (CS:Nat→List Value) (D:Nat→DataW H) (Pl:Nat→List MemPlace),cs=[v]∧(∀ k,(∀ i,i<len→k≤Rows.uptoBulk (D i))→k*len≤1048576)∧Sl w v len c (fun i j=>(CS i).getD j (.bool false)) ∧
   ∀ i,i<len→(CS i).length=c∧DataW.trod enc Tryz.prog w 0 (fun _=>true) true n e (CS i)=some (D i,Pl i)∧Rows.uptoBulk (D i)≤1048576:=by
 rcases open_slice ht h with ⟨rfl,h0⟩ | ⟨a,len,cap,m,n,D,Pl,rfl, -,hl,hm,hmm,hx,hi⟩
 ·exact ⟨.slice none 0 0,0,0,fun _=>[],fun _=>.nil,fun _=>[],rfl,(fun k _=>by omega),⟨none,0,rfl,by omega,by omega,Or.inl rfl⟩,fun i hi=>by omega⟩
 ·simp only [if_true] at hmm
  subst hmm
  obtain ⟨hd, -⟩:=Prod.mk.inj hx
  have hbl:∀ i,i<len→Rows.uptoBulk (D i)≤1048576:=fun i hi=>by
   rw [hd] at hb
   simp only [Rows.uptoBulk] at hb
   have:=bulks.part_le (d:=D i) (l:=(List.range len).map D) (List.mem_map.2 ⟨i,List.mem_range.2 hi,rfl⟩)
   omega
  have hlen:∀ k,(∀ i,i<len→k≤Rows.uptoBulk (D i))→k*len≤1048576:=fun k hk=>by
   rw [hd] at hb
   simp only [Rows.uptoBulk] at hb
   have:=bulks.many k ((List.range len).map D) (fun x hx=>by
    obtain ⟨i,hi,rfl⟩:=List.mem_map.1 hx
    exact hk i (List.mem_range.1 hi))
   simp at this
   omega
  rw [hc] at hi
  obtain ⟨CS,hCS⟩:=choose_lt (α := List Value) (p:=fun i cs'=>w.cells? 0 (a.add (i*c)) c=some cs'∧DataW.trod enc Tryz.prog w 0 (fun _=>true) true n e cs'=some (D i,Pl i)) hi
  have hcell:∀ i,i<len→(CS i).length=c∧∀ j,j<c→w.cell? ((a.add (i*c)).add j)=(CS i)[j]? := fun i hi'=>by
   obtain ⟨-,q1,q2⟩:=World.cells?_some (hCS i (by omega)).1
   exact ⟨q1,q2⟩
  have hl1:=hlen 1 (fun i _=>bulks.one_le _)
  refine ⟨_,len,n,CS,D,Pl,rfl,hlen,⟨some a,_,rfl,by omega,hl,?_⟩,fun i hi'=>⟨(hcell i hi').1,(hCS i (by omega)).2,hbl i hi'⟩⟩
  rcases Nat.eq_zero_or_pos len with h0 | h0
  ·exact Or.inl h0
  ·obtain ⟨b,off,spot⟩:=a
   have hspot:spot=none:=by
    have:=(hcell 0 h0).2 0 hc0
    rw [List.getElem?_eq_getElem (by rw [(hcell 0 h0).1];exact hc0)] at this
    simpa [Addr.add] using World.cell?_spot this
   subst hspot
   refine Or.inr ⟨b,off,rfl,fun i hi' j hj=>?_⟩
   have:=(hcell i hi').2 j hj
   rw [add_plain,add_plain] at this
   rw [this,List.getElem?_eq_getElem (by rw [(hcell i hi').1];exact hj)]
   simp [List.getD,(hcell i hi').1,hj]
set_option maxRecDepth 100000 in
theorem op_of_trod {fuel:Nat} {cs:List Value} {d:DataW H} {ps:List MemPlace} (h:DataW.trod enc Tryz.prog w 0 (fun _=>true) true fuel 65 cs=some (d,ps)) (hb:Rows.uptoBulk d≤1048576) :
  (∃ o:OpV,cs=o.vals∧OpAt w o)∧7≤Rows.uptoBulk d:=by
 obtain ⟨xs,n, -,hx,hl,hxs,hf⟩:=DataW.trod_struct Tryz.underlying65 h
 have c8:Tryz.prog.cellsOf 65=8:=by kernel_rfl
 have hl8:cs.length=8:=hl.trans c8
 have hx6:xs.length=6:=hxs
 have c3:Tryz.prog.cellsOf 3=1:=by kernel_rfl
 have c22:Tryz.prog.cellsOf 22=1:=by kernel_rfl
 have c26:Tryz.prog.cellsOf 26=3:=by kernel_rfl
 have c9:Tryz.prog.cellsOf 9=1:=by kernel_rfl
 have c4:Tryz.prog.cellsOf 4=1:=by kernel_rfl
 match cs,hl8,xs,hx6,hx with
 | [k0,k1,k2,k3,k4,k5,k6,k7],_,[y0,y1,y2,y3,y4,y5],_,hx=>
  have e0:DataW.trod enc Tryz.prog w 0 (fun _=>true) true n 3 (([k0,k1,k2,k3,k4,k5,k6,k7].drop 0).take (Tryz.prog.cellsOf 3))=some y0:=hf 0 _ rfl
  have e1:DataW.trod enc Tryz.prog w 0 (fun _=>true) true n 3 (([k0,k1,k2,k3,k4,k5,k6,k7].drop 1).take (Tryz.prog.cellsOf 3))=some y1:=hf 1 _ rfl
  have e2:DataW.trod enc Tryz.prog w 0 (fun _=>true) true n 22 (([k0,k1,k2,k3,k4,k5,k6,k7].drop 2).take (Tryz.prog.cellsOf 22))=some y2:=hf 2 _ rfl
  have e3:DataW.trod enc Tryz.prog w 0 (fun _=>true) true n 26 (([k0,k1,k2,k3,k4,k5,k6,k7].drop 3).take (Tryz.prog.cellsOf 26))=some y3:=hf 3 _ rfl
  have e4:DataW.trod enc Tryz.prog w 0 (fun _=>true) true n 9 (([k0,k1,k2,k3,k4,k5,k6,k7].drop 6).take (Tryz.prog.cellsOf 9))=some y4:=hf 4 _ rfl
  have e5:DataW.trod enc Tryz.prog w 0 (fun _=>true) true n 4 (([k0,k1,k2,k3,k4,k5,k6,k7].drop 7).take (Tryz.prog.cellsOf 4))=some y5:=hf 5 _ rfl
  rw [c3] at e0 e1
  rw [c22] at e2
  rw [c26] at e3
  rw [c9] at e4
  rw [c4] at e5
  have hd:d=.agg [y0.1,y1.1,y2.1,y3.1,y4.1,y5.1]:=by have:=(Prod.mk.inj hx).1;simpa using this
  rw [hd] at hb ⊢
  have b0:=bulks.one_le y0.1
  have b1:=bulks.one_le y1.1
  have b2:=bulks.one_le y2.1
  have b3:=bulks.one_le y3.1
  have b4:=bulks.one_le y4.1
  have b5:=bulks.one_le y5.1
  simp only [Rows.uptoBulk,Rows.uptoBulkAll] at hb ⊢
  obtain ⟨z0,g0, -⟩:=DataW.trod_int Tryz.underlying3 e0
  obtain ⟨z1,g1, -,hw1⟩:=DataW.trod_int Tryz.underlying3 e1
  obtain ⟨v2,l2,q2,r2,s2, -⟩:=ints_of_trod (d:=y2.1) (ps:=y2.2) e2 (by omega)
  obtain ⟨nn,hn,hsh⟩:=net_of_trod (v:=.agg #[k3,k4,k5]) (d:=y3.1) (ps:=y3.2) ⟨_,rfl⟩ e3 (by omega)
  obtain ⟨st,g4,hy4, -⟩:=DataW.trod_string Tryz.underlying9 e4
  obtain ⟨bb,g5, -⟩:=DataW.trod_bool Tryz.underlying4 e5
  obtain ⟨vs,vr,vw,hv,h1,h2,h3⟩:=id hn
  obtain ⟨a0,c0,rfl⟩:=h1.form
  obtain ⟨a1,c1,rfl⟩:=h2.form
  obtain ⟨a2,c2,rfl⟩:=h3.form
  obtain ⟨sa,sc,rfl, -, -, -⟩:=r2.open
  have hst:st.size≤1048576:=by
   have:Rows.uptoBulk y4.1=st.data.toList.length+1:=by rw [hy4];simp [Rows.uptoBulk]
   have e:st.data.toList.length=st.size:=rfl
   omega
  simp at g0 g1 q2 g4 g5 hv
  obtain ⟨rfl,rfl,rfl⟩:=hv
  refine ⟨⟨⟨z0,z1,l2,sa,sc,nn,a0,c0,a1,c1,a2,c2,st,bb⟩,?_,⟨r2,s2,hn,hsh,hst,inR_of_wf hw1⟩⟩,by omega⟩
  rw [g0,g1,q2,g4,g5]
  rfl
theorem script_of_trod {fuel:Nat} {cs:List Value} {d:DataW H} {ps:List MemPlace} (h:DataW.trod enc Tryz.prog w 0 (fun _=>true) true fuel 27 cs=some (d,ps)) (hb:Rows.uptoBulk d≤1048576) :
  ∃ v ops,cs=[v]∧ScriptAt w v ops:=by
 obtain ⟨v,len,n,CS,D,Pl,hcs,hlen,hsl,hi⟩:=many_of_trod (c:=8) (e:=65) Tryz.underlying27 (by kernel_rfl) (by decide) h hb
 have h7:=hlen 7 (fun i hi'=>(op_of_trod (hi i hi').2.1 (hi i hi').2.2).2)
 obtain ⟨V,hV⟩:=choose_lt (α := OpV) (n:=len) (p:=fun i x=>CS i=x.vals∧OpAt w x) (fun i hi'=>(op_of_trod (hi i hi').2.1 (hi i hi').2.2).1)
 have hl:((List.range len).map V).length=len:=by simp
 refine ⟨v,(List.range len).map V,hcs,⟨?_,fun o ho=>?_⟩⟩
 ·obtain ⟨a,cap,rfl, -, -,hc⟩:=hsl
  refine ⟨a,cap,by rw [hl],by rw [hl];omega,fun i hi'=>?_⟩
  have hi2:i<len:=by rw [hl] at hi';exact hi'
  rcases hc with hc | ⟨b,off,rfl,hc⟩
  ·omega
  ·refine ⟨b,off,rfl,fun j hj=>?_⟩
   rw [hc i hi2 j hj,List.getElem_map,List.getElem_range, ← (hV i hi2).1]
   have:j<(CS i).length:=by rw [(hi i hi2).1];exact hj
   simp [List.getD,this]
 ·obtain ⟨i,hi',rfl⟩:=List.mem_map.1 ho
  exact (hV i (List.mem_range.1 hi')).2
end
set_option maxRecDepth 100000 in
theorem two_open {H:Type} {enc:TypeId×Value→H} {W:World} {base:Nat} {args:Array Value} {ds:List (DataW H)} {p:List MemPlace}
  (hval:∀ (j:Nat) t v,#[26,27][j]? = some t→args[j]? = some v→Value.okWide Tryz.prog W .any base t v)
  (hA:DataW.TrodAll enc Tryz.prog W 0 (fun _=>true) true [26,27] args.toList ds p) (hk:Rows.uptoBulkAll ds≤1048576) :
  ∃ v0 v1 n ops,args=#[v0,v1]∧(∃ d0 d1,ds=[d0,d1])∧NetAt W v0 n∧ShortNet n∧ScriptAt W v1 ops:=by
 obtain ⟨v0,vs0,d0,ds0,p0,q0,e0,rfl, -,h0,r0⟩:=trodAll_cons hA
 obtain ⟨v1,vs1,d1,ds1,p1,q1,rfl,rfl, -,h1,r1⟩:=trodAll_cons r0
 obtain ⟨rfl,rfl, -⟩:=trodAll_nil r1
 obtain rfl:args=#[v0,v1]:=by cases args;simp_all
 simp only [Rows.uptoBulkAll] at hk
 obtain ⟨cs0,rfl, -⟩:=okWide_struct Tryz.underlying26 (hval 0 26 v0 rfl rfl)
 obtain ⟨f0,g0⟩:=h0
 obtain ⟨f1,g1⟩:=h1
 obtain ⟨n,hn,hsh⟩:=net_of_trod ⟨_,rfl⟩ g0 (by omega)
 obtain ⟨w1,ops,e1,i1⟩:=script_of_trod g1 (by omega)
 have e1':=slice_one e1 (okWide_slice Tryz.underlying27 (hval 1 27 v1 rfl rfl))
 subst e1'
 exact ⟨_,_,n,ops,rfl,⟨_,_,rfl⟩,hn,hsh,i1⟩
section
variable {wz:World} {base p:Nat} {v0:Value} {c d:Nat} {l:List Sdi} {col:Nat→Nat} {w:World}
theorem PlayAt.opens {v:Value} {n:Net} (h:PlayAt wz base p v0 c 0 l col w) (hl:l.length≤1) (hn:NetAt wz v n) (hs:ShortNet n) (hc:c≤1000000000) :
  Calls Tryz.prog 8 #[.pointer (some ⟨p,0,none⟩),v,.bool true] w fun e w'=>e=.returned (.bool true)∧∃ v0' l' col',l'.length≤l.length+1∧PlayAt wz base p v0' (c+3145731) 0 l' col' w'∧(∀ b,b<w.heap.size→20<col b→col' b=col b)∧Fr (fun b=>base≤b∧(col b≤20∨col b=24)) w w':=by
 have h1:=hs.2.1
 have h2:=hs.2.2.1
 have hst:NetStays base col w v n:=fun wx hx=>hn.below (h.wzm.trans ⟨hx.os,hx.tape,hx.output,hx.size,fun b hb'=>hx.block b (by have:=h.wzm.size;omega) (fun e=>by have:=e.1;have:=h.wzb;omega)⟩)
 have hz:∀ w',Fr (fun b=>base≤b∧(col b≤20∨col b=24)) w w'→Below wz.heap.size wz w':=fun w' hf=>h.wzm.trans ⟨hf.os,hf.tape,hf.output,hf.size,fun b hb=>hf.block b (by have:=h.wzm.size;omega) (fun e=>by have:=e.1;have:=h.wzb;omega)⟩
 have hold:∀ (w':World) (col':Nat→Nat) (v0':Value) (c':Nat),c≤c'→Bk base col' w' p v0' c'→Fr (fun b=>base≤b∧(col b≤20∨col b=24)) w w'→(∀ b,b<w.heap.size→20<col b→col' b=col b)→∀ i (hi:i<l.length),Sd wz base p v0' c' l[i].sd (30+2*i) (31+2*i) l[i].x l[i].y l[i].n l[i].vs l[i].vr l[i].vw col' w' l[i].R l[i].R∧Fine l[i].n l[i].R 0:=fun w' col' v0' c' hcc hb hf ho i hi=>by
  obtain ⟨g1,g2⟩:=h.side i hi
  exact ⟨⟨g1.at'.frame (fun b hb e=>⟨hf.block b hb (fun e'=>by have:=e'.2;omega),ho b hb (by omega)⟩) (hz w' hf),hb,hz w' hf,h.wzb,g1.x0,g1.x9,g1.y0,g1.y9,g1.ne,g1.fits,g1.net,g1.short⟩,g2⟩
 cases hok:validB n
 ·refine (opens_plain h.bk hst hs (by omega) true (fun _=>hok)).mono fun e w' ⟨q1,col',q2,q3⟩=>⟨q1,v0,l,col',by omega,?_,q3.old,q3.fr.mono fun b _ e=>⟨e.1,Or.inl e.2⟩⟩
  have hf:Fr (fun b=>base≤b∧(col b≤20∨col b=24)) w w':=q3.fr.mono fun b _ e=>⟨e.1,Or.inl e.2⟩
  have q2':Bk base col' w' p v0 (c+3145731):=q2.frame (fun _ _ _=>rfl) (fun _ _ _=>rfl) q2.low (Nat.le_refl _) (by omega)
  refine ⟨hold w' col' v0 _ (by omega) q2' hf q3.old,q2',own_of_blockB h.row fun g hg=>q3.fr.block g (h.row.lt g hg).2 (fun e=>by have:=h.v0c g hg;omega),fun g hg=>?_,h.dist,h.len,hz w' hf,h.wzb⟩
  rw [q3.old g (h.row.lt g hg).2 (by rw [h.v0c g hg];omega)];exact h.v0c g hg
 ·have hvl:(l.map fun i=>(Value.pointer (some ⟨i.sd,0,none⟩):Value)).length=l.length:=by simp
  refine (opens_add (vals:=l.map fun i=>(Value.pointer (some ⟨i.sd,0,none⟩):Value)) (some wz) (30+2*l.length) (31+2*l.length) (by omega) (by omega) (by omega) (by omega) h.bk (by rw [hvl];exact h.row) h.v0c (by omega) hst hs (by omega) hok (fun wz' e=>by cases e;exact ⟨hn,h.wzm,h.wzb⟩)).mono fun e w' ⟨q1,q2⟩=>⟨q1,?_⟩
  obtain ⟨col',v0',sd,x,y,vs,vr,vw,hv,r1,r2,r3,r4,r5,r6,r7,r8,r9,r10,r11⟩:=q2.ex
  have r1':Bk base col' w' p v0' (c+3145731):=r1.frame (fun _ _ _=>rfl) (fun _ _ _=>rfl) r1.low (Nat.le_refl _) (by omega)
  have hfits:=fits_of_short hs
  refine ⟨v0',l++[⟨sd,x,y,n,vs,vr,vw,initR n n.streams⟩],col',by simp,⟨fun i hi=>?_,r1',?_,r3,fun i j hi hj hij=>?_,by simp;omega,hz w' r9,h.wzb⟩,r10,r9⟩
  ·rcases Nat.lt_or_ge i l.length with hlt | hge
   ·rw [List.getElem_append_left hlt]
    exact hold w' col' v0' _ (by omega) r1' r9 r10 i hlt
   ·have:i=l.length:=by simp at hi;omega
    subst this
    rw [List.getElem_append_right (Nat.le_refl _)]
    simp only [Nat.sub_self,List.getElem_cons_zero]
    exact ⟨⟨⟨r6,r4,r7,r8 wz rfl⟩,r1',hz w' r9,h.wzb,by omega,by omega,by omega,by omega,by omega,hfits,by rw [← hv];exact hn,hs⟩,Fine.init hok hfits⟩
  ·rw [List.length_append,List.map_append]
   rw [hvl] at r2
   exact r2
  ·have hlt:∀ a (ha:a<l.length),l[a].sd<w.heap.size:=fun a ha=>lt_of_blk (h.side a ha).1.at'.blk
   rcases Nat.lt_or_ge i l.length with h3 | h3
   ·rw [List.getElem_append_left h3]
    rcases Nat.lt_or_ge j l.length with h4 | h4
    ·rw [List.getElem_append_left h4];exact h.dist i j h3 h4 hij
    ·rw [List.getElem_append_right h4]
     have:=hlt i h3
     simp
     omega
   ·rw [List.getElem_append_right h3]
    rcases Nat.lt_or_ge j l.length with h4 | h4
    ·rw [List.getElem_append_left h4]
     have:=hlt j h4
     simp
     omega
    ·simp at hi hj;omega
theorem play_new {w1:World} (hp:w1.heap[p]? = some (.cells #[.slice none 0 0,.slice none 0 0,.slice none 0 0,.slice none 0 0,.slice none 0 0,.slice none 0 0,.slice none 0 0,.slice none 0 0] 35 (0,0))) (hge:wz.heap.size≤p) (hz:Below wz.heap.size wz w1) :
  PlayAt wz wz.heap.size p (.slice none 0 0) 0 0 [] (fun b=>if b<wz.heap.size then 99 else if b=p then 0 else 21) w1:=by
 have hn:¬ p<wz.heap.size:=by omega
 have h0:(fun b=>if b<wz.heap.size then 99 else if b=p then 0 else 21) p=0:=by simp [hn]
 exact ⟨(fun i hi=>by simp at hi),bk_new hp h0 hge (fun b h=>by simp [h]),⟨rfl,Or.inl ⟨rfl,rfl⟩⟩,(fun g hg=>by cases hg),(fun i j hi=>by simp at hi),by simp,hz,Nat.le_refl _⟩
end
theorem RStep.grow {L:RLay} {w w':World} {N:Net} {R:Rc} (h:RefAt L w N R) (hc:RCodes L w N) {s:Nat} (hs:s<N.streams.length) {ds:List Value} (hd:w.heap[L.gS]? = some (.cells ds.toArray 88 (0,0)))
  (hd2:∀ s,s<N.streams.length→∀ j,j<5→ds[s*5+j]? = (sCells N (R.s s) s (L.VW s))[j]?) (hf:Fr (fun b=>b=L.gS) w w') (hg:w'.heap[L.gS]? = some (.cells (ds.set (s*5+4) (.int .i64 (((R.s s).room+1:Nat):Int))).toArray 88 (0,0))) :
  RStep L w N (growS R s) w':=by
 have hfr:Fr (RFoot L N) w w':=hf.mono fun b _ e=>by subst e;exact Or.inr (Or.inl rfl)
 have hl:s*5+4<ds.length:=by
  have:=hd2 s hs 4 (by decide)
  exact (List.getElem?_eq_some_iff.1 (this.trans rfl)).1
 have hblk:∀ b,RFoot L N b→b≠L.gS→w'.heap[b]? = w.heap[b]? := fun b hb hne=>hf.block b (h.foot_lt hb) hne
 have hle:=h.le s hs
 refine ⟨⟨_,h.stream hs (L.VW s) { R.s s with room:=(R.s s).room+1} _ (fun b hb hne _=>hblk b hb hne) hg (fun t ht j hj=>?_) ?_ (fun t ht hne g hg=>h.inj s t hs ht (fun e=>hne e.symm) g hg) hle (fun j hj=>hc w' hfr j hj),rfl,rfl,rfl,fun b hb=>Or.inl ?_⟩,hfr⟩
 ·rw [set5_get (by decide) hl t j hj]
  by_cases e:t=s
  ·subst e
   rw [if_pos rfl]
   rcases (show j=0∨j=1∨j=2∨j=3∨j=4 by omega) with rfl | rfl | rfl | rfl | rfl
   ·rw [if_neg (by omega),hd2 t ht 0 (by decide)];rfl
   ·rw [if_neg (by omega),hd2 t ht 1 (by decide)];rfl
   ·rw [if_neg (by omega),hd2 t ht 2 (by decide)];rfl
   ·rw [if_neg (by omega),hd2 t ht 3 (by decide)];rfl
   ·rw [if_pos ⟨rfl,rfl⟩];rfl
  ·rw [if_neg (fun x=>e x.1),if_neg e];exact hd2 t ht j hj
 ·exact own_of_blockB (h.words s hs) fun g hg=>hblk g (Or.inr (Or.inr (Or.inr ⟨s,hs,hg⟩))) fun e=>own_ne_type (h.words s hs) hd (by decide) (e ▸ hg)
 ·rcases hb with rfl | rfl | rfl | ⟨t,ht,hb⟩
  ·exact Or.inl rfl
  ·exact Or.inr (Or.inl rfl)
  ·exact Or.inr (Or.inr (Or.inl rfl))
  ·refine Or.inr (Or.inr (Or.inr ⟨t,ht,?_⟩))
   by_cases e:t=s
   ·subst e;simpa using hb
   ·simpa [e] using hb
def LeastAt (N:Net) (R:Rc) (k:Nat):Option Nat→Prop
 | none=>∀ s:Nat,needsB N R s k=false
 | some t=>needsB N R t k=true∧∀ s:Nat,needsB N R s k=true→(R.s t).room<(R.s s).room∨((R.s t).room=(R.s s).room∧t≤s)
theorem needs_succ (N:Net) (R:Rc) (s:Nat) (k:Nat):needsB N R s (k+1)=(needsB N R s k || wantsB N R s k):=range_any_succ _ _
theorem wants_not {N:Net} {R:Rc} {k:Nat} (h:stateOf N R k≠3) (s:Int):wantsB N R s k=false:=by simp [wantsB,h]
theorem state3_ins {N:Net} {R:Rc} {k:Nat} (hv:validB N=true) (hk:k<N.workers.length) (h:stateOf N R k=3):∃ (i:Ins) (s:Nat),(codeOf N k)[(R.w k).place]? = some i∧i.b=s∧s<N.streams.length∧∀ u:Nat,wantsB N R u k=decide (u=s):=by
 cases hi:insAt N k (R.w k) with
 | none=>simp [stateOf,hi] at h
 | some i=>
  have h3:=h
  simp only [stateOf,hi] at h
  have h2:i.op=2:=by
   split at h
   ·cases h
   ·split at h
    ·rename_i ho;exact ho.1
    ·cases h
  have hm:i∈codeOf N k:=List.mem_of_getElem? hi
  have hvs:=valid_stream (valid_ins hv hk hm) (Or.inr h2)
  refine ⟨i,i.b.toNat,hi,by omega,by omega,fun u=>?_⟩
  simp only [wantsB,h3,hi,beq_self_eq_true,Bool.true_and]
  by_cases e:u=i.b.toNat
  ·have h1:(i.b == (u:Int))=true:=by rw [beq_iff_eq];omega
   rw [h1,decide_eq_true e]
  ·have h1:(i.b == (u:Int))=false:=by rw [beq_eq_false_iff_ne];omega
   rw [h1,decide_eq_false e]
theorem LeastAt.skip {N:Net} {R:Rc} {k:Nat} {o:Option Nat} (h:LeastAt N R k o) (hs:stateOf N R k≠3):LeastAt N R (k+1) o:=by
 have e:∀ s:Nat,needsB N R s (k+1)=needsB N R s k:=fun s=>by rw [needs_succ,wants_not hs,Bool.or_false]
 cases o with
 | none=>intro s;rw [e];exact h s
 | some t=>exact ⟨by rw [e];exact h.1,fun s hs'=>h.2 s (by rw [← e];exact hs')⟩
theorem LeastAt.take {N:Net} {R:Rc} {k s:Nat} {o:Option Nat} (h:LeastAt N R k o) (hw:∀ u:Nat,wantsB N R u k=decide (u=s)) (hb:∀ t,o=some t→(R.s s).room<(R.s t).room∨((R.s s).room=(R.s t).room∧s<t)):LeastAt N R (k+1) (some s):=by
 refine ⟨by rw [needs_succ,hw];simp,fun u hu=>?_⟩
 rw [needs_succ,hw,Bool.or_eq_true,decide_eq_true_eq] at hu
 rcases hu with hu | rfl
 ·cases o with
  | none=>rw [h u] at hu;cases hu
  | some t=>
   have h1:=h.2 u hu
   have h2:=hb t rfl
   omega
 ·exact Or.inr ⟨rfl,Nat.le_refl _⟩
theorem LeastAt.stay {N:Net} {R:Rc} {k s t:Nat} (h:LeastAt N R k (some t)) (hw:∀ u:Nat,wantsB N R u k=decide (u=s)) (hb:¬ ((R.s s).room<(R.s t).room∨((R.s s).room=(R.s t).room∧s<t))):LeastAt N R (k+1) (some t):=by
 refine ⟨by rw [needs_succ,h.1];rfl,fun u hu=>?_⟩
 rw [needs_succ,hw,Bool.or_eq_true,decide_eq_true_eq] at hu
 rcases hu with hu | rfl
 ·exact h.2 u hu
 ·omega
theorem LeastAt.lt {N:Net} {R:Rc} {k t:Nat} (h:LeastAt N R k (some t)) (hv:validB N=true) (hk:k≤N.workers.length):t<N.streams.length:=by
 obtain ⟨j,hj,hp⟩:=List.any_eq_true.1 h.1
 have hj':=List.mem_range.1 hj
 refine (needs_stream (R:=R) (s:=t) hv ?_).1
 exact List.any_eq_true.2 ⟨j,List.mem_range.2 (by omega),hp⟩
theorem LeastAt.tight {N:Net} {R:Rc} {t:Nat} (h:LeastAt N R N.workers.length (some t)) (hv:validB N=true):TightIn N R N.streams.length t:=⟨h.lt hv (Nat.le_refl _),h.1,fun s _ hs=>h.2 s hs⟩
theorem goes_succ (N:Net) (R:Rc) (k:Nat):goesB N R (k+1)=(goesB N R k || stateOf N R k == 1):=range_any_succ _ _
set_option maxRecDepth 100000 in
set_option maxHeartbeats 4000000 in
theorem refGrow_calls {L:RLay} {w:World} {N:Net} {R:Rc} (h:RefAt L w N R) (hco:RCodes L w N) (hro:RoomR N R) :
  Calls Tryz.prog 36 #[.pointer (some ⟨L.p,0,none⟩)] w fun e w'=>∃ a b o,Grows N R a b o∧e=.returned (.tuple #[.int .i64 a,.int .i64 b])∧RStep L w N (o.elim R (growS R)) w':=by
 have hv:=h.ok
 obtain ⟨-,hs8, -,hw6⟩:=valid_counts h.ok
 obtain ⟨ds,hd,hd2⟩:=h.rowS
 have HRo:=hide hro
 have HH:Hid (∀ wx,Below w.heap.size w wx→RefAt L wx N R):=fun wx hx=>h.below hx
 have HSt:Hid (∀ wx (k:Nat),k<N.workers.length→Below w.heap.size w wx→Calls Tryz.prog 63 #[.pointer (some ⟨L.p,0,none⟩),.int .i64 k] wx fun e w'=>e=.returned (.int .i64 (stateOf N R k))∧Below w.heap.size w w'):=fun wx k hk hx=>(refState_calls (h.below hx) k hk).mono fun e w' ⟨q1,q2⟩=>⟨q1,hx.trans (q2.mono hx.size)⟩
 have HNo:Hid (∀ wx,Below w.heap.size w wx→RStep L w N R wx):=fun wx hx=>RStep.of_below h hx
 have HGr:Hid (∀ wx (s:Nat),s<N.streams.length→Below w.heap.size w wx→(wx.cell? ⟨L.gS,s*5+4,none⟩=some (.int .i64 ((R.s s).room:Int))∧wx.frozen? ⟨L.gS,s*5+4,none⟩=false)∧RStep L w N (growS R s) (wx.setCell ⟨L.gS,s*5+4,none⟩ (.int .i64 (((R.s s).room:Int)+1)))):=fun wx s hs hx=>by
  have hg:wx.heap[L.gS]? = some (.cells ds.toArray 88 (0,0)):=(hx.block _ (lt_of_blk hd)).trans hd
  refine ⟨⟨(h.below hx).sc hs 4 _ (by decide) rfl,row_frozen hg _⟩,RStep.grow h hco hs hd hd2 (Fr.setCell (S:=fun b=>b=L.gS) (Fr.of_below hx) (p:=⟨L.gS,s*5+4,none⟩) (Or.inr rfl) _) ?_⟩
  have:=blk_set hg (s*5+4) (.int .i64 (((R.s s).room:Int)+1))
  simpa using this
 have HV:=hide hv
 obtain ⟨p0, -⟩:=blk_cell (l:=[_,_]) h.blk 0 _ rfl
 obtain ⟨p1, -⟩:=blk_cell (l:=[_,_]) h.blk 1 _ rfl
 clear h hco hro hd hd2 hv
 go_enter Tryz.func36,Tryz.ntmps36
 go_wp2
 go_loopw [4,5,6,7] (fun lv i _ _ wr=>∃ (k:Nat) (o:Option Nat),k≤N.workers.length∧i=.int .i64 k∧Below w.heap.size w wr∧goesB N R k=false∧LeastAt N R k o∧((o=none∧lv=.int .i64 (-1))∨∃ t:Nat,o=some t∧lv=.int .i64 t)) (fun _ i _ _ _=>N.workers.length-(intOf i).toNat)
 case atStart=>exact ⟨0,none,Nat.zero_le _,rfl,Below.refl _ _,rfl,(fun s=>rfl),Or.inl ⟨rfl,rfl⟩⟩
 case round=>
  obtain ⟨k,o,hk,rfl,hb,hgo,hle,hlv⟩:=hrel
  clear p0 p1
  have hR:=HH.out _ hb
  obtain ⟨p0, -⟩:=blk_cell (l:=[_,_]) hR.blk 0 _ rfl
  obtain ⟨p1, -⟩:=blk_cell (l:=[_,_]) hR.blk 1 _ rfl
  by_cases hlt:k<N.workers.length
  ·have HC:=hide (HSt.out wr k hlt hb)
   have HNx:Hid (stateOf N R k≠1→goesB N R (k+1)=false):=fun e=>by rw [goes_succ,hgo];simpa using e
   have HG1:Hid (stateOf N R k=1→Grows N R 0 3 none):=fun e=>Grows.goes (range_any_of hlt (by rw [e];rfl))
   have HLe:=hide hle
   have hk0:(0:Int)≤(k:Int):=by omega
   have hk1:(k:Int)<(N.workers.length:Int):=by omega
   by_cases h1:stateOf N R k=1
   ·have HG:=hide (HG1.out h1)
    rw [h1] at HC
    clear hR hgo hle HNx HG1 HLe hb
    go_wp2_with fail
    refine (unhide HC).mono ?_
    rintro e w1 ⟨rfl,hb1⟩
    have HR1:=hide (HNo.out w1 hb1)
    clear hb1 HC p0 p1
    rcases hlv with ⟨rfl,rfl⟩ | ⟨t,rfl,rfl⟩
    ·go_wp2
     go_ret2
     exact ⟨0,3,none,HG.out,rfl,HR1.out⟩
    ·go_wp2
     go_ret2
     exact ⟨0,3,none,HG.out,rfl,HR1.out⟩
   ·have hg1:=HNx.out h1
    by_cases h3:stateOf N R k=3
    ·obtain ⟨i,s,hi,his,hss,hwn⟩:=state3_ins HV.out hlt h3
     obtain ⟨iop,ia,ib,ic⟩:=i
     dsimp only at his
     subst his
     rw [h3] at HC
     clear hR hgo hle HNx HG1 hb h1
     go_wp2_with fail
     refine (unhide HC).mono ?_
     rintro e w1 ⟨rfl,hb1⟩
     have hR1:=HH.out w1 hb1
     clear p0 p1 HC
     obtain ⟨p0, -⟩:=blk_cell (l:=[_,_]) hR1.blk 0 _ rfl
     obtain ⟨p1, -⟩:=blk_cell (l:=[_,_]) hR1.blk 1 _ rfl
     have x0:w1.cell? ⟨L.gW,k*7,none⟩=some (L.VC k):=hR1.wc hlt 0 _ (by decide) rfl
     have x1:=hR1.wc hlt 1 _ (by decide) rfl
     obtain ⟨ca,cc,hvc,hc63,hccap,hcells⟩:=(hR1.code k hlt).openD
     rw [hvc] at x0
     have hpl:(R.w k).place<(codeOf N k).length:=(List.getElem?_eq_some_iff.1 hi).1
     have hgi:(codeOf N k).getD (R.w k).place ⟨0,0,0,0⟩=⟨iop,ia,s,ic⟩:=by rw [getD_eq _ _ _ hpl];exact (List.getElem?_eq_some_iff.1 hi).2
     obtain ⟨cb,co,rfl,hcb,hcell⟩:=hcells _ hpl
     obtain ⟨d0,d1,d2,d3⟩:=hcell w1 (Below.refl _ _)
     rw [hgi] at d2
     dsimp only at d2
     have hp0:(0:Int)≤((R.w k).place:Int):=by omega
     have hp1:((R.w k).place:Int)<((codeOf N k).length:Int):=by omega
     have r4:=hR1.sc hss 4 _ (by decide) rfl
     have hs0:(0:Int)≤(s:Int):=by omega
     have hs1:(s:Int)<(N.streams.length:Int):=by omega
     have HB1:Hid (∀ q,Below w.heap.size w (w1.drewN q)):=fun q=>below_drewN hb1 q
     have HR1:=hide hR1
     clear hcells hcell hgi hvc hi d0 d1 d3 hb1 hR1
     rcases hlv with ⟨rfl,rfl⟩ | ⟨t,rfl,rfl⟩
     ·have HL2:Hid (LeastAt N R (k+1) (some s)):=HLe.out.take hwn (fun t e=>by cases e)
      clear hwn HLe
      go_wp2
      go_quiet (fail)
      go_wp2
      go_quiet (fail)
      go_wp2
      go_roundw
      case rel=>exact ⟨k+1,some s,by omega,by go_num,HB1.out _,hg1,HL2.out,Or.inr ⟨s,rfl,rfl⟩⟩
      case measure=>simp [intOf];omega
     ·have htl:t<N.streams.length:=HLe.out.lt HV.out (by omega)
      have r4t:=HR1.out.sc htl 4 _ (by decide) rfl
      have ht0:(0:Int)≤(t:Int):=by omega
      have ht1:(t:Int)<(N.streams.length:Int):=by omega
      have htn:decide ((t:Int)<0)=false:=by simp
      by_cases q1:(R.s s).room<(R.s t).room
      ·have q1':decide (((R.s s).room:Int)<((R.s t).room:Int))=true:=by simpa using q1
       have n1:¬ (R.s t).room≤(R.s s).room:=by omega
       have HL2:Hid (LeastAt N R (k+1) (some s)):=HLe.out.take hwn (fun t' e=>by cases e;exact Or.inl q1)
       clear hwn HLe HR1 q1
       go_wp2
       go_quiet (fail)
       go_wp2
       have HB2:Hid (∀ q,Below w.heap.size w ((w1.drewN nq).drewN q)):=fun q=>below_drewN (HB1.out nq) q
       have hcell:∀ a,(w1.drewN nq).cell? a=w1.cell? a:=fun _=>rfl
       rw [← hcell] at p0 r4 r4t
       clear hcell p1 x0 x1 d2 HB1
       generalize w1.drewN nq=w2 at *
       refine wp_region_still_tail 44 Tryz.mixed (by kernel_rfl) ?_
       simp only [List.take_succ_cons,List.take_zero,List.drop_succ_cons,List.drop_zero]
       iterate 44 still_step
       refine wpStill_nil ?_
       show wpList _ _ _ _ _ w2.drew
       go_wp2
       go_roundw
       case rel=>exact ⟨k+1,some s,by omega,by go_num,HB2.out 1,hg1,HL2.out,Or.inr ⟨s,rfl,rfl⟩⟩
       case measure=>simp [intOf];omega
      ·have q1':decide (((R.s s).room:Int)<((R.s t).room:Int))=false:=by simpa using q1
       have n1:(R.s t).room≤(R.s s).room:=by omega
       by_cases q2:(R.s s).room=(R.s t).room
       ·have q2':(((R.s s).room:Int) == ((R.s t).room:Int))=true:=by rw [beq_iff_eq];omega
        have n2:((R.s s).room=(R.s t).room)=True:=eq_true q2
        by_cases q3:s<t
        ·have q3':decide ((s:Int)<(t:Int))=true:=by simpa using q3
         have n3:s<t:=q3
         have HL2:Hid (LeastAt N R (k+1) (some s)):=HLe.out.take hwn (fun t' e=>by cases e;exact Or.inr ⟨q2,q3⟩)
         clear q2 q3
         clear hwn HLe HR1 q1
         go_wp2
         go_quiet (fail)
         go_wp2
         have HB2:Hid (∀ q,Below w.heap.size w ((w1.drewN nq).drewN q)):=fun q=>below_drewN (HB1.out nq) q
         have hcell:∀ a,(w1.drewN nq).cell? a=w1.cell? a:=fun _=>rfl
         rw [← hcell] at p0 r4 r4t
         clear hcell p1 x0 x1 d2 HB1
         generalize w1.drewN nq=w2 at *
         refine wp_region_still_tail 44 Tryz.mixed (by kernel_rfl) ?_
         simp only [List.take_succ_cons,List.take_zero,List.drop_succ_cons,List.drop_zero]
         iterate 44 still_step
         refine wpStill_nil ?_
         show wpList _ _ _ _ _ w2.drew
         go_wp2
         go_roundw
         case rel=>exact ⟨k+1,some s,by omega,by go_num,HB2.out 1,hg1,HL2.out,Or.inr ⟨s,rfl,rfl⟩⟩
         case measure=>simp [intOf];omega
        ·have q3':decide ((s:Int)<(t:Int))=false:=by simpa using q3
         have n3:t≤s:=by omega
         have HL2:Hid (LeastAt N R (k+1) (some t)):=HLe.out.stay hwn (by omega)
         clear q2 q3
         clear hwn HLe HR1 q1
         go_wp2
         go_quiet (fail)
         go_wp2
         have HB2:Hid (∀ q,Below w.heap.size w ((w1.drewN nq).drewN q)):=fun q=>below_drewN (HB1.out nq) q
         have hcell:∀ a,(w1.drewN nq).cell? a=w1.cell? a:=fun _=>rfl
         rw [← hcell] at p0 r4 r4t
         clear hcell p1 x0 x1 d2 HB1
         generalize w1.drewN nq=w2 at *
         refine wp_region_still_tail 44 Tryz.mixed (by kernel_rfl) ?_
         simp only [List.take_succ_cons,List.take_zero,List.drop_succ_cons,List.drop_zero]
         iterate 44 still_step
         refine wpStill_nil ?_
         show wpList _ _ _ _ _ w2.drew
         go_wp2
         go_roundw
         case rel=>exact ⟨k+1,some t,by omega,by go_num,HB2.out 1,hg1,HL2.out,Or.inr ⟨t,rfl,rfl⟩⟩
         case measure=>simp [intOf];omega
       ·have q2':(((R.s s).room:Int) == ((R.s t).room:Int))=false:=by rw [beq_eq_false_iff_ne];omega
        have HL2:Hid (LeastAt N R (k+1) (some t)):=HLe.out.stay hwn (by omega)
        clear hwn HLe HR1 q1
        go_wp2
        go_quiet (fail)
        go_wp2
        have HB2:Hid (∀ q,Below w.heap.size w ((w1.drewN nq).drewN q)):=fun q=>below_drewN (HB1.out nq) q
        have hcell:∀ a,(w1.drewN nq).cell? a=w1.cell? a:=fun _=>rfl
        rw [← hcell] at p0 r4 r4t
        clear hcell p1 x0 x1 d2 HB1
        generalize w1.drewN nq=w2 at *
        refine wp_region_still_tail 44 Tryz.mixed (by kernel_rfl) ?_
        simp only [List.take_succ_cons,List.take_zero,List.drop_succ_cons,List.drop_zero]
        iterate 44 still_step
        refine wpStill_nil ?_
        show wpList _ _ _ _ _ w2.drew
        go_wp2
        go_roundw
        case rel=>exact ⟨k+1,some t,by omega,by go_num,HB2.out 1,hg1,HL2.out,Or.inr ⟨t,rfl,rfl⟩⟩
        case measure=>simp [intOf];omega
    ·have HL2:Hid (LeastAt N R (k+1) o):=HLe.out.skip h3
     have e1:(((stateOf N R k:Nat):Int) == 1)=false:=by rw [beq_eq_false_iff_ne];omega
     have e3:(((stateOf N R k:Nat):Int) == 3)=false:=by rw [beq_eq_false_iff_ne];omega
     generalize stateOf N R k=st at *
     clear hR hgo hle HNx HG1 hb h1 h3 HLe
     go_wp2_with fail
     refine (unhide HC).mono ?_
     rintro e w1 ⟨rfl,hb1⟩
     have HB1:=hide hb1
     clear hb1 HC p0 p1
     go_wp2
     go_roundw
     case rel=>exact ⟨k+1,o,by omega,by go_num,HB1.out,hg1,HL2.out,hlv⟩
     case measure=>simp [intOf];omega
  ·have hke:k=N.workers.length:=by omega
   have hk1:¬ (k:Int)<(N.workers.length:Int):=by omega
   subst hke
   rcases hlv with ⟨rfl,rfl⟩ | ⟨t,rfl,rfl⟩
   ·have HG:Hid (Grows N R 0 3 none):=Grows.none (fun s _=>hle s)
    have HR1:=hide (HNo.out wr hb)
    clear hR hgo hle hb
    go_wp2
    go_ret2
    exact ⟨0,3,none,HG.out,rfl,HR1.out⟩
   ·have htl:t<N.streams.length:=hle.lt HV.out (Nat.le_refl _)
    have ht:=hle.tight HV.out
    have hrm:=HRo.out t htl
    obtain ⟨⟨r4,f4⟩,hgr⟩:=HGr.out wr t htl hb
    have HG2:=hide hgr
    have HR1:=hide (HNo.out wr hb)
    have ht0:(0:Int)≤(t:Int):=by omega
    have ht1:(t:Int)<(N.streams.length:Int):=by omega
    have htn:¬ (t:Int)<0:=by omega
    by_cases h40:(R.s t).room=40
    ·have HG:Hid (Grows N R 0 4 none):=Grows.full hgo ht h40
     have q:(40:Int)≤((R.s t).room:Int):=by omega
     clear hR hgo hle hb ht hgr h40 hrm
     go_wp2
     go_ret2
     exact ⟨0,4,none,HG.out,rfl,HR1.out⟩
    ·have HG:Hid (Grows N R t 0 (some t)):=Grows.grows hgo ht (by omega)
     have q:¬ (40:Int)≤((R.s t).room:Int):=by omega
     clear hR hgo hle hb ht hgr h40
     go_wp2
     go_ret2
     exact ⟨t,0,some t,HG.out,rfl,HG2.out⟩
theorem rhas_grow {wz:World} {A:Nat→Prop} {p:Nat} {N:Net} {R:Rc} {w:World} (h:RHas wz A p N R w) (hro:RoomR N R) (hz:Below wz.heap.size wz w) (hA:∀ b,b<wz.heap.size→A b) :
  Calls Tryz.prog 36 #[.pointer (some ⟨p,0,none⟩)] w fun e w'=>∃ a b o,Grows N R a b o∧e=.returned (.tuple #[.int .i64 a,.int .i64 b])∧RHas wz A p N (o.elim R (growS R)) w'∧Keeps A w w':=by
 obtain ⟨L,rfl,h2,h3,h4⟩:=h.ex
 exact (refGrow_calls h2 (RHas.codes h3 h4 hz hA) hro).mono fun e w' ⟨a,b,o,q1,q2,q3⟩=>⟨a,b,o,q1,q2,RHas.went h3 h4 h.lt q3⟩
theorem first_some {N:Net} {S:Rc} {n j:Nat} (hj:j<n) (h1:stateOf N S j=1) (h0:∀ i,i<j→stateOf N S i≠1):firstGo N S n=some j:=by
 unfold firstGo
 rw [List.find?_range_eq_some]
 exact ⟨by simp [h1],List.mem_range.2 hj,fun i hi=>by simp [h0 i hi]⟩
theorem first_none {N:Net} {S:Rc} {n:Nat} (h0:∀ i,i<n→stateOf N S i≠1):firstGo N S n=none:=by
 unfold firstGo
 rw [List.find?_range_eq_none]
 exact fun i hi=>by simp [h0 i hi]
structure RWn (wz:World) (A:Nat→Prop) (p:Nat) (N:Net) (w:World) (S:Rc) (wr:World):Prop where
 has:RHas wz A p N S wr
 keeps:Keeps A w wr
theorem RWn.wzm {wz:World} {A:Nat→Prop} {p:Nat} {N:Net} {w:World} {S:Rc} {wr:World} (h:RWn wz A p N w S wr) (hz:Below wz.heap.size wz w) (hA:∀ b,b<wz.heap.size→A b):Below wz.heap.size wz wr:=hz.trans (h.keeps.below hz.size hA)
theorem RWn.row {wz:World} {A:Nat→Prop} {p:Nat} {N:Net} {w:World} {S:Rc} {wr:World} (h:RWn wz A p N w S wr):∃ g c,wr.cell? ⟨p,1,none⟩=some (.slice (some ⟨g,0,none⟩) N.workers.length c):=by
 obtain ⟨L,rfl,h2, -, -⟩:=h.has.ex
 exact ⟨_,_,(blk_cell (l:=[_,_]) h2.blk 1 _ rfl).1⟩
set_option maxHeartbeats 1000000 in
theorem refFlow_out {p:Nat} {w:World} (most:Int) (h:most<0∨100000<most) :
  Calls Tryz.prog 39 #[.pointer (some ⟨p,0,none⟩),.int .i64 most] w fun e w'=>e=.returned (.tuple #[.int .i64 0,.int .i64 2])∧w'=w:=by
 by_cases h0:most<0
 ·have h0':decide (most<0)=true:=by simpa using h0
  go_enter Tryz.func39,Tryz.ntmps39
  go_wp2
  go_ret2
  exact ⟨rfl,rfl⟩
 ·have h1:100000<most:=h.resolve_left h0
  have h0':decide (most<0)=false:=by simpa using h0
  have h1':decide (100000<most)=true:=by simpa using h1
  go_enter Tryz.func39,Tryz.ntmps39
  go_wp2
  go_ret2
  exact ⟨rfl,rfl⟩
set_option maxRecDepth 100000 in
set_option maxHeartbeats 4000000 in
theorem rhas_flow {wz:World} {A:Nat→Prop} {p:Nat} {N:Net} {R:Rc} {w:World} (h:RHas wz A p N R w) (hlen:R.S.length=N.streams.length) (hv:validB N=true) (hro:RoomR N R) (hw:∀ s,s<N.streams.length→(R.s s).words.length+100000<4398046511104) (hz:Below wz.heap.size wz w) (hA:∀ b,b<wz.heap.size→A b) (m:Nat) (hm:m≤100000) :
  Calls Tryz.prog 39 #[.pointer (some ⟨p,0,none⟩),.int .i64 m] w fun e w'=>∃ (d:Nat) (b:Int) (S:Rc),FlowEnd N R m d b S∧e=.returned (.tuple #[.int .i64 (d:Nat),.int .i64 b])∧RHas wz A p N S w'∧Keeps A w w':=by
 obtain ⟨-, -, -,hw6⟩:=valid_counts hv
 have HSt:Hid (∀ d wx S (k:Nat),Held N R d S→d≤100000→k<N.workers.length→RWn wz A p N w S wx→Calls Tryz.prog 61 #[.pointer (some ⟨p,0,none⟩),.int .i64 k] wx fun e w'=>e=.returned (.int .i64 (stateOf N S k))∧RWn wz A p N w (stepR N S k) w'):=fun d wx S k hh hd hk hq=>
  (rhas_step hq.has k hk (fun s hs=>by have:=hh.words s hs;have:=hw s hs;omega) (hq.wzm hz hA) hA).mono fun e w' ⟨q1,q2,q3⟩=>⟨q1,q2,hq.keeps.trans q3⟩
 have HG:Hid (∀ d wx S,Held N R d S→RWn wz A p N w S wx→Calls Tryz.prog 36 #[.pointer (some ⟨p,0,none⟩)] wx fun e w'=>∃ a b,e=.returned (.tuple #[.int .i64 a,.int .i64 b])∧((Grows N S a b none∧RWn wz A p N w S w')∨(∃ t,b=0∧Grows N S a b (some t)∧RWn wz A p N w (growS S t) w'))):=fun d wx S hh hq=>
  (rhas_grow hq.has hh.room (hq.wzm hz hA) hA).mono fun e w' ⟨a,b,o,q1,q2,q3,q4⟩=>by
   refine ⟨a,b,q2,?_⟩
   cases o with
   | none=>exact Or.inl ⟨q1,q3,hq.keeps.trans q4⟩
   | some t=>exact Or.inr ⟨t,(grows_ok q1).2.1,q1,q3,hq.keeps.trans q4⟩
 have HRo:Hid (∀ S wx,RWn wz A p N w S wx→∃ g c,wx.cell? ⟨p,1,none⟩=some (.slice (some ⟨g,0,none⟩) N.workers.length c)):=fun S wx hq=>hq.row
 have HH0:Hid (Held N R 0 R):=⟨hlen,hro,fun s hs=>Nat.le_refl _⟩
 have HW0:Hid (RWn wz A p N w R w):=⟨h,Fr.refl _ _⟩
 have HEnd:Hid (∀ S wx,RWn wz A p N w S wx→RHas wz A p N S wx∧Keeps A w wx):=fun S wx hq=>⟨hq.has,hq.keeps⟩
 have h0':decide ((m:Int)<0)=false:=by simp
 have h1':decide ((100000:Int)<(m:Int))=false:=by simp;omega
 clear hw hro h hlen hv hz hA
 generalize RWn wz A p N w=Wn at *
 go_enter Tryz.func39,Tryz.ntmps39
 go_wp2
 clear h0' h1'
 go_loopg [6,7,8,9,10,11] (m+slack N R) (fun g n _ _ _ _ _ wr=>∃ (d:Nat) (S:Rc),n=.int .i64 d∧d≤m∧g=(m-d)+slack N S∧FlowTo N m R d S∧Held N R d S∧Wn S wr)
 case atStart=>exact ⟨0,R,rfl,Nat.zero_le _,by omega,.refl,HH0.out,HW0.out⟩
 case round=>
  obtain ⟨d,S,rfl,hd,hg,hft,hhe,hwn⟩:=hrel
  have HD:=hide hg
  have HT:=hide hft
  have HE:=hide hhe
  have HWn:=hide hwn
  clear hg hft hhe hwn HH0 HW0
  by_cases hlt:d<m
  ·have hlt':(d:Int)<(m:Int):=by omega
   go_wp2
   go_loopw [7,8,9] (fun did wv _ wr=>∃ j:Nat,j≤N.workers.length∧wv=.int .i64 j∧((did=.bool false∧(∀ i,i<j→stateOf N S i≠1)∧Wn S wr)∨(did=.bool true∧∃ k,firstGo N S N.workers.length=some k∧Wn (doStep N S k) wr))) (fun _ wv _ _=>N.workers.length-(intOf wv).toNat)
   case atStart=>exact ⟨0,Nat.zero_le _,rfl,Or.inl ⟨rfl,(fun i hi=>by omega),HWn.out⟩⟩
   case round=>
    clear HWn
    obtain ⟨j,hj,rfl,hcase⟩:=hrel
    rcases hcase with ⟨rfl,hno,hwn⟩ | ⟨rfl,k,hfi,hwn⟩
    ·obtain ⟨g,c,p1⟩:=HRo.out S wr hwn
     by_cases hjl:j<N.workers.length
     ·have HC:=hide (HSt.out d wr S j HE.out (by omega) hjl hwn)
      have hj1:(j:Int)<(N.workers.length:Int):=by omega
      have HNo:=hide hno
      clear hno hwn
      by_cases h1:stateOf N S j=1
      ·rw [stepR,if_pos h1,h1] at HC
       have HFi:=hide (first_some hjl h1 HNo.out)
       clear h1 HNo
       go_wp2_with fail
       refine (unhide HC).mono ?_
       rintro e w1 ⟨rfl,hw1⟩
       have HW1:=hide hw1
       clear hw1 HC
       go_wp2
       go_roundw
       case rel=>exact ⟨j+1,by omega,by go_num,Or.inr ⟨rfl,j,HFi.out,HW1.out⟩⟩
       case measure=>simp [intOf];omega
      ·rw [stepR,if_neg h1] at HC
       have HN2:Hid (∀ i,i<j+1→stateOf N S i≠1):=fun i hi=>by
        rcases Nat.lt_or_ge i j with h2 | h2
        ·exact HNo.out i h2
        ·have:i=j:=by omega
         subst this;exact h1
       have q:(((stateOf N S j:Nat):Int) == 1)=false:=by rw [beq_eq_false_iff_ne];omega
       generalize stateOf N S j=st at *
       clear h1 HNo
       go_wp2_with fail
       refine (unhide HC).mono ?_
       rintro e w1 ⟨rfl,hw1⟩
       have HW1:=hide hw1
       clear hw1 HC
       go_wp2
       go_roundw
       case rel=>exact ⟨j+1,by omega,by go_num,Or.inl ⟨rfl,HN2.out,HW1.out⟩⟩
       case measure=>simp [intOf];omega
     ·have hje:j=N.workers.length:=by omega
      have hj1:¬ (j:Int)<(N.workers.length:Int):=by omega
      have HFi:Hid (firstGo N S N.workers.length=none):=first_none (fun i hi=>hno i (by omega))
      have HG1:=hide (HG.out d wr S HE.out hwn)
      clear hno hwn HG hje
      go_wp2_with fail
      refine (unhide HG1).mono ?_
      rintro e w2 ⟨a,b,rfl,⟨hgr,hw2⟩ | ⟨t,rfl,hgr,hw2⟩⟩
      ·have hb:(b != 0)=true:=by rcases grows_err hgr with rfl | rfl<;>rfl
       have HGr:=hide hgr
       have HW2:=hide (HEnd.out S w2 hw2)
       clear hgr hw2
       go_wp2
       go_ret2
       exact ⟨d,b,S,⟨HT.out,Or.inr ⟨hlt,HFi.out,a,HGr.out⟩⟩,rfl,HW2.out⟩
      ·obtain ⟨ha, -,htl,htr⟩:=grows_ok hgr
       subst ha
       have HGr:=hide hgr
       have HSl:=hide (slack_grow HE.out.len htl htr)
       have HHe:=hide (HE.out.grow htl htr)
       have HW2:=hide hw2
       clear hgr htl htr hw2
       go_wp2
       go_roundg ((m-d)+slack N (growS S t))
       case measure=>have:=HD.out;have:=HSl.out;omega
       case rel=>exact ⟨d,growS S t,rfl,hd,rfl,.tail HT.out (.grow hlt HFi.out HGr.out),HHe.out,HW2.out⟩
    ·obtain ⟨g,c,p1⟩:=HRo.out (doStep N S k) wr hwn
     have HFi:=hide hfi
     have HSl:=hide (slack_step (k:=k) HE.out.len)
     have HHe:=hide (HE.out.step (k:=k))
     have HW2:=hide hwn
     clear hfi hwn
     by_cases hjl:j<N.workers.length
     ·have hj1:(j:Int)<(N.workers.length:Int):=by omega
      go_wp2
      go_roundg ((m-(d+1))+slack N (doStep N S k))
      case measure=>have:=HD.out;have:=HSl.out;omega
      case rel=>exact ⟨d+1,doStep N S k,by go_num,by omega,rfl,.tail HT.out (.step hlt HFi.out),HHe.out,HW2.out⟩
     ·have hj1:¬ (j:Int)<(N.workers.length:Int):=by omega
      go_wp2
      go_roundg ((m-(d+1))+slack N (doStep N S k))
      case measure=>have:=HD.out;have:=HSl.out;omega
      case rel=>exact ⟨d+1,doStep N S k,by go_num,by omega,rfl,.tail HT.out (.step hlt HFi.out),HHe.out,HW2.out⟩
  ·have e:d=m:=by omega
   have HW2:=hide (HEnd.out S wr HWn.out)
   clear HWn
   subst e
   go_wp2
   go_ret2
   exact ⟨d,0,S,⟨HT.out,Or.inl ⟨rfl,rfl⟩⟩,rfl,HW2.out⟩
end Go.Proofs.YthfdgdfnflilfaaGreatDoor

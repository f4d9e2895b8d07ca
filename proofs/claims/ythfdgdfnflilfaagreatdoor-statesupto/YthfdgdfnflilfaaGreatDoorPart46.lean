/- Part 46: Open4. -/
import Derived.Test.YthfdgdfnflilfaaGreatDoorPart38
import Derived.Test.YthfdgdfnflilfaaGreatDoorPart40
namespace Go.Proofs.YthfdgdfnflilfaaGreatDoor
open Go.ChangeShapes Go.WideShapes Go.ChangeAt Go.RowKit Go.Deep
theorem bulks.many {H:Type} (k:Nat):∀ (l:List (DataW H)),(∀ d∈l,k≤Rows.uptoBulk d)→k*l.length≤Rows.uptoBulkAll l
 | [],_=>by simp [Rows.uptoBulkAll]
 | x::r,h=>by
  have h1:=h x (by simp)
  have h2:=bulks.many k r (fun d hd=>h d (by simp [hd]))
  simp only [Rows.uptoBulkAll,List.length_cons,Nat.mul_add,Nat.mul_one]
  omega
instance : Inhabited OpV:=⟨⟨0,0,[],none,0,⟨[],[],[]⟩,none,0,none,0,none,0,ByteArray.empty,false⟩⟩
section
variable {H:Type} {enc:TypeId×Value→H} {w:World}
theorem many_of_trod {t e:TypeId} {c fuel:Nat} {cs:List Value} {d:DataW H} {ps:List MemPlace} (ht:Tryz.prog.underlying t=some (.slice e)) (hc:Tryz.prog.cellsOf e=c) (hc0:0<c)
  (h:DataW.trod enc Tryz.prog w 0 (fun _=>true) true fuel t cs=some (d,ps)) (hb:Rows.uptoBulk d≤1048576) :
  ∃ (v:Value) (len n:Nat) (CS:Nat→List Value) (D:Nat→DataW H) (Pl:Nat→List MemPlace),cs=[v]∧(∀ k,(∀ i,i<len→k≤Rows.uptoBulk (D i))→k*len≤1048576)∧Sl w v len c (fun i j=>(CS i).getD j (.bool false)) ∧
   ∀ i,i<len→(CS i).length=c∧DataW.trod enc Tryz.prog w 0 (fun _=>true) true n e (CS i)=some (D i,Pl i)∧Rows.uptoBulk (D i)≤1048576:=by
 rcases open_slice ht h with ⟨rfl,h0⟩ | ⟨a,len,cap,m,n,D,Pl,rfl, -,hl,hm,hmm,hx,hi⟩
 ·exact ⟨.slice none 0 0,0,0,fun _=>[],fun _=>.nil,fun _=>[],rfl,(fun k _=>by omega),⟨none,0,rfl,by omega,by omega,Or.inl rfl⟩,fun i hi=>by omega⟩
 ·simp only [if_true] at hmm
  subst hmm
  obtain ⟨hd, -⟩:=Prod.mk.inj hx
  have hbl:∀ i,i<len→Rows.uptoBulk (D i)≤1048576:=fun i hi=>by
   rw [hd] at hb
   simp only [Rows.uptoBulk] at hb
   have:=bulks.part_le (d:=D i) (l:=(List.range len).map D) (List.mem_map.2 ⟨i,List.mem_range.2 hi,rfl⟩)
   omega
  have hlen:∀ k,(∀ i,i<len→k≤Rows.uptoBulk (D i))→k*len≤1048576:=fun k hk=>by
   rw [hd] at hb
   simp only [Rows.uptoBulk] at hb
   have:=bulks.many k ((List.range len).map D) (fun x hx=>by
    obtain ⟨i,hi,rfl⟩:=List.mem_map.1 hx
    exact hk i (List.mem_range.1 hi))
   simp at this
   omega
  rw [hc] at hi
  obtain ⟨CS,hCS⟩:=choose_lt (α := List Value) (p:=fun i cs'=>w.cells? 0 (a.add (i*c)) c=some cs'∧DataW.trod enc Tryz.prog w 0 (fun _=>true) true n e cs'=some (D i,Pl i)) hi
  have hcell:∀ i,i<len→(CS i).length=c∧∀ j,j<c→w.cell? ((a.add (i*c)).add j)=(CS i)[j]? := fun i hi'=>by
   obtain ⟨-,q1,q2⟩:=World.cells?_some (hCS i (by omega)).1
   exact ⟨q1,q2⟩
  have hl1:=hlen 1 (fun i _=>bulks.one_le _)
  refine ⟨_,len,n,CS,D,Pl,rfl,hlen,⟨some a,_,rfl,by omega,hl,?_⟩,fun i hi'=>⟨(hcell i hi').1,(hCS i (by omega)).2,hbl i hi'⟩⟩
  rcases Nat.eq_zero_or_pos len with h0 | h0
  ·exact Or.inl h0
  ·obtain ⟨b,off,spot⟩:=a
   have hspot:spot=none:=by
    have:=(hcell 0 h0).2 0 hc0
    rw [List.getElem?_eq_getElem (by rw [(hcell 0 h0).1];exact hc0)] at this
    simpa [Addr.add] using World.cell?_spot this
   subst hspot
   refine Or.inr ⟨b,off,rfl,fun i hi' j hj=>?_⟩
   have:=(hcell i hi').2 j hj
   rw [add_plain,add_plain] at this
   rw [this,List.getElem?_eq_getElem (by rw [(hcell i hi').1];exact hj)]
   simp [List.getD,(hcell i hi').1,hj]
set_option maxRecDepth 100000 in
theorem op_of_trod {fuel:Nat} {cs:List Value} {d:DataW H} {ps:List MemPlace} (h:DataW.trod enc Tryz.prog w 0 (fun _=>true) true fuel 65 cs=some (d,ps)) (hb:Rows.uptoBulk d≤1048576) :
  (∃ o:OpV,cs=o.vals∧OpAt w o)∧7≤Rows.uptoBulk d:=by
 obtain ⟨xs,n, -,hx,hl,hxs,hf⟩:=DataW.trod_struct Tryz.underlying65 h
 have c8:Tryz.prog.cellsOf 65=8:=by kernel_rfl
 have hl8:cs.length=8:=hl.trans c8
 have hx6:xs.length=6:=hxs
 have c3:Tryz.prog.cellsOf 3=1:=by kernel_rfl
 have c22:Tryz.prog.cellsOf 22=1:=by kernel_rfl
 have c26:Tryz.prog.cellsOf 26=3:=by kernel_rfl
 have c9:Tryz.prog.cellsOf 9=1:=by kernel_rfl
 have c4:Tryz.prog.cellsOf 4=1:=by kernel_rfl
 match cs,hl8,xs,hx6,hx with
 | [k0,k1,k2,k3,k4,k5,k6,k7],_,[y0,y1,y2,y3,y4,y5],_,hx=>
  have e0:DataW.trod enc Tryz.prog w 0 (fun _=>true) true n 3 (([k0,k1,k2,k3,k4,k5,k6,k7].drop 0).take (Tryz.prog.cellsOf 3))=some y0:=hf 0 _ rfl
  have e1:DataW.trod enc Tryz.prog w 0 (fun _=>true) true n 3 (([k0,k1,k2,k3,k4,k5,k6,k7].drop 1).take (Tryz.prog.cellsOf 3))=some y1:=hf 1 _ rfl
  have e2:DataW.trod enc Tryz.prog w 0 (fun _=>true) true n 22 (([k0,k1,k2,k3,k4,k5,k6,k7].drop 2).take (Tryz.prog.cellsOf 22))=some y2:=hf 2 _ rfl
  have e3:DataW.trod enc Tryz.prog w 0 (fun _=>true) true n 26 (([k0,k1,k2,k3,k4,k5,k6,k7].drop 3).take (Tryz.prog.cellsOf 26))=some y3:=hf 3 _ rfl
  have e4:DataW.trod enc Tryz.prog w 0 (fun _=>true) true n 9 (([k0,k1,k2,k3,k4,k5,k6,k7].drop 6).take (Tryz.prog.cellsOf 9))=some y4:=hf 4 _ rfl
  have e5:DataW.trod enc Tryz.prog w 0 (fun _=>true) true n 4 (([k0,k1,k2,k3,k4,k5,k6,k7].drop 7).take (Tryz.prog.cellsOf 4))=some y5:=hf 5 _ rfl
  rw [c3] at e0 e1
  rw [c22] at e2
  rw [c26] at e3
  rw [c9] at e4
  rw [c4] at e5
  have hd:d=.agg [y0.1,y1.1,y2.1,y3.1,y4.1,y5.1]:=by have:=(Prod.mk.inj hx).1;simpa using this
  rw [hd] at hb ⊢
  have b0:=bulks.one_le y0.1
  have b1:=bulks.one_le y1.1
  have b2:=bulks.one_le y2.1
  have b3:=bulks.one_le y3.1
  have b4:=bulks.one_le y4.1
  have b5:=bulks.one_le y5.1
  simp only [Rows.uptoBulk,Rows.uptoBulkAll] at hb ⊢
  obtain ⟨z0,g0, -⟩:=DataW.trod_int Tryz.underlying3 e0
  obtain ⟨z1,g1, -,hw1⟩:=DataW.trod_int Tryz.underlying3 e1
  obtain ⟨v2,l2,q2,r2,s2, -⟩:=ints_of_trod (d:=y2.1) (ps:=y2.2) e2 (by omega)
  obtain ⟨nn,hn,hsh⟩:=net_of_trod (v:=.agg #[k3,k4,k5]) (d:=y3.1) (ps:=y3.2) ⟨_,rfl⟩ e3 (by omega)
  obtain ⟨st,g4,hy4, -⟩:=DataW.trod_string Tryz.underlying9 e4
  obtain ⟨bb,g5, -⟩:=DataW.trod_bool Tryz.underlying4 e5
  obtain ⟨vs,vr,vw,hv,h1,h2,h3⟩:=id hn
  obtain ⟨a0,c0,rfl⟩:=h1.form
  obtain ⟨a1,c1,rfl⟩:=h2.form
  obtain ⟨a2,c2,rfl⟩:=h3.form
  obtain ⟨sa,sc,rfl, -, -, -⟩:=r2.open
  have hst:st.size≤1048576:=by
   have:Rows.uptoBulk y4.1=st.data.toList.length+1:=by rw [hy4];simp [Rows.uptoBulk]
   have e:st.data.toList.length=st.size:=rfl
   omega
  simp at g0 g1 q2 g4 g5 hv
  obtain ⟨rfl,rfl,rfl⟩:=hv
  refine ⟨⟨⟨z0,z1,l2,sa,sc,nn,a0,c0,a1,c1,a2,c2,st,bb⟩,?_,⟨r2,s2,hn,hsh,hst,inR_of_wf hw1⟩⟩,by omega⟩
  rw [g0,g1,q2,g4,g5]
  rfl
theorem script_of_trod {fuel:Nat} {cs:List Value} {d:DataW H} {ps:List MemPlace} (h:DataW.trod enc Tryz.prog w 0 (fun _=>true) true fuel 27 cs=some (d,ps)) (hb:Rows.uptoBulk d≤1048576) :
  ∃ v ops,cs=[v]∧ScriptAt w v ops:=by
 obtain ⟨v,len,n,CS,D,Pl,hcs,hlen,hsl,hi⟩:=many_of_trod (c:=8) (e:=65) Tryz.underlying27 (by kernel_rfl) (by decide) h hb
 have h7:=hlen 7 (fun i hi'=>(op_of_trod (hi i hi').2.1 (hi i hi').2.2).2)
 obtain ⟨V,hV⟩:=choose_lt (α := OpV) (n:=len) (p:=fun i x=>CS i=x.vals∧OpAt w x) (fun i hi'=>(op_of_trod (hi i hi').2.1 (hi i hi').2.2).1)
 have hl:((List.range len).map V).length=len:=by simp
 refine ⟨v,(List.range len).map V,hcs,⟨?_,fun o ho=>?_⟩⟩
 ·obtain ⟨a,cap,rfl, -, -,hc⟩:=hsl
  refine ⟨a,cap,by rw [hl],by rw [hl];omega,fun i hi'=>?_⟩
  have hi2:i<len:=by rw [hl] at hi';exact hi'
  rcases hc with hc | ⟨b,off,rfl,hc⟩
  ·omega
  ·refine ⟨b,off,rfl,fun j hj=>?_⟩
   rw [hc i hi2 j hj,List.getElem_map,List.getElem_range, ← (hV i hi2).1]
   have:j<(CS i).length:=by rw [(hi i hi2).1];exact hj
   simp [List.getD,this]
 ·obtain ⟨i,hi',rfl⟩:=List.mem_map.1 ho
  exact (hV i (List.mem_range.1 hi')).2
end
set_option maxRecDepth 100000 in
theorem two_open {H:Type} {enc:TypeId×Value→H} {W:World} {base:Nat} {args:Array Value} {ds:List (DataW H)} {p:List MemPlace}
  (hval:∀ (j:Nat) t v,#[26,27][j]? = some t→args[j]? = some v→Value.okWide Tryz.prog W .any base t v)
  (hA:DataW.TrodAll enc Tryz.prog W 0 (fun _=>true) true [26,27] args.toList ds p) (hk:Rows.uptoBulkAll ds≤1048576) :
  ∃ v0 v1 n ops,args=#[v0,v1]∧(∃ d0 d1,ds=[d0,d1])∧NetAt W v0 n∧ShortNet n∧ScriptAt W v1 ops:=by
 obtain ⟨v0,vs0,d0,ds0,p0,q0,e0,rfl, -,h0,r0⟩:=trodAll_cons hA
 obtain ⟨v1,vs1,d1,ds1,p1,q1,rfl,rfl, -,h1,r1⟩:=trodAll_cons r0
 obtain ⟨rfl,rfl, -⟩:=trodAll_nil r1
 obtain rfl:args=#[v0,v1]:=by cases args;simp_all
 simp only [Rows.uptoBulkAll] at hk
 obtain ⟨cs0,rfl, -⟩:=okWide_struct Tryz.underlying26 (hval 0 26 v0 rfl rfl)
 obtain ⟨f0,g0⟩:=h0
 obtain ⟨f1,g1⟩:=h1
 obtain ⟨n,hn,hsh⟩:=net_of_trod ⟨_,rfl⟩ g0 (by omega)
 obtain ⟨w1,ops,e1,i1⟩:=script_of_trod g1 (by omega)
 have e1':=slice_one e1 (okWide_slice Tryz.underlying27 (hval 1 27 v1 rfl rfl))
 subst e1'
 exact ⟨_,_,n,ops,rfl,⟨_,_,rfl⟩,hn,hsh,i1⟩
end Go.Proofs.YthfdgdfnflilfaaGreatDoor

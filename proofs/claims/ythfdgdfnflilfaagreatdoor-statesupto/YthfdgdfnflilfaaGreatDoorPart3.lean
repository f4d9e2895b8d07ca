/- Part 3: Ints, Open1. -/
import Derived.ProofKit
import Derived.OpenShut
import Derived.JoinedCond
import Derived.ReadAgain
import Derived.Deep.Slices
import Derived.Test.YthfdgdfnflilfaaGreatDoorRows
import Derived.Test.YthfdgdfnflilfaaGreatDoorPart1
namespace Go.Proofs.YthfdgdfnflilfaaGreatDoor
open Go.RowKit
theorem Tryz.info3:(Tryz.prog.info? 3).map (fun i=>(i.zero,i.size,i.bytes))=some (some (.int .i64 0),1,8):=by kernel_rfl
theorem Tryz.size3:(Tryz.prog.info? 3).map (·.size)=some 1:=by kernel_rfl
def intRow (l:List Int):List Value:=l.map (Value.int .i64)
theorem intRow_length (l:List Int):(intRow l).length=l.length:=by simp [intRow]
theorem intRow_get (l:List Int) (i:Nat) (h:i<l.length):(intRow l)[i]? = some (.int .i64 l[i]):=by simp [intRow,h]
theorem intRow_one (l:List Int):∀ u∈intRow l,u.oneCell'=true:=by
 intro u hu
 simp only [intRow,List.mem_map] at hu
 obtain ⟨x, -,rfl⟩:=hu
 rfl
theorem ints_cells {w:World} {a:Option Addr} {l:List Int} {n cap:Nat} (h:IntsAt w (.slice a n cap) l) (h0:0<l.length):∃ ad:Addr,a=some ad∧ad.spot=none∧∀ wr,Below w.heap.size w wr→∀ j u,(intRow l)[j]? = some u→wr.cell? (ad.add j)=some u:=by
 obtain ⟨a',k1,hv,hn,hk1,h1⟩:=h.openD
 cases hv
 obtain ⟨b,off,ha, -, -⟩:=h1 0 h0
 refine ⟨⟨b,off,none⟩,ha,rfl,fun wr hb j u hj=>?_⟩
 have hjl:j<l.length:=by
  have:=(List.getElem?_eq_some_iff.1 hj).1
  simpa [intRow] using this
 obtain ⟨b',off',ha', -,hd⟩:=h1 j hjl
 rw [ha] at ha'
 cases ha'
 rw [addr_add,hd wr hb, ← hj,intRow_get _ _ hjl,getD_eq _ _ _ hjl]
def crow (l:List Int):Array Value:=(intRow (l++[0])).toArray
theorem copy_ints {w:World} {a:Option Addr} {l:List Int} {cap:Nat} (h:IntsAt w (.slice a l.length cap) l) (ty:TypeId) :
  (Builtin.copy_ #[22,22] ty #[.slice (some ⟨w.heap.size,0,none⟩) (l.length+1) (l.length+1),.slice a l.length cap]).run Tryz.prog (w.alloc (.cells (zrow (.int .i64 0) (l.length+1)) 3)) =
   .ok (goInt l.length) (w.alloc (.cells (crow l) 3)):=by
 by_cases h0:0<l.length
 ·obtain ⟨⟨b,off,sp⟩,rfl,hsp,hc⟩:=ints_cells h h0
  cases hsp
  have hmin:Nat.min l.length (l.length+1)=l.length:=Nat.min_eq_left (by omega)
  have:=run_copy_row (P:=Tryz.prog) (w.alloc (.cells (zrow (.int .i64 0) (l.length+1)) 3)) 22 22 ty 3 w.heap.size 0 (l.length+1) (l.length+1) ⟨b,off,none⟩ l.length cap (zrow (.int .i64 0) (l.length+1)) 3 (intRow l)
   Tryz.underlying22 Tryz.size3 (heap_alloc_new _ _) (by rw [intRow_length,hmin]) (hc _ ((Below.refl _ _).alloc (Nat.le_refl _) _)) (by rw [intRow_length];simp [zrow]) (intRow_one l)
  have e2:((zrow (.int .i64 0) (l.length+1)).toList.take 0++intRow l++(zrow (.int .i64 0) (l.length+1)).toList.drop (0+(intRow l).length)).toArray=crow l:=by
   simp only [zrow,crow,intRow_length,List.take_zero,List.nil_append,Nat.zero_add,List.drop_replicate]
   rw [show l.length+1-l.length=1 by omega]
   simp [intRow]
  rw [e2,setRow_alloc,intRow_length] at this
  exact this
 ·have hl:l=[]:=List.eq_nil_of_length_eq_zero (by omega)
  subst hl
  exact run_copy_none (P:=Tryz.prog) _ 22 22 ty 3 _ a _ _ _ _ Tryz.underlying22 Tryz.size3 (by simp)
open Go.ChangeShapes Go.WideShapes Go.ChangeAt Go.RowKit Go.Deep
def Fits (c:Int):Prop := -9223372036854775808≤c∧c≤9223372036854775807
namespace bulks
theorem one_le {H:Type} (d:DataW H):1≤Rows.uptoBulk d:=by
 cases d with
 | lit l=>cases l<;>simp [Rows.uptoBulk]
 | nil=>simp [Rows.uptoBulk]
 | ptr d=>simp [Rows.uptoBulk]
 | slice elems spare=>simp [Rows.uptoBulk]
 | agg parts=>simp [Rows.uptoBulk]
 | iface t d=>simp [Rows.uptoBulk]
 | map entries=>simp [Rows.uptoBulk]
 | held h=>simp [Rows.uptoBulk]
theorem part_le {H:Type} {d:DataW H} {l:List (DataW H)} (h:d∈l):Rows.uptoBulk d≤Rows.uptoBulkAll l:=by
 induction l with
 | nil=>cases h
 | cons x r ih=>
  simp only [Rows.uptoBulkAll]
  cases List.mem_cons.1 h with
  | inl e=>subst e;omega
  | inr e=>have:=ih e;omega
theorem length_le {H:Type} (l:List (DataW H)):l.length≤Rows.uptoBulkAll l:=by
 induction l with
 | nil=>simp [Rows.uptoBulkAll]
 | cons x r ih=>have:=one_le x;simp only [Rows.uptoBulkAll,List.length_cons];omega
end bulks
instance : Inhabited Ins:=⟨⟨0,0,0,0⟩⟩
instance : Inhabited Src:=⟨⟨0,[]⟩⟩
section
variable {H:Type} {enc:TypeId×Value→H} {w:World}
theorem sl_of_trod {t e:TypeId} {c fuel:Nat} {cs:List Value} {d:DataW H} {ps:List MemPlace} (ht:Tryz.prog.underlying t=some (.slice e)) (hc:Tryz.prog.cellsOf e=c) (hc0:0<c)
  (h:DataW.trod enc Tryz.prog w 0 (fun _=>true) true fuel t cs=some (d,ps)) (hb:Rows.uptoBulk d≤1048576) :
  ∃ (v:Value) (len n:Nat) (CS:Nat→List Value) (D:Nat→DataW H) (Pl:Nat→List MemPlace),cs=[v]∧len≤1048576∧Sl w v len c (fun i j=>(CS i).getD j (.bool false)) ∧
   ∀ i,i<len→(CS i).length=c∧DataW.trod enc Tryz.prog w 0 (fun _=>true) true n e (CS i)=some (D i,Pl i)∧Rows.uptoBulk (D i)≤1048576:=by
 rcases open_slice ht h with ⟨rfl,h0⟩ | ⟨a,len,cap,m,n,D,Pl,rfl, -,hl,hm,hmm,hx,hi⟩
 ·exact ⟨.slice none 0 0,0,0,fun _=>[],fun _=>.nil,fun _=>[],rfl,by omega,⟨none,0,rfl,by omega,by omega,Or.inl rfl⟩,fun i hi=>by omega⟩
 ·simp only [if_true] at hmm
  subst hmm
  obtain ⟨hd, -⟩:=Prod.mk.inj hx
  have hbl:∀ i,i<len→Rows.uptoBulk (D i)≤1048576:=fun i hi=>by
   rw [hd] at hb
   simp only [Rows.uptoBulk] at hb
   have:=bulks.part_le (d:=D i) (l:=(List.range len).map D) (List.mem_map.2 ⟨i,List.mem_range.2 hi,rfl⟩)
   omega
  have hlen:len≤1048576:=by
   rw [hd] at hb
   simp only [Rows.uptoBulk] at hb
   have:=bulks.length_le ((List.range len).map D)
   simp at this
   omega
  rw [hc] at hi
  obtain ⟨CS,hCS⟩:=choose_lt (α := List Value) (p:=fun i cs'=>w.cells? 0 (a.add (i*c)) c=some cs'∧DataW.trod enc Tryz.prog w 0 (fun _=>true) true n e cs'=some (D i,Pl i)) hi
  have hcell:∀ i,i<len→(CS i).length=c∧∀ j,j<c→w.cell? ((a.add (i*c)).add j)=(CS i)[j]? := fun i hi'=>by
   obtain ⟨-,q1,q2⟩:=World.cells?_some (hCS i (by omega)).1
   exact ⟨q1,q2⟩
  refine ⟨_,len,n,CS,D,Pl,rfl,hlen,⟨some a,_,rfl,by omega,hl,?_⟩,fun i hi'=>⟨(hcell i hi').1,(hCS i (by omega)).2,hbl i hi'⟩⟩
  rcases Nat.eq_zero_or_pos len with h0 | h0
  ·exact Or.inl h0
  ·obtain ⟨b,off,spot⟩:=a
   have hspot:spot=none:=by
    have:=(hcell 0 h0).2 0 hc0
    rw [List.getElem?_eq_getElem (by rw [(hcell 0 h0).1];exact hc0)] at this
    simpa [Addr.add] using World.cell?_spot this
   subst hspot
   refine Or.inr ⟨b,off,rfl,fun i hi' j hj=>?_⟩
   have:=(hcell i hi').2 j hj
   rw [add_plain,add_plain] at this
   rw [this,List.getElem?_eq_getElem (by rw [(hcell i hi').1];exact hj)]
   simp [List.getD,(hcell i hi').1,hj]
theorem inR_of_wf {x:Int} (h:(Lit.int .i64 x).wf=true):Fits x:=bounds_i64 h
theorem range_getD {α : Type} (V:Nat → α) (len i:Nat) (d : α) (h:i<len):((List.range len).map V).getD i d=V i:=by simp [List.getD,h]
theorem ints_of_trod {fuel:Nat} {cs:List Value} {d:DataW H} {ps:List MemPlace} (h:DataW.trod enc Tryz.prog w 0 (fun _=>true) true fuel 22 cs=some (d,ps)) (hb:Rows.uptoBulk d≤1048576) :
  ∃ v l,cs=[v]∧IntsAt w v l∧l.length≤1048576∧∀ x∈l,Fits x:=by
 obtain ⟨v,len,n,CS,D,Pl,hcs,hlen,hsl,hi⟩:=sl_of_trod (e:=3) Tryz.underlying22 (by kernel_rfl) Nat.one_pos h hb
 obtain ⟨V,hV⟩:=choose_lt (α := Int) (n:=len) (p:=fun i x=>CS i=[.int .i64 x]∧Fits x) (fun i hi'=>by
  obtain ⟨q1,q2,q3⟩:=hi i hi'
  obtain ⟨x,hx, -,hw⟩:=DataW.trod_int Tryz.underlying3 q2
  exact ⟨x,hx,inR_of_wf hw⟩)
 refine ⟨v,(List.range len).map V,hcs,?_,by simpa using hlen,fun x hx=>?_⟩
 ·have hl:((List.range len).map V).length=len:=by simp
  unfold IntsAt
  rw [hl]
  refine hsl.congr fun i hi' j hj=>?_
  have hj0:j=0:=by omega
  subst hj0
  rw [(hV i hi').1,range_getD _ _ _ _ hi']
  rfl
 ·obtain ⟨i,hi',rfl⟩:=List.mem_map.1 hx
  exact (hV i (List.mem_range.1 hi')).2
set_option maxRecDepth 100000 in
theorem ins_of_trod {fuel:Nat} {cs:List Value} {x:DataW H×List MemPlace} (h:DataW.trod enc Tryz.prog w 0 (fun _=>true) true fuel 44 cs=some x):∃ i:Ins,cs=[.int .i64 i.op,.int .i64 i.a,.int .i64 i.b,.int .i64 i.c]∧Fits i.c:=by
 obtain ⟨xs,n, -, -,hl,hxs,hf⟩:=DataW.trod_struct Tryz.underlying44 h
 have c56:Tryz.prog.cellsOf 44=4:=by kernel_rfl
 have hl4:cs.length=4:=hl.trans c56
 have hx4:xs.length=4:=hxs
 have c3:Tryz.prog.cellsOf 3=1:=by kernel_rfl
 match cs,hl4,xs,hx4 with
 | [c0,c1,c2,c3'],_,[y0,y1,y2,y3],_=>
  have e0:DataW.trod enc Tryz.prog w 0 (fun _=>true) true n 3 (([c0,c1,c2,c3'].drop 0).take (Tryz.prog.cellsOf 3))=some y0:=hf 0 _ rfl
  have e1:DataW.trod enc Tryz.prog w 0 (fun _=>true) true n 3 (([c0,c1,c2,c3'].drop 1).take (Tryz.prog.cellsOf 3))=some y1:=hf 1 _ rfl
  have e2:DataW.trod enc Tryz.prog w 0 (fun _=>true) true n 3 (([c0,c1,c2,c3'].drop 2).take (Tryz.prog.cellsOf 3))=some y2:=hf 2 _ rfl
  have e3:DataW.trod enc Tryz.prog w 0 (fun _=>true) true n 3 (([c0,c1,c2,c3'].drop 3).take (Tryz.prog.cellsOf 3))=some y3:=hf 3 _ rfl
  rw [c3] at e0 e1 e2 e3
  obtain ⟨z0,g0, -⟩:=DataW.trod_int Tryz.underlying3 e0
  obtain ⟨z1,g1, -⟩:=DataW.trod_int Tryz.underlying3 e1
  obtain ⟨z2,g2, -⟩:=DataW.trod_int Tryz.underlying3 e2
  obtain ⟨z3,g3, -,hw3⟩:=DataW.trod_int Tryz.underlying3 e3
  simp at g0 g1 g2 g3
  exact ⟨⟨z0,z1,z2,z3⟩,by rw [g0,g1,g2,g3],inR_of_wf hw3⟩
theorem code_of_trod {fuel:Nat} {cs:List Value} {d:DataW H} {ps:List MemPlace} (h:DataW.trod enc Tryz.prog w 0 (fun _=>true) true fuel 45 cs=some (d,ps)) (hb:Rows.uptoBulk d≤1048576) :
  ∃ v l,cs=[v]∧CodeAt w v l∧l.length≤1048576∧∀ i∈l,Fits i.c:=by
 obtain ⟨v,len,n,CS,D,Pl,hcs,hlen,hsl,hi⟩:=sl_of_trod (c:=4) (e:=44) Tryz.underlying45 (by kernel_rfl) (by decide) h hb
 obtain ⟨V,hV⟩:=choose_lt (α := Ins) (n:=len) (p:=fun i x=>CS i=[.int .i64 x.op,.int .i64 x.a,.int .i64 x.b,.int .i64 x.c]∧Fits x.c) (fun i hi'=>ins_of_trod (hi i hi').2.1)
 refine ⟨v,(List.range len).map V,hcs,?_,by simpa using hlen,fun x hx=>by
  obtain ⟨i,hi',rfl⟩:=List.mem_map.1 hx
  exact (hV i (List.mem_range.1 hi')).2⟩
 have hl:((List.range len).map V).length=len:=by simp
 unfold CodeAt
 rw [hl]
 refine hsl.congr fun i hi' j hj=>?_
 rw [(hV i hi').1,range_getD _ _ _ _ hi']
 have:j=0∨j=1∨j=2∨j=3:=by omega
 rcases this with rfl | rfl | rfl | rfl<;>rfl
theorem workers_of_trod {fuel:Nat} {cs:List Value} {d:DataW H} {ps:List MemPlace} (h:DataW.trod enc Tryz.prog w 0 (fun _=>true) true fuel 24 cs=some (d,ps)) (hb:Rows.uptoBulk d≤1048576) :
  ∃ v l,cs=[v]∧WorkersAt w v l∧l.length≤1048576∧∀ c∈l,c.length≤1048576∧∀ i∈c,Fits i.c:=by
 obtain ⟨v,len,n,CS,D,Pl,hcs,hlen,hsl,hi⟩:=sl_of_trod (c:=1) (e:=45) Tryz.underlying24 (by kernel_rfl) (by decide) h hb
 obtain ⟨V,hV⟩:=choose_lt (α := Value×List Ins) (n:=len) (p:=fun i x=>CS i=[x.1]∧CodeAt w x.1 x.2∧x.2.length≤1048576∧∀ j∈x.2,Fits j.c) (fun i hi'=>by
  obtain ⟨q1,q2,q3⟩:=hi i hi'
  obtain ⟨v',l',e1,e2,e3⟩:=code_of_trod q2 q3
  exact ⟨(v',l'),e1,e2,e3⟩)
 refine ⟨v,(List.range len).map fun i=>(V i).2,hcs,⟨fun i=>(V i).1,?_,fun i hi'=>?_⟩,by simpa using hlen,fun c hc=>?_⟩
 ·have hl:((List.range len).map fun i=>(V i).2).length=len:=by simp
  rw [hl]
  refine hsl.congr fun i hi' j hj=>?_
  have hj0:j=0:=by omega
  subst hj0
  rw [(hV i hi').1]
  rfl
 ·have hi2:i<len:=by simpa using hi'
  simpa using (hV i hi2).2.1
 ·obtain ⟨i,hi',rfl⟩:=List.mem_map.1 hc
  exact (hV i (List.mem_range.1 hi')).2.2
set_option maxRecDepth 100000 in
theorem source_of_trod {fuel:Nat} {cs:List Value} {d:DataW H} {ps:List MemPlace} (h:DataW.trod enc Tryz.prog w 0 (fun _=>true) true fuel 42 cs=some (d,ps)) (hb:Rows.uptoBulk d≤1048576) :
  ∃ (s:Src) (v:Value),cs=[.int .i64 s.stream,v]∧IntsAt w v s.words∧s.words.length≤1048576∧∀ x∈s.words,Fits x:=by
 obtain ⟨xs,n, -,hx,hl,hxs,hf⟩:=DataW.trod_struct Tryz.underlying42 h
 have c54:Tryz.prog.cellsOf 42=2:=by kernel_rfl
 have hl2:cs.length=2:=hl.trans c54
 have hx2:xs.length=2:=hxs
 have c3:Tryz.prog.cellsOf 3=1:=by kernel_rfl
 have c22:Tryz.prog.cellsOf 22=1:=by kernel_rfl
 match cs,hl2,xs,hx2,hx with
 | [c0,c1],_,[y0,y1],_,hx=>
  have e0:DataW.trod enc Tryz.prog w 0 (fun _=>true) true n 3 (([c0,c1].drop 0).take (Tryz.prog.cellsOf 3))=some y0:=hf 0 _ rfl
  have e1:DataW.trod enc Tryz.prog w 0 (fun _=>true) true n 22 (([c0,c1].drop 1).take (Tryz.prog.cellsOf 22))=some y1:=hf 1 _ rfl
  rw [c3] at e0
  rw [c22] at e1
  obtain ⟨z0,g0, -⟩:=DataW.trod_int Tryz.underlying3 e0
  have hd:d=.agg [y0.1,y1.1]:=by have:=(Prod.mk.inj hx).1;simpa using this
  have hby:Rows.uptoBulk y1.1≤1048576:=by
   rw [hd] at hb
   simp only [Rows.uptoBulk,Rows.uptoBulkAll] at hb
   omega
  obtain ⟨v',l',q1,q2,q3,q4⟩:=ints_of_trod (d:=y1.1) (ps:=y1.2) e1 hby
  simp at g0 q1
  exact ⟨⟨z0,l'⟩,v',by rw [g0,q1],q2,q3,q4⟩
theorem sources_of_trod {fuel:Nat} {cs:List Value} {d:DataW H} {ps:List MemPlace} (h:DataW.trod enc Tryz.prog w 0 (fun _=>true) true fuel 23 cs=some (d,ps)) (hb:Rows.uptoBulk d≤1048576) :
  ∃ v l,cs=[v]∧SourcesAt w v l∧l.length≤1048576∧∀ s∈l,s.words.length≤1048576∧∀ x∈s.words,Fits x:=by
 obtain ⟨v,len,n,CS,D,Pl,hcs,hlen,hsl,hi⟩:=sl_of_trod (c:=2) (e:=42) Tryz.underlying23 (by kernel_rfl) (by decide) h hb
 obtain ⟨V,hV⟩:=choose_lt (α := Value×Src) (n:=len) (p:=fun i x=>CS i=[.int .i64 x.2.stream,x.1]∧IntsAt w x.1 x.2.words∧x.2.words.length≤1048576∧∀ y∈x.2.words,Fits y) (fun i hi'=>by
  obtain ⟨q1,q2,q3⟩:=hi i hi'
  obtain ⟨s',v',e1,e2,e3⟩:=source_of_trod q2 q3
  exact ⟨(v',s'),e1,e2,e3⟩)
 refine ⟨v,(List.range len).map fun i=>(V i).2,hcs,⟨fun i=>(V i).1,?_,fun i hi'=>?_⟩,by simpa using hlen,fun c hc=>?_⟩
 ·have hl:((List.range len).map fun i=>(V i).2).length=len:=by simp
  rw [hl]
  refine hsl.congr fun i hi' j hj=>?_
  rw [(hV i hi').1,range_getD _ _ _ _ hi']
  have:j=0∨j=1:=by omega
  rcases this with rfl | rfl<;>rfl
 ·have hi2:i<len:=by simpa using hi'
  simpa using (hV i hi2).2.1
 ·obtain ⟨i,hi',rfl⟩:=List.mem_map.1 hc
  exact (hV i (List.mem_range.1 hi')).2.2
def ShortNet (n:Net):Prop:=n.streams.length≤1048576∧n.sources.length≤1048576∧n.workers.length≤1048576∧(∀ s∈n.sources,s.words.length≤1048576∧∀ x∈s.words,Fits x)∧(∀ c∈n.workers,c.length≤1048576∧∀ i∈c,Fits i.c)
set_option maxRecDepth 100000 in
theorem net_of_trod {fuel:Nat} {v:Value} {d:DataW H} {ps:List MemPlace} (hv:∃ cs,v=.agg cs) (h:DataW.trod enc Tryz.prog w 0 (fun _=>true) true fuel 26 v.cells.toList=some (d,ps)) (hb:Rows.uptoBulk d≤1048576) :
  ∃ n,NetAt w v n∧ShortNet n:=by
 obtain ⟨cs,rfl⟩:=hv
 obtain ⟨xs,n, -,hx,hl,hxs,hf⟩:=DataW.trod_struct Tryz.underlying26 h
 have c26:Tryz.prog.cellsOf 26=3:=by kernel_rfl
 have hl3:cs.toList.length=3:=hl.trans c26
 have hx3:xs.length=3:=hxs
 have c22:Tryz.prog.cellsOf 22=1:=by kernel_rfl
 have c23:Tryz.prog.cellsOf 23=1:=by kernel_rfl
 have c24:Tryz.prog.cellsOf 24=1:=by kernel_rfl
 obtain ⟨cl⟩:=cs
 simp only [Value.cells] at hl3 hf
 match cl,hl3,xs,hx3,hx with
 | [k0,k1,k2],_,[y0,y1,y2],_,hx=>
  have e0:DataW.trod enc Tryz.prog w 0 (fun _=>true) true n 22 (([k0,k1,k2].drop 0).take (Tryz.prog.cellsOf 22))=some y0:=hf 0 _ rfl
  have e1:DataW.trod enc Tryz.prog w 0 (fun _=>true) true n 23 (([k0,k1,k2].drop 1).take (Tryz.prog.cellsOf 23))=some y1:=hf 1 _ rfl
  have e2:DataW.trod enc Tryz.prog w 0 (fun _=>true) true n 24 (([k0,k1,k2].drop 2).take (Tryz.prog.cellsOf 24))=some y2:=hf 2 _ rfl
  rw [c22] at e0
  rw [c23] at e1
  rw [c24] at e2
  have hd:d=.agg [y0.1,y1.1,y2.1]:=by have:=(Prod.mk.inj hx).1;simpa using this
  rw [hd] at hb
  simp only [Rows.uptoBulk,Rows.uptoBulkAll] at hb
  obtain ⟨v0,l0,q0,r0,s0, -⟩:=ints_of_trod (d:=y0.1) (ps:=y0.2) e0 (by omega)
  obtain ⟨v1,l1,q1,r1,s1,t1⟩:=sources_of_trod (d:=y1.1) (ps:=y1.2) e1 (by omega)
  obtain ⟨v2,l2,q2,r2,s2,t2⟩:=workers_of_trod (d:=y2.1) (ps:=y2.2) e2 (by omega)
  simp at q0 q1 q2
  subst q0 q1 q2
  exact ⟨⟨l0,l1,l2⟩,⟨_,_,_,rfl,r0,r1,r2⟩,s0,s1,s2,t1,t2⟩
end
theorem Tryz.kids:Kids Tryz.prog (· < Tryz.prog.types.size):=kids_rows (by kernel_rfl) (by kernel_rfl)
theorem Tryz.full:∀ t e,t<Tryz.prog.types.size→Tryz.prog.underlying t=some (.slice e)→0<Tryz.prog.cellsOf e:=slices_full_of Tryz.prog (by kernel_rfl)
theorem trodAll_carry {H:Type} {enc:TypeId×Value→H} {P:Program} {w w':World} {sp:Nat→Bool}:∀ {ts:List TypeId} {vs:List Value} {ds:List (DataW H)} {ps:List MemPlace},DataW.TrodAll enc P w 0 sp true ts vs ds ps→(∀ p∈ps,w.sameAt w' p)→DataW.TrodAll enc P w' 0 sp true ts vs ds ps
 | [],[],[],_,h,_=>h
 | _::_,_::_,_::_,_,⟨p,q,⟨n,h1⟩,h2,e⟩,hs=>
  ⟨p,q,⟨n,DataW.trod_carry n _ _ _ h1 fun x hx=>hs x (by rw [e];exact List.mem_append_left _ hx)⟩,trodAll_carry h2 (fun x hx=>hs x (by rw [e];exact List.mem_append_right _ hx)),e⟩
set_option maxRecDepth 100000 in
theorem post_law {H:Type} {enc:TypeId×Value→H} {f:Func} {s:ChangeSpec} {W W':World} {args:Array Value} {ds:List (DataW H)} {before:List MemPlace} {fresh handsOn again:Bool}
  (hvars:s.vars=[]) (hres:f.resultTypes=#[4]) (hT:∀ t∈f.params.toList,t<Tryz.prog.types.size)
  (hfn:(s.fn H (ds++[])).results=[.lit (.bool true)]) (hfa:(s.fn H (ds++[])).args=ds) (hfv:(s.fn H (ds++[])).vars=[])
  (hW:DataW.Whole enc Tryz.prog f.params.toList s.vars false W args.toList ds [] before) (hb:Below W.heap.size W W') :
  s.post enc Tryz.prog f false fresh handsOn again W args (.bool true) W':=by
 have hW0:=hW
 obtain ⟨p,q,hA,hV,hpq,hz, -⟩:=hW
 rw [hvars] at hV
 have hq:q=[]:=hV
 subst hq
 have hbe:before=p:=by rw [hpq];simp
 subst hbe
 have hargs:∀ sp:Nat→Bool,(∀ x∈before,sp x.block=true)→DataW.TrodAll enc Tryz.prog W' 0 sp true f.params.toList args.toList ds before:=fun sp hsp=>
  trodAll_carry (DataW.TrodAll.respare Tryz.kids Tryz.full hT hA hsp) fun x hx=>hb.same (hA.lt x hx)
 have hr:∀ (b:Nat) (sp:Nat→Bool) (hd:Bool),DataW.TrodAll enc Tryz.prog W' b sp hd f.resultTypes.toList ((Value.bool true).resultList f.resultTypes.size) [.lit (.bool true)] []:=fun b sp hd=>by
  rw [hres];exact trodAll_mk1 (shut_bool Tryz.underlying4 _)
 have hold:∀ x∈before,(fun b=>decide (b<W.heap.size)) x.block=true:=fun x hx=>by simpa using hA.lt x hx
 refine ⟨ds,[],before,[],before,[],hW0,by rw [hfn];exact hr _ _ _,by rw [hfa];exact hargs _ hold,by rw [hvars,hfv];rfl,hb.frame _,fun _=>?_⟩
 refine ⟨?_,_,[],([]++before)++[],⟨[]++before,[],trodAll_append (hargs _ (fun _ _=>rfl)) (hr _ _ _),by rw [hvars];exact (rfl:([]:List MemPlace)=[]),rfl,?_,fun h=>by cases h⟩,?_⟩
 ·exact ok_one hres rfl (okWide_bool_mk Tryz.underlying4 _)
 ·intro b off hp
  have hp':MemPlace.cell b off∈before:=by simpa using hp
  rw [hb.frozen (p:=⟨b,off,none⟩) (hA.lt _ hp')]
  exact hz b off (by rw [hpq];simpa using hp')
 ·intro x hx _
  simpa using hx
end Go.Proofs.YthfdgdfnflilfaaGreatDoor

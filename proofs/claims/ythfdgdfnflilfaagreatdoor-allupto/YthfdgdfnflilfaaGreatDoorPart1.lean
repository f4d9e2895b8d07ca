/- Part 1: Base, Lists, Mem, Ops, Nets1, Model1. -/
import Derived.Test.YthfdgdfnflilfaaGreatDoorProg
import Derived.WalkKit
import Derived.WalkSpells
import Derived.Deep.QuietTactic
import Derived.BigQuiet
import Derived.Outline
import Derived.WalkSmall
import Derived.Laws.CopyOwn
import Derived.Deep.OwnRows
namespace Go.Proofs.YthfdgdfnflilfaaGreatDoor
open Go.RowKit
theorem hide {p:Prop} (h:p):Hid p:=h
theorem unhide {p:Prop} (h:Hid p):p:=h
structure Ins where
 op:Int
 a:Int
 b:Int
 c:Int
structure Src where
 stream:Int
 words:List Int
structure Net where
 streams:List Int
 sources:List Src
 workers:List (List Ins)
theorem ret_bool {a b:Bool} (h:a=b):Ending.returned (.bool a)=.returned (.bool b):=by rw [h]
theorem ret_int {k:IntKind} {a b:Int} (h:a=b):Ending.returned (.int k a)=.returned (.int k b):=by rw [h]
theorem any_take_succ {α : Type} (l:List α) (p : α → Bool) (k:Nat) (h:k<l.length):(l.take (k+1)).any p=((l.take k).any p || p l[k]):=by
 rw [List.take_succ_eq_append_getElem h,List.any_append];simp only [List.any_cons,List.any_nil,Bool.or_false]
theorem all_take_succ {α : Type} (l:List α) (p : α → Bool) (k:Nat) (h:k<l.length):(l.take (k+1)).all p=((l.take k).all p && p l[k]):=by
 rw [List.take_succ_eq_append_getElem h,List.all_append];simp only [List.all_cons,List.all_nil,Bool.and_true]
theorem countP_take_succ {α : Type} (l:List α) (p : α → Bool) (k:Nat) (h:k<l.length):(l.take (k+1)).countP p=(l.take k).countP p+if p l[k] then 1 else 0:=by
 rw [List.take_succ_eq_append_getElem h,List.countP_append];simp
theorem any_of_getElem {α : Type} (l:List α) (p : α → Bool) (k:Nat) (h:k<l.length) (hp:p l[k]=true):l.any p=true:=
 List.any_eq_true.2 ⟨_,List.getElem_mem h,hp⟩
theorem all_of_getElem_false {α : Type} (l:List α) (p : α → Bool) (k:Nat) (h:k<l.length) (hp:p l[k]=false):l.all p=false:=by
 rw [Bool.eq_false_iff];intro hh;have:=List.all_eq_true.1 hh _ (List.getElem_mem h);rw [hp] at this;cases this
theorem lt_of_cell {w:World} {p:Addr} {v:Value} (h:w.cell? p=some v):p.block<w.heap.size:=by
 rcases Nat.lt_or_ge p.block w.heap.size with hl | hg
 ·exact hl
 ·exfalso
  simp only [World.cell?] at h
  rw [Array.getElem?_eq_none hg] at h
  simp at h
def Sl (w:World) (v:Value) (n sz:Nat) (f:Nat→Nat→Value):Prop:=
 ∃ a cap,v=.slice a n cap∧n≤140737488355328∧n≤cap∧(n=0∨∃ b off,a=some ⟨b,off,none⟩∧∀ i,i<n→∀ j,j<sz→w.cell? ⟨b,off+i*sz+j,none⟩=some (f i j))
theorem Sl.below {w w':World} {v:Value} {n sz:Nat} {f:Nat→Nat→Value} (h:Sl w v n sz f) (hb:Below w.heap.size w w'):Sl w' v n sz f:=by
 obtain ⟨a,cap,hv,hn,hcap,h⟩:=h
 refine ⟨a,cap,hv,hn,hcap,?_⟩
 rcases h with h | ⟨b,off,ha,hc⟩
 ·exact Or.inl h
 ·refine Or.inr ⟨b,off,ha,fun i hi j hj=>?_⟩
  have:=hc i hi j hj
  rw [← this]
  exact hb.cell (lt_of_cell this)
def IntsAt (w:World) (v:Value) (l:List Int):Prop:=Sl w v l.length 1 fun i _=>.int .i64 (l.getD i 0)
def Ins.cell (i:Ins) (j:Nat):Value:=if j=0 then .int .i64 i.op else if j=1 then .int .i64 i.a else if j=2 then .int .i64 i.b else .int .i64 i.c
def CodeAt (w:World) (v:Value) (l:List Ins):Prop:=Sl w v l.length 4 fun i j=>(l.getD i ⟨0,0,0,0⟩).cell j
theorem getD_eq {α : Type} (l:List α) (k:Nat) (d : α) (h:k<l.length):l.getD k d=l[k]:=by simp [List.getD,h]
theorem CodeAt.open {w:World} {v:Value} {l:List Ins} (h:CodeAt w v l):∃ a cap,v=.slice a l.length cap∧l.length≤140737488355328∧l.length≤cap ∧
  ∀ wr,Below w.heap.size w wr→∀ k (hk:k<l.length),∃ b off,a=some ⟨b,off,none⟩∧wr.cell? ⟨b,off+k*4,none⟩=some (.int .i64 l[k].op)∧wr.cell? ⟨b,off+k*4+1,none⟩=some (.int .i64 l[k].a) ∧
   wr.cell? ⟨b,off+k*4+2,none⟩=some (.int .i64 l[k].b)∧wr.cell? ⟨b,off+k*4+3,none⟩=some (.int .i64 l[k].c):=by
 obtain ⟨a,cap,hv,hn,hcap,hc⟩:=h
 refine ⟨a,cap,hv,hn,hcap,fun wr hb k hk=>?_⟩
 rcases hc with h0 | ⟨b,off,ha,hc⟩
 ·omega
 ·dsimp only at hc
  refine ⟨b,off,ha,?_⟩
  have hlt:=lt_of_cell (hc k hk 0 (by decide))
  have cell:∀ j,j<4→wr.cell? ⟨b,off+k*4+j,none⟩=some (l[k].cell j):=fun j hj=>by
   rw [hb.cell (p:=⟨b,off+k*4+j,none⟩) hlt,hc k hk j hj,getD_eq _ _ _ hk]
  exact ⟨cell 0 (by decide),cell 1 (by decide),cell 2 (by decide),cell 3 (by decide)⟩
theorem IntsAt.open {w:World} {v:Value} {l:List Int} (h:IntsAt w v l):∃ a cap,v=.slice a l.length cap∧l.length≤140737488355328∧l.length≤cap ∧
  ∀ wr,Below w.heap.size w wr→∀ k (hk:k<l.length),∃ b off,a=some ⟨b,off,none⟩∧wr.cell? ⟨b,off+k,none⟩=some (.int .i64 l[k]):=by
 obtain ⟨a,cap,hv,hn,hcap,hc⟩:=h
 refine ⟨a,cap,hv,hn,hcap,fun wr hb k hk=>?_⟩
 rcases hc with h0 | ⟨b,off,ha,hc⟩
 ·omega
 ·dsimp only at hc
  refine ⟨b,off,ha,?_⟩
  have hlt:=lt_of_cell (hc k hk 0 (by decide))
  have:=hc k hk 0 (by decide)
  rw [getD_eq _ _ _ hk] at this
  rw [← this]
  simpa using hb.cell (p:=⟨b,off+k*1+0,none⟩) hlt
theorem CodeAt.below {w w':World} {v:Value} {l:List Ins} (h:CodeAt w v l) (hb:Below w.heap.size w w'):CodeAt w' v l:=Sl.below h hb
theorem IntsAt.below {w w':World} {v:Value} {l:List Int} (h:IntsAt w v l) (hb:Below w.heap.size w w'):IntsAt w' v l:=Sl.below h hb
def WorkersAt (w:World) (v:Value) (l:List (List Ins)):Prop:=∃ V:Nat→Value,Sl w v l.length 1 (fun i _=>V i)∧∀ i (h:i<l.length),CodeAt w (V i) l[i]
def SourcesAt (w:World) (v:Value) (l:List Src):Prop:=∃ V:Nat→Value,Sl w v l.length 2 (fun i j=>if j=0 then .int .i64 (l.getD i ⟨0,[]⟩).stream else V i)∧∀ i (h:i<l.length),IntsAt w (V i) l[i].words
theorem WorkersAt.below {w w':World} {v:Value} {l:List (List Ins)} (h:WorkersAt w v l) (hb:Below w.heap.size w w'):WorkersAt w' v l:=by
 obtain ⟨V,h1,h2⟩:=h
 exact ⟨V,h1.below hb,fun i hi=>(h2 i hi).below hb⟩
theorem SourcesAt.below {w w':World} {v:Value} {l:List Src} (h:SourcesAt w v l) (hb:Below w.heap.size w w'):SourcesAt w' v l:=by
 obtain ⟨V,h1,h2⟩:=h
 exact ⟨V,h1.below hb,fun i hi=>(h2 i hi).below hb⟩
theorem WorkersAt.open {w:World} {v:Value} {l:List (List Ins)} (h:WorkersAt w v l):∃ a cap,v=.slice a l.length cap∧l.length≤140737488355328∧l.length≤cap ∧
  ∀ wr,Below w.heap.size w wr→∀ k (hk:k<l.length),∃ b off u,a=some ⟨b,off,none⟩∧wr.cell? ⟨b,off+k,none⟩=some u∧CodeAt wr u l[k]:=by
 obtain ⟨V,⟨a,cap,hv,hn,hcap,hc⟩,h2⟩:=h
 refine ⟨a,cap,hv,hn,hcap,fun wr hb k hk=>?_⟩
 rcases hc with h0 | ⟨b,off,ha,hc⟩
 ·omega
 ·dsimp only at hc
  refine ⟨b,off,V k,ha,?_,(h2 k hk).below hb⟩
  have:=hc k hk 0 (by decide)
  have hlt:=lt_of_cell this
  rw [← this]
  simpa using hb.cell (p:=⟨b,off+k*1+0,none⟩) hlt
theorem SourcesAt.open {w:World} {v:Value} {l:List Src} (h:SourcesAt w v l):∃ a cap,v=.slice a l.length cap∧l.length≤140737488355328∧l.length≤cap ∧
  ∀ wr,Below w.heap.size w wr→∀ k (hk:k<l.length),∃ b off u,a=some ⟨b,off,none⟩∧wr.cell? ⟨b,off+k*2,none⟩=some (.int .i64 l[k].stream)∧wr.cell? ⟨b,off+k*2+1,none⟩=some u∧IntsAt wr u l[k].words:=by
 obtain ⟨V,⟨a,cap,hv,hn,hcap,hc⟩,h2⟩:=h
 refine ⟨a,cap,hv,hn,hcap,fun wr hb k hk=>?_⟩
 rcases hc with h0 | ⟨b,off,ha,hc⟩
 ·omega
 ·dsimp only at hc
  refine ⟨b,off,V k,ha,?_,?_,(h2 k hk).below hb⟩
  ·have:=hc k hk 0 (by decide)
   have hlt:=lt_of_cell this
   rw [getD_eq _ _ _ hk] at this
   exact (hb.cell (p:=⟨b,off+k*2+0,none⟩) hlt).trans this
  ·have:=hc k hk 1 (by decide)
   have hlt:=lt_of_cell this
   exact (hb.cell (p:=⟨b,off+k*2+1,none⟩) hlt).trans this
theorem Sl.take {w:World} {a:Option Addr} {n cap sz:Nat} {f:Nat→Nat→Value} (h:Sl w (.slice a n cap) n sz f) (k:Nat) (hk:k≤n):Sl w (.slice a k cap) k sz f:=by
 obtain ⟨a',cap',hv,hn,hcap,hc⟩:=h
 cases hv
 refine ⟨a,cap,rfl,by omega,by omega,?_⟩
 rcases hc with h0 | ⟨b,off,ha,hc⟩
 ·exact Or.inl (by omega)
 ·exact Or.inr ⟨b,off,ha,fun i hi=>hc i (by omega)⟩
theorem Sl.congr {w:World} {v:Value} {n sz:Nat} {f g:Nat→Nat→Value} (h:Sl w v n sz f) (e:∀ i,i<n→∀ j,j<sz→f i j=g i j):Sl w v n sz g:=by
 obtain ⟨a,cap,hv,hn,hcap,hc⟩:=h
 refine ⟨a,cap,hv,hn,hcap,?_⟩
 rcases hc with h0 | ⟨b,off,ha,hc⟩
 ·exact Or.inl h0
 ·exact Or.inr ⟨b,off,ha,fun i hi j hj=>by rw [hc i hi j hj,e i hi j hj]⟩
theorem SourcesAt.take {w:World} {a:Option Addr} {cap:Nat} {l:List Src} (h:SourcesAt w (.slice a l.length cap) l) (k:Nat) (hk:k≤l.length):SourcesAt w (.slice a k cap) (l.take k):=by
 obtain ⟨V,h1,h2⟩:=h
 have hl:(l.take k).length=k:=by simp;omega
 refine ⟨V,?_,fun i hi=>?_⟩
 ·rw [hl]
  refine (h1.take k hk).congr fun i hi j hj=>?_
  have:(l.take k).getD i ⟨0,[]⟩=l.getD i ⟨0,[]⟩:=by simp [List.getD,hi]
  rw [this]
 ·have:(l.take k)[i]=l[i]'(by simp at hi;omega):=by simp
  rw [this]
  exact h2 i _
def NetAt (w:World) (v:Value) (n:Net):Prop:=∃ vs vr vw,v=.agg #[vs,vr,vw]∧IntsAt w vs n.streams∧SourcesAt w vr n.sources∧WorkersAt w vw n.workers
theorem NetAt.below {w w':World} {v:Value} {n:Net} (h:NetAt w v n) (hb:Below w.heap.size w w'):NetAt w' v n:=by
 obtain ⟨vs,vr,vw,hv,h1,h2,h3⟩:=h
 exact ⟨vs,vr,vw,hv,h1.below hb,h2.below hb,h3.below hb⟩
theorem IntsAt.form {w:World} {v:Value} {l:List Int} (h:IntsAt w v l):∃ a cap,v=.slice a l.length cap:=by
 obtain ⟨a,cap,hv,_⟩:=h
 exact ⟨a,cap,hv⟩
theorem SourcesAt.form {w:World} {v:Value} {l:List Src} (h:SourcesAt w v l):∃ a cap,v=.slice a l.length cap:=by
 obtain ⟨V,⟨a,cap,hv,_⟩,_⟩:=h
 exact ⟨a,cap,hv⟩
theorem WorkersAt.form {w:World} {v:Value} {l:List (List Ins)} (h:WorkersAt w v l):∃ a cap,v=.slice a l.length cap:=by
 obtain ⟨V,⟨a,cap,hv,_⟩,_⟩:=h
 exact ⟨a,cap,hv⟩
theorem CodeAt.form {w:World} {v:Value} {l:List Ins} (h:CodeAt w v l):∃ a cap,v=.slice a l.length cap:=by
 obtain ⟨a,cap,hv,_⟩:=h
 exact ⟨a,cap,hv⟩
theorem IntsAt.openD {w:World} {v:Value} {l:List Int} (h:IntsAt w v l):∃ a cap,v=.slice a l.length cap∧l.length≤140737488355328∧l.length≤cap ∧
  ∀ k,k<l.length→∃ b off,a=some ⟨b,off,none⟩∧b<w.heap.size∧∀ wr,Below w.heap.size w wr→wr.cell? ⟨b,off+k,none⟩=some (.int .i64 (l.getD k 0)):=by
 obtain ⟨a,cap,hv,hn,hcap,hc⟩:=h.open
 refine ⟨a,cap,hv,hn,hcap,fun k hk=>?_⟩
 obtain ⟨b,off,ha,hd⟩:=hc w (Below.refl _ _) k hk
 have hb:b<w.heap.size:=lt_of_cell hd
 refine ⟨b,off,ha,hb,fun wr hx=>?_⟩
 rw [getD_eq _ _ _ hk]
 exact (hx.cell (p:=⟨b,off+k,none⟩) hb).trans hd
theorem CodeAt.openD {w:World} {v:Value} {l:List Ins} (h:CodeAt w v l):∃ a cap,v=.slice a l.length cap∧l.length≤140737488355328∧l.length≤cap ∧
  ∀ k,k<l.length→∃ b off,a=some ⟨b,off,none⟩∧b<w.heap.size∧∀ wr,Below w.heap.size w wr→wr.cell? ⟨b,off+k*4,none⟩=some (.int .i64 (l.getD k ⟨0,0,0,0⟩).op)∧wr.cell? ⟨b,off+k*4+1,none⟩=some (.int .i64 (l.getD k ⟨0,0,0,0⟩).a) ∧
   wr.cell? ⟨b,off+k*4+2,none⟩=some (.int .i64 (l.getD k ⟨0,0,0,0⟩).b)∧wr.cell? ⟨b,off+k*4+3,none⟩=some (.int .i64 (l.getD k ⟨0,0,0,0⟩).c):=by
 obtain ⟨a,cap,hv,hn,hcap,hc⟩:=h.open
 refine ⟨a,cap,hv,hn,hcap,fun k hk=>?_⟩
 obtain ⟨b,off,ha,d0,d1,d2,d3⟩:=hc w (Below.refl _ _) k hk
 have hb:b<w.heap.size:=lt_of_cell d0
 refine ⟨b,off,ha,hb,fun wr hx=>?_⟩
 rw [getD_eq _ _ _ hk]
 exact ⟨(hx.cell (p:=⟨b,_,none⟩) hb).trans d0,(hx.cell (p:=⟨b,_,none⟩) hb).trans d1,(hx.cell (p:=⟨b,_,none⟩) hb).trans d2,(hx.cell (p:=⟨b,_,none⟩) hb).trans d3⟩
theorem WorkersAt.openD {w:World} {v:Value} {l:List (List Ins)} (h:WorkersAt w v l):∃ a cap,v=.slice a l.length cap∧l.length≤140737488355328∧l.length≤cap ∧
  ∀ k,k<l.length→∃ b off u,a=some ⟨b,off,none⟩∧b<w.heap.size∧CodeAt w u (l.getD k [])∧∀ wr,Below w.heap.size w wr→wr.cell? ⟨b,off+k,none⟩=some u:=by
 obtain ⟨a,cap,hv,hn,hcap,hc⟩:=h.open
 refine ⟨a,cap,hv,hn,hcap,fun k hk=>?_⟩
 obtain ⟨b,off,u,ha,hd,hcd⟩:=hc w (Below.refl _ _) k hk
 have hb:b<w.heap.size:=lt_of_cell hd
 refine ⟨b,off,u,ha,hb,by rw [getD_eq _ _ _ hk];exact hcd,fun wr hx=>(hx.cell (p:=⟨b,off+k,none⟩) hb).trans hd⟩
theorem SourcesAt.openD {w:World} {v:Value} {l:List Src} (h:SourcesAt w v l):∃ a cap,v=.slice a l.length cap∧l.length≤140737488355328∧l.length≤cap ∧
  ∀ k,k<l.length→∃ b off u,a=some ⟨b,off,none⟩∧b<w.heap.size∧IntsAt w u (l.getD k ⟨0,[]⟩).words∧∀ wr,Below w.heap.size w wr→wr.cell? ⟨b,off+k*2,none⟩=some (.int .i64 (l.getD k ⟨0,[]⟩).stream)∧wr.cell? ⟨b,off+k*2+1,none⟩=some u:=by
 obtain ⟨a,cap,hv,hn,hcap,hc⟩:=h.open
 refine ⟨a,cap,hv,hn,hcap,fun k hk=>?_⟩
 obtain ⟨b,off,u,ha,d0,d1,hcd⟩:=hc w (Below.refl _ _) k hk
 have hb:b<w.heap.size:=lt_of_cell d0
 refine ⟨b,off,u,ha,hb,by rw [getD_eq _ _ _ hk];exact hcd,fun wr hx=>?_⟩
 rw [getD_eq _ _ _ hk]
 exact ⟨(hx.cell (p:=⟨b,_,none⟩) hb).trans d0,(hx.cell (p:=⟨b,_,none⟩) hb).trans d1⟩
def Lists (w:World) (v:Value) (sz:Nat) (f:Nat→Nat→Nat→Value):Prop:=
 ∃ (n:Nat) (V:Nat→Value),Sl w v n 1 (fun i _=>V i)∧∀ i,i<n→∃ m,Sl w (V i) m sz (f i)
theorem Lists.below {w w':World} {v:Value} {sz:Nat} {f:Nat→Nat→Nat→Value} (h:Lists w v sz f) (hb:Below w.heap.size w w'):Lists w' v sz f:=by
 obtain ⟨n,V,h1,h2⟩:=h
 exact ⟨n,V,h1.below hb,fun i hi=>let ⟨m,hm⟩:=h2 i hi; ⟨m,hm.below hb⟩⟩
theorem Sl.open {w:World} {v:Value} {n sz:Nat} {f:Nat→Nat→Value} (h:Sl w v n sz f):∃ a cap,v=.slice a n cap∧n≤140737488355328∧n≤cap ∧
  ∀ k,k<n→∃ b off,a=some ⟨b,off,none⟩∧∀ j,j<sz→w.cell? ⟨b,off+k*sz+j,none⟩=some (f k j):=by
 obtain ⟨a,cap,hv,hn,hcap,hc⟩:=h
 refine ⟨a,cap,hv,hn,hcap,fun k hk=>?_⟩
 rcases hc with h0 | ⟨b,off,ha,hc⟩
 ·omega
 ·exact ⟨b,off,ha,fun j hj=>hc k hk j hj⟩
theorem Lists.open {w:World} {v:Value} {sz:Nat} {f:Nat→Nat→Nat→Value} (h:Lists w v sz f):∃ a n cap,v=.slice a n cap∧n≤140737488355328 ∧
  ∀ k,k<n→∃ b off a' m cap',a=some ⟨b,off,none⟩∧w.cell? ⟨b,off+k,none⟩=some (.slice a' m cap')∧m≤140737488355328 ∧
   ∀ j,j<m→∃ b' off',a'=some ⟨b',off',none⟩∧∀ c,c<sz→w.cell? ⟨b',off'+j*sz+c,none⟩=some (f k j c):=by
 obtain ⟨n,V,h1,h2⟩:=h
 obtain ⟨a,cap,hv,hn,_,hc⟩:=h1.open
 refine ⟨a,n,cap,hv,hn,fun k hk=>?_⟩
 obtain ⟨b,off,ha,hd⟩:=hc k hk
 obtain ⟨m,hm⟩:=h2 k hk
 obtain ⟨a',cap',hv',hm',_,hc'⟩:=hm.open
 refine ⟨b,off,a',m,cap',ha,?_,hm',hc'⟩
 have:=hd 0 (by decide)
 rw [hv'] at this
 simpa using this
theorem addr_add (b off j:Nat):(⟨b,off,none⟩:Addr).add j=⟨b,off+j,none⟩:=by
 simp only [Addr.add]
 split
 ·simp_all
 ·rfl
theorem run_copy_wide {P:Program} (w:World) (dT sT ty elem:TypeId) (size:Nat) (g o dLen dCap:Nat) (a:Addr) (sLen sCap:Nat) (cur:Array Value) (t:TypeId) (cs:List Value)
  (hu:P.underlying dT=some (.slice elem)) (hs:(P.info? elem).map (·.size)=some size)
  (hg:w.heap[g]? = some (.cells cur t (0,0))) (hn:cs.length=Nat.min sLen dLen*size)
  (hsrc:∀ j v,cs[j]? = some v→w.cell? (a.add j)=some v) (hfit:o+cs.length≤cur.size) (h1:∀ v∈cs,v.oneCell'=true) :
  (Builtin.copy_ #[dT,sT] ty #[.slice (some ⟨g,o,none⟩) dLen dCap,.slice (some a) sLen sCap]).run P w =
   .ok (goInt (Nat.min sLen dLen)) (w.setRow g (cur.toList.take o++cs++cur.toList.drop (o+cs.length)).toArray):=by
 have hl:=run_loadCells_list (P:=P) w a cs hsrc
 have hst:=run_storeCells_at P g o t cs 0 cur w hg (by simpa using hfit) h1
 cases hq:P.info? elem with
 | none=>simp [hq] at hs
 | some i=>
  have hi:i.size=size:=by simpa [hq] using hs
  rw [hn] at hl
  simp [Builtin.copy_,run_underlying hu,Builtin.lenOf,Builtin.firstCells,sizeOf,typeInfo,hq,hi,hl,hst]
theorem run_copy_nothing {P:Program} (w:World) (dT sT ty elem:TypeId) (size:Nat) (d a:Option Addr) (dLen dCap sLen sCap:Nat) (hu:P.underlying dT=some (.slice elem)) (hs:(P.info? elem).map (·.size)=some size) (hn:Nat.min sLen dLen=0) :
  (Builtin.copy_ #[dT,sT] ty #[.slice d dLen dCap,.slice a sLen sCap]).run P w=.ok (goInt 0) w:=by
 cases hq:P.info? elem with
 | none=>simp [hq] at hs
 | some i=>
  have hl:∀ (x:Addr),(loadCells x 0).run P w=.ok #[] w:=fun x=>by simpa using run_loadCells_list (P:=P) w x [] (by simp)
  cases d<;>cases a<;>simp [Builtin.copy_,run_underlying hu,Builtin.lenOf,Builtin.firstCells,sizeOf,typeInfo,hq,hn,storeCells,hl]
theorem setRow_alloc (w:World) (c c':Array Value) (t:TypeId) (fr:Nat×Nat):(w.alloc (.cells c t fr)).setRow w.heap.size c'=w.alloc (.cells c' t fr):=by
 simp only [World.setRow,World.alloc]
 congr 1
 apply Array.ext_getElem?
 intro i
 rw [Array.getElem?_modify]
 by_cases h:w.heap.size=i
 ·subst h;simp
 ·have h':¬ i=w.heap.size:=fun e=>h e.symm
  simp [h,h',Array.getElem?_push]
def zrow (z:Value) (n:Nat):Array Value:=(List.replicate n z).toArray
theorem madeCells_zrow (z:Value) (n:Nat):madeCells #[z] n=zrow z n:=by
 apply Array.ext
 ·simp [madeCells,zrow]
 ·intro i h1 h2;simp [madeCells,zrow,Nat.mod_one]
theorem row_cell {w:World} {g:Nat} {l:List Value} {t:TypeId} (h:w.heap[g]? = some (.cells l.toArray t (0,0))) {i:Nat} {v:Value} (hi:l[i]? = some v):w.cell? ⟨g,i,none⟩=some v:=by
 simp [World.cell?,h,hi]
theorem row_frozen {w:World} {g:Nat} {c:Array Value} {t:TypeId} (h:w.heap[g]? = some (.cells c t (0,0))) (i:Nat):w.frozen? ⟨g,i,none⟩=false:=by
 simp [World.frozen?,h]
def inB (v n:Int):Bool:=decide (0≤v) && decide (v<n)
theorem in_calls (v n:Int) (w:World) :
  Calls Tryz.prog 58 #[.int .i64 v,.int .i64 n] w fun e w'=>e=.returned (.bool (inB v n))∧w'=w:=by
 by_cases h0:0≤v
 ·by_cases h1:v<n
  ·go_enter Tryz.func58,Tryz.ntmps58
   go_wp2
   go_ret
   exact ⟨by simp [inB,h0,h1],rfl⟩
  ·go_enter Tryz.func58,Tryz.ntmps58
   go_wp2
   go_ret
   exact ⟨by simp [inB,h0,h1],rfl⟩
 ·have h0':decide (0≤v)=false:=by simpa using h0
  go_enter Tryz.func58,Tryz.ntmps58
  go_wp2
  go_ret
  exact ⟨by simp [inB];omega,rfl⟩
def k1 (op:Int):Int:=if op=9 then 0 else 1
def k2 (op:Int):Int:=if op=1∨op=2 then 2 else if op=3∨op=8∨op=9 then 0 else 1
def k3 (op:Int):Int:=if op=1∨op=8∨op=9 then 3 else if op=2 then 0 else if op=3 then 4 else 1
set_option maxHeartbeats 1000000 in
theorem operands_calls (op:Int) (w:World) (h1:1≤op) (h9:op≤9) :
  Calls Tryz.prog 102 #[.int .i64 op] w fun e w'=>e=.returned (.tuple #[.int .i64 (k1 op),.int .i64 (k2 op),.int .i64 (k3 op)])∧w'=w:=by
 rcases (show op=1∨op=2∨op=3∨op=4∨op=5∨op=6∨op=7∨op=8∨op=9 by omega) with rfl | rfl | rfl | rfl | rfl | rfl | rfl | rfl | rfl
 all_goals
  go_enter Tryz.func102,Tryz.ntmps102
  go_wp2
  go_ret3
  exact ⟨by simp [k1,k2,k3],rfl⟩
def fitsB (v o code streams:Int):Bool:=
 if o=1 then inB v 4 else if o=2 then inB v streams else if o=3 then decide (0≤v) && decide (v≤code) else if o=4 then true else v == 0
set_option maxHeartbeats 1000000 in
theorem fits_calls (v o code streams:Int) (w:World) (h0:0≤o) (h4:o≤4) :
  Calls Tryz.prog 103 #[.int .i64 v,.int .i64 o,.int .i64 code,.int .i64 streams] w fun e w'=>e=.returned (.bool (fitsB v o code streams))∧w'=w:=by
 rcases (show o=0∨o=4∨o=1∨o=2∨o=3 by omega) with rfl | rfl | rfl | rfl | rfl
 ·go_enter Tryz.func103,Tryz.ntmps103
  go_wp2
  go_ret
  exact ⟨by simp [fitsB],rfl⟩
 ·go_enter Tryz.func103,Tryz.ntmps103
  go_wp2
  go_ret
  exact ⟨by simp [fitsB],rfl⟩
 all_goals
  by_cases hv:0≤v
  ·go_enter Tryz.func103,Tryz.ntmps103
   go_wp2
   go_ret
   exact ⟨by simp [fitsB,inB,hv],rfl⟩
  ·have hv':decide (0≤v)=false:=by simpa using hv
   go_enter Tryz.func103,Tryz.ntmps103
   go_wp2
   go_ret
   exact ⟨by simp [fitsB,inB];omega,rfl⟩
theorem k1_bd (op:Int):0≤k1 op∧k1 op≤4:=by unfold k1;split<;>omega
theorem k2_bd (op:Int):0≤k2 op∧k2 op≤4:=by unfold k2;split<;>(try split)<;>omega
theorem k3_bd (op:Int):0≤k3 op∧k3 op≤4:=by unfold k3;split<;>(try split)<;>(try split)<;>omega
def opsValid (i:Ins) (code streams:Int):Bool:=
 decide (1≤i.op) && decide (i.op≤9) && fitsB i.a (k1 i.op) code streams && fitsB i.b (k2 i.op) code streams && fitsB i.c (k3 i.op) code streams
set_option maxHeartbeats 1000000 in
theorem opsValid_calls (op a b c code streams:Int) (w:World) :
  Calls Tryz.prog 93 #[.agg #[.int .i64 op,.int .i64 a,.int .i64 b,.int .i64 c],.int .i64 code,.int .i64 streams] w fun e w'=>e=.returned (.bool (opsValid ⟨op,a,b,c⟩ code streams))∧Below w.heap.size w w':=by
 by_cases h1:op<1
 ·go_enter Tryz.func93,Tryz.ntmps93
  go_wp2
  go_ret
  exact ⟨by
    have:¬ 1≤op:=by omega
    simp [opsValid,this],(Below.refl _ _).alloc (Nat.le_refl _) _⟩
 by_cases h9:9<op
 ·have h1':decide (op<1)=false:=by simpa using h1
  go_enter Tryz.func93,Tryz.ntmps93
  go_wp2
  go_ret
  exact ⟨by
    have:¬ op≤9:=by omega
    simp [opsValid,this],(Below.refl _ _).alloc (Nat.le_refl _) _⟩
 have h1':decide (op<1)=false:=by simpa using h1
 have g1:1≤op:=by omega
 have g9:op≤9:=by omega
 have b1:=k1_bd op
 have b2:=k2_bd op
 have b3:=k3_bd op
 generalize e1:k1 op=x1 at *
 generalize e2:k2 op=x2 at *
 generalize e3:k3 op=x3 at *
 have E:Hid (k1 op=x1∧k2 op=x2∧k3 op=x3):=⟨e1,e2,e3⟩
 have HO:Hid (∀ w:World,Calls Tryz.prog 102 #[.int .i64 op] w fun e w'=>e=.returned (.tuple #[.int .i64 x1,.int .i64 x2,.int .i64 x3])∧w'=w):=by
  intro w;have:=operands_calls op w g1 g9;rw [e1,e2,e3] at this;exact this
 have HV:Hid (opsValid ⟨op,a,b,c⟩ code streams=(fitsB a x1 code streams && fitsB b x2 code streams && fitsB c x3 code streams)):=by
  unfold Hid;simp [opsValid,g1,g9,e1,e2,e3]
 clear e1 e2 e3
 generalize f1:fitsB a x1 code streams=y1 at *
 generalize f2:fitsB b x2 code streams=y2 at *
 generalize f3:fitsB c x3 code streams=y3 at *
 have H1:Hid (∀ w:World,Calls Tryz.prog 103 #[.int .i64 a,.int .i64 x1,.int .i64 code,.int .i64 streams] w fun e w'=>e=.returned (.bool y1)∧w'=w):=by
  intro w;have:=fits_calls a x1 code streams w b1.1 b1.2;rw [f1] at this;exact this
 have H2:Hid (∀ w:World,Calls Tryz.prog 103 #[.int .i64 b,.int .i64 x2,.int .i64 code,.int .i64 streams] w fun e w'=>e=.returned (.bool y2)∧w'=w):=by
  intro w;have:=fits_calls b x2 code streams w b2.1 b2.2;rw [f2] at this;exact this
 have H3:Hid (∀ w:World,Calls Tryz.prog 103 #[.int .i64 c,.int .i64 x3,.int .i64 code,.int .i64 streams] w fun e w'=>e=.returned (.bool y3)∧w'=w):=by
  intro w;have:=fits_calls c x3 code streams w b3.1 b3.2;rw [f3] at this;exact this
 clear f1 f2 f3 b1 b2 b3 E
 go_enter Tryz.func93,Tryz.ntmps93
 go_wp2_with fail
 refine (unhide HO _).mono ?_
 rintro e w' ⟨rfl,rfl⟩
 go_wp2_with fail
 refine (unhide H1 _).mono ?_
 rintro e w' ⟨rfl,rfl⟩
 cases y1
 ·go_wp2
  go_ret
  exact ⟨by rw [HV.out];simp,(Below.refl _ _).alloc (Nat.le_refl _) _⟩
 go_wp2_with fail
 refine (unhide H2 _).mono ?_
 rintro e w' ⟨rfl,rfl⟩
 cases y2
 ·go_wp2
  go_ret
  exact ⟨by rw [HV.out];simp,(Below.refl _ _).alloc (Nat.le_refl _) _⟩
 go_wp2_with fail
 refine (unhide H3 _).mono ?_
 rintro e w' ⟨rfl,rfl⟩
 go_wp2
 go_ret
 exact ⟨by rw [HV.out];simp,(Below.refl _ _).alloc (Nat.le_refl _) _⟩
def usesB (code:List Ins) (op st:Int):Bool:=code.any fun i=>i.op == op && i.b == st
set_option maxHeartbeats 400000 in
theorem uses_calls {code:List Ins} {v:Value} {w:World} (op st:Int) (h:CodeAt w v code) :
  Calls Tryz.prog 94 #[v,.int .i64 op,.int .i64 st] w fun e w'=>e=.returned (.bool (usesB code op st))∧Below w.heap.size w w':=by
 obtain ⟨a,cap,rfl,hn,hcap,hc⟩:=h.open
 have HC:=hide hc
 clear hc h
 go_enter Tryz.func94,Tryz.ntmps94
 go_wp2
 go_loopw [11] (fun i wr=>∃ k:Nat,k≤code.length∧i=.int .i64 k∧Below w.heap.size w wr∧usesB (code.take k) op st=false) (fun i _=>code.length-(intOf i).toNat)
 case atStart=>exact ⟨0,Nat.zero_le _,rfl,Below.refl _ _,rfl⟩
 case round=>
  obtain ⟨k,hk,rfl,hbl,hno⟩:=hrel
  have HN:=hide hno
  clear hno
  by_cases hlt:k<code.length
  ·obtain ⟨b,off,rfl,d0,d1,d2,d3⟩:=unhide HC wr hbl k hlt
   clear HC
   have HS:Hid (usesB (code.take (k+1)) op st=(usesB (code.take k) op st || (code[k].op == op && code[k].b == st))):=any_take_succ _ _ _ hlt
   have HH:Hid ((code[k].op == op && code[k].b == st)=true→usesB code op st=true):=any_of_getElem code (fun i=>i.op == op && i.b == st) k hlt
   generalize code[k]=ins at *
   go_wp2
   all_goals first
    | (go_ret;exact ⟨ret_bool (by rw [HH.out (by simp [*])]),hbl.alloc hbl.size _⟩)
    | (
      go_roundw
      case rel=>exact ⟨k+1,by omega,by go_num,hbl.alloc hbl.size _,by rw [HS.out,HN.out];simp [*]⟩
      case measure=>simp [intOf];omega)
  ·go_wp2
   go_ret
   exact ⟨ret_bool (by have:=HN.out;rw [List.take_of_length_le (by omega)] at this;exact this.symm),hbl⟩
def usersN (ws:List (List Ins)) (op st:Int):Nat:=ws.countP fun c=>usesB c op st
set_option maxHeartbeats 400000 in
theorem users_calls {ws:List (List Ins)} {v:Value} {w:World} (op st:Int) (h:WorkersAt w v ws) :
  Calls Tryz.prog 83 #[v,.int .i64 op,.int .i64 st] w fun e w'=>e=.returned (.int .i64 (usersN ws op st))∧Below w.heap.size w w':=by
 obtain ⟨a,cap,rfl,hn,hcap,hc⟩:=h.open
 have HC:=hide hc
 clear hc h
 go_enter Tryz.func83,Tryz.ntmps83
 go_wp2
 go_loopw [7,12] (fun c i wr=>∃ k:Nat,k≤ws.length∧i=.int .i64 k∧Below w.heap.size w wr∧c=.int .i64 (usersN (ws.take k) op st)) (fun _ i _=>ws.length-(intOf i).toNat)
 case atStart=>exact ⟨0,Nat.zero_le _,rfl,Below.refl _ _,rfl⟩
 case round=>
  obtain ⟨k,hk,rfl,hbl,rfl⟩:=hrel
  have hle:usersN (ws.take k) op st≤k:=Nat.le_trans List.countP_le_length (by simp;omega)
  by_cases hlt:k<ws.length
  ·obtain ⟨b,off,u,rfl,d0,hcode⟩:=unhide HC wr hbl k hlt
   clear HC
   have HS:Hid (usersN (ws.take (k+1)) op st=usersN (ws.take k) op st+if usesB ws[k] op st then 1 else 0):=countP_take_succ _ _ _ hlt
   have HCd:=hide hcode
   obtain ⟨ua,ucap,hu, -, -, -⟩:=hcode.open
   generalize usersN (ws.take k) op st=cnt at *
   generalize ws[k]=cd at *
   generalize hq:cd.length=cl at *
   have HQ:=hide hq
   clear hq hcode
   subst hu
   go_wp2_with fail
   refine (uses_calls op st (unhide HCd)).mono ?_
   rintro e w1 ⟨rfl,hb1⟩
   have hbl1:=hbl.trans (hb1.mono hbl.size)
   clear hb1
   cases hy:usesB cd op st
   ·rw [hy] at HS
    go_wp2
    go_roundw
    case rel=>exact ⟨k+1,by omega,by go_num,hbl1,by rw [HS.out];simp⟩
    case measure=>simp [intOf];omega
   ·rw [hy] at HS
    go_wp2
    go_roundw
    case rel=>exact ⟨k+1,by omega,by go_num,hbl1,by rw [HS.out];simp⟩
    case measure=>simp [intOf];omega
  ·go_wp2
   go_ret
   exact ⟨ret_int (by rw [List.take_of_length_le (by omega)]),hbl⟩
def hasSourceB (ss:List Src) (st:Int):Bool:=ss.any fun s=>s.stream == st
set_option maxHeartbeats 400000 in
theorem hasSource_calls {ss:List Src} {v:Value} {w:World} (st:Int) (h:SourcesAt w v ss) :
  Calls Tryz.prog 81 #[v,.int .i64 st] w fun e w'=>e=.returned (.bool (hasSourceB ss st))∧Below w.heap.size w w':=by
 obtain ⟨a,cap,rfl,hn,hcap,hc⟩:=h.open
 have HC:=hide hc
 clear hc h
 go_enter Tryz.func81,Tryz.ntmps81
 go_wp2
 go_loopw [9] (fun i wr=>∃ k:Nat,k≤ss.length∧i=.int .i64 k∧Below w.heap.size w wr∧hasSourceB (ss.take k) st=false) (fun i _=>ss.length-(intOf i).toNat)
 case atStart=>exact ⟨0,Nat.zero_le _,rfl,Below.refl _ _,rfl⟩
 case round=>
  obtain ⟨k,hk,rfl,hbl,hno⟩:=hrel
  have HN:=hide hno
  clear hno
  by_cases hlt:k<ss.length
  ·obtain ⟨b,off,u,rfl,d0,d1,hu⟩:=unhide HC wr hbl k hlt
   clear HC
   have HS:Hid (hasSourceB (ss.take (k+1)) st=(hasSourceB (ss.take k) st || (ss[k].stream == st))):=any_take_succ _ _ _ hlt
   have HH:Hid ((ss[k].stream == st)=true→hasSourceB ss st=true):=any_of_getElem ss (fun i=>i.stream == st) k hlt
   obtain ⟨ua,ucap,hu, -, -, -⟩:=hu.open
   generalize ss[k]=src at *
   generalize src.words.length=sl at *
   subst hu
   go_wp2
   all_goals first
    | (go_ret;exact ⟨ret_bool (by rw [HH.out (by simp [*])]),hbl.alloc hbl.size _⟩)
    | (
      go_roundw
      case rel=>exact ⟨k+1,by omega,by go_num,hbl.alloc hbl.size _,by rw [HS.out,HN.out];simp [*]⟩
      case measure=>simp [intOf];omega)
  ·go_wp2
   go_ret
   exact ⟨ret_bool (by have:=HN.out;rw [List.take_of_length_le (by omega)] at this;exact this.symm),hbl⟩
structure Wk where
 place:Nat
 r:Nat→Int
 steps:Int
structure Sm where
 words:List Int
 read:Nat
 room:Nat
structure Rc where
 W:List Wk
 S:List Sm
def Rc.w (R:Rc) (k:Nat):Wk:=R.W.getD k ⟨0,fun _=>0,0⟩
def Rc.s (R:Rc) (s:Nat):Sm:=R.S.getD s ⟨[],0,0⟩
def upd (r:Nat→Int) (a:Nat) (v:Int):Nat→Int:=fun j=>if j=a then v else r j
def alu (op b c:Int):Int:=if op=4 then wrap64 (b+c) else if op=5 then wrap64 (b-c) else if op=6 then wrap64 (b*c) else if b<c then 1 else 0
def nextW (x:Wk) (i:Ins) (inp:Option Int):Wk:=
 if i.op=1 then
  match inp with
  | some v=>⟨x.place+1,upd x.r i.a.toNat v,wrap64 (x.steps+1)⟩
  | none=>⟨i.c.toNat,x.r,wrap64 (x.steps+1)⟩
 else if i.op=2 then ⟨x.place+1,x.r,wrap64 (x.steps+1)⟩
 else if i.op=3 then ⟨x.place+1,upd x.r i.a.toNat i.c,wrap64 (x.steps+1)⟩
 else if i.op=8 then ⟨if x.r i.a.toNat=0 then x.place+1 else i.c.toNat,x.r,wrap64 (x.steps+1)⟩
 else if i.op=9 then ⟨i.c.toNat,x.r,wrap64 (x.steps+1)⟩
 else ⟨x.place+1,upd x.r i.a.toNat (alu i.op (x.r i.b.toNat) (x.r i.c.toNat)),wrap64 (x.steps+1)⟩
theorem nextW_congr (x:Wk) (i:Ins) (a b:Option Int) (h:i.op≠1):nextW x i a=nextW x i b:=by simp [nextW,h]
def codeOf (N:Net) (k:Nat):List Ins:=N.workers.getD k []
def insAt (N:Net) (k:Nat) (x:Wk):Option Ins:=(codeOf N k)[x.place]?
def srcd (N:Net) (s:Nat):Bool:=hasSourceB N.sources s
def used (N:Net) (s:Nat):Bool:=decide (0<usersN N.workers 1 s)
def srcWords (N:Net) (s:Nat):List Int:=((N.sources.find? fun x=>x.stream == (s:Int)).map (·.words)).getD []
def stateOf (N:Net) (R:Rc) (k:Nat):Nat:=
 match insAt N k (R.w k) with
 | none=>4
 | some i=>
  if i.op=1∧srcd N i.b.toNat=false∧(R.s i.b.toNat).read=(R.s i.b.toNat).words.length then 2
  else if i.op=2∧used N i.b.toNat=true∧(R.s i.b.toNat).room≤(R.s i.b.toNat).words.length-(R.s i.b.toNat).read then 3
  else 1
def nextS (R:Rc) (x:Wk) (i:Ins):List Sm:=
 if i.op=1 then R.S.set i.b.toNat { R.s i.b.toNat with read:=if (R.s i.b.toNat).read<(R.s i.b.toNat).words.length then (R.s i.b.toNat).read+1 else (R.s i.b.toNat).read}
 else if i.op=2 then R.S.set i.b.toNat { R.s i.b.toNat with words:=(R.s i.b.toNat).words++[x.r i.a.toNat]}
 else R.S
def doStep (N:Net) (R:Rc) (k:Nat):Rc:=
 match insAt N k (R.w k) with
 | none=>R
 | some i=>⟨R.W.set k (nextW (R.w k) i (R.s i.b.toNat).words[(R.s i.b.toNat).read]?),nextS R (R.w k) i⟩
def growS (R:Rc) (s:Nat):Rc:=⟨R.W,R.S.set s { R.s s with room:=(R.s s).room+1}⟩
def initR (N:Net) (rooms:List Int):Rc:=
 ⟨List.replicate N.workers.length ⟨0,fun _=>0,0⟩,(List.range N.streams.length).map fun s=>⟨if srcd N s then srcWords N s else [],0,(rooms.getD s 0).toNat⟩⟩
def ev (N:Net) (G:Rc×(Nat→List Wk)) (e:Nat ⊕ Nat):Rc×(Nat→List Wk):=
 match e with
 | .inl k=>if k<N.workers.length∧stateOf N G.1 k=1 then (doStep N G.1 k,fun j=>if j=k then G.2 k++[G.1.w k] else G.2 j) else G
 | .inr s=>(growS G.1 s,G.2)
def grun (N:Net) (rooms:List Int):List (Nat ⊕ Nat)→Rc×(Nat→List Wk)
 | []=>(initR N rooms,fun _=>[])
 | e::es=>ev N (grun N rooms es) e
structure Ok (N:Net):Prop where
 ins:∀ k,k<N.workers.length→∀ i∈codeOf N k,1≤i.op∧i.op≤9∧(i.op=1∨i.op=2→0≤i.b∧i.b<N.streams.length)
 wr:∀ s k k',usesB (codeOf N k) 2 s=true→usesB (codeOf N k') 2 s=true→k=k'
 rd:∀ s k k',usesB (codeOf N k) 1 s=true→usesB (codeOf N k') 1 s=true→k=k'
 src:∀ (s k:Nat),srcd N s=true→usesB (codeOf N k) 2 s=false
def full (G:Rc×(Nat→List Wk)) (k:Nat):List Wk:=G.2 k++[G.1.w k]
theorem uses_of_ins {N:Net} {k:Nat} {x:Wk} {i:Ins} (h:insAt N k x=some i):usesB (codeOf N k) i.op i.b=true:=by
 have hm:i∈codeOf N k:=List.mem_of_getElem? h
 exact List.any_eq_true.2 ⟨i,hm,by simp⟩
theorem getD_set_self {α : Type} (l:List α) (k:Nat) (v d : α) (h:k<l.length):(l.set k v).getD k d=v:=by simp [List.getD,h]
theorem getD_set_ne {α : Type} (l:List α) (k j:Nat) (v d : α) (h:k≠j):(l.set k v).getD j d=l.getD j d:=by simp [List.getD,List.getElem?_set_ne h]
theorem grow_s (R:Rc) (t s:Nat):((growS R t).s s).words=(R.s s).words∧((growS R t).s s).read=(R.s s).read:=by
 by_cases h:t=s
 ·subst h
  by_cases hl:t<R.S.length
  ·simp [growS,Rc.s,List.getD,hl]
  ·have:growS R t=R:=by simp only [growS];rw [List.set_eq_of_length_le (by omega)]
   rw [this];exact ⟨rfl,rfl⟩
 ·simp [growS,Rc.s,List.getD,List.getElem?_set_ne h]
theorem doStep_some {N:Net} {R:Rc} {k:Nat} {i:Ins} (h:insAt N k (R.w k)=some i) :
  doStep N R k=⟨R.W.set k (nextW (R.w k) i (R.s i.b.toNat).words[(R.s i.b.toNat).read]?),nextS R (R.w k) i⟩:=by simp [doStep,h]
theorem nextS_length (R:Rc) (x:Wk) (i:Ins):(nextS R x i).length=R.S.length:=by
 unfold nextS;split
 ·simp
 ·split<;>simp
theorem step_s {R:Rc} {x:Wk} {i:Ins} (W:List Wk) (s:Nat) (hs:s<R.S.length) :
  (⟨W,nextS R x i⟩:Rc).s s=if i.op=1∧s=i.b.toNat then { R.s s with read:=if (R.s s).read<(R.s s).words.length then (R.s s).read+1 else (R.s s).read}
   else if i.op=2∧s=i.b.toNat then { R.s s with words:=(R.s s).words++[x.r i.a.toNat]} else R.s s:=by
 by_cases h1:i.op=1
 ·by_cases h:s=i.b.toNat
  ·rw [if_pos (c:=i.op=1∧s=i.b.toNat) ⟨h1,h⟩]
   subst h
   simp only [Rc.s,nextS]
   rw [if_pos (c:=i.op=1) h1,getD_set_self _ _ _ _ hs]
  ·rw [if_neg (c:=i.op=1∧s=i.b.toNat) (fun e=>h e.2),if_neg (c:=i.op=2∧s=i.b.toNat) (fun e=>h e.2)]
   simp only [Rc.s,nextS]
   rw [if_pos (c:=i.op=1) h1,getD_set_ne _ _ _ _ _ (fun e=>h e.symm)]
 ·rw [if_neg (c:=i.op=1∧s=i.b.toNat) (fun e=>h1 e.1)]
  by_cases h2:i.op=2
  ·by_cases h:s=i.b.toNat
   ·rw [if_pos (c:=i.op=2∧s=i.b.toNat) ⟨h2,h⟩]
    subst h
    simp only [Rc.s,nextS]
    rw [if_neg (c:=i.op=1) h1,if_pos (c:=i.op=2) h2,getD_set_self _ _ _ _ hs]
   ·rw [if_neg (c:=i.op=2∧s=i.b.toNat) (fun e=>h e.2)]
    simp only [Rc.s,nextS]
    rw [if_neg (c:=i.op=1) h1,if_pos (c:=i.op=2) h2,getD_set_ne _ _ _ _ _ (fun e=>h e.symm)]
  ·rw [if_neg (c:=i.op=2∧s=i.b.toNat) (fun e=>h2 e.1)]
   simp only [Rc.s,nextS]
   rw [if_neg (c:=i.op=1) h1,if_neg (c:=i.op=2) h2]
end Go.Proofs.YthfdgdfnflilfaaGreatDoor

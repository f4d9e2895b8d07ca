/- Part 23: Lent5, Lent6. -/
import Derived.Deep.Cut
import Derived.Test.YthfdgdfnflilfaaGreatDoorPart10
import Derived.Test.YthfdgdfnflilfaaGreatDoorPart18
namespace Go.Proofs.YthfdgdfnflilfaaGreatDoor
open Go.RowKit Go.Conc
def newSrc (m:Nat):Array Value:=(madeCells #[.int .i64 0,.slice none 0 0] ((m+1)*2)).setIfInBounds (m*2) (.int .i64 79)
theorem made_get (z:Array Value) (n i:Nat) (h:i<n):(madeCells z n)[i]? = some z[i%z.size]! := by simp [madeCells,h]
theorem SrcRow.new {w:World} {g:Nat} {ss:List Src} {IA:Nat→Option Addr} {IC:Nat→Nat} (h:w.heap[g]? = some (.cells (newSrc ss.length) 42 (0,0))):SrcRow w g ss IA IC 0:=by
 have hsz:(madeCells #[.int .i64 0,.slice none 0 0] ((ss.length+1)*2)).size=(ss.length+1)*2:=size_madeCells _ _
 refine ⟨(newSrc ss.length).toList,by simpa using h,by simp [newSrc,hsz],fun t ht=>by omega,fun t _ ht=>⟨0,?_,?_⟩,?_,?_⟩
 ·rw [Array.getElem?_toList,newSrc,Array.getElem?_setIfInBounds_ne (by omega),made_get _ _ _ (by omega)]
  have:t*2%(#[Value.int .i64 0,.slice none 0 0]:Array Value).size=0:=by simp
  rw [this];rfl
 ·rw [Array.getElem?_toList,newSrc,Array.getElem?_setIfInBounds_ne (by omega),made_get _ _ _ (by omega)]
  have:(t*2+1)%(#[Value.int .i64 0,.slice none 0 0]:Array Value).size=1:=by simp
  rw [this];rfl
 ·rw [Array.getElem?_toList,newSrc,Array.getElem?_setIfInBounds_self,hsz,if_pos (by omega)]
 ·rw [Array.getElem?_toList,newSrc,Array.getElem?_setIfInBounds_ne (by omega),made_get _ _ _ (by omega)]
  have:(ss.length*2+1)%(#[Value.int .i64 0,.slice none 0 0]:Array Value).size=1:=by simp
  rw [this];rfl
theorem WkRow.new {w:World} {g:Nat} {ws:List (List Ins)} {C:Nat→Nat} (h:w.heap[g]? = some (.cells (madeCells #[.slice none 0 0] (ws.length+1)) 45 (0,0))):WkRow w g ws C 0:=by
 refine ⟨(madeCells #[.slice none 0 0] (ws.length+1)).toList,by simpa using h,by rw [Array.length_toList,size_madeCells],fun t ht=>by omega,fun t _ ht=>?_⟩
 rw [Array.getElem?_toList,made_get _ _ _ (by omega)]
 have:t%(#[Value.slice none 0 0]:Array Value).size=0:=by simp [Nat.mod_one]
 rw [this];rfl
def zeroIns (n:Nat):Array Value:=madeCells #[.int .i64 0,.int .i64 0,.int .i64 0,.int .i64 0] ((n+1)*4)
def copied (c:List Ins):Array Value:=(codeRow c++([.int .i64 0,.int .i64 0,.int .i64 0,.int .i64 0]:List Value)).toArray
theorem zeroIns_tail (n:Nat):(zeroIns n).toList.drop (n*4)=[.int .i64 0,.int .i64 0,.int .i64 0,.int .i64 0]:=by
 apply List.ext_getElem?
 intro j
 rw [List.getElem?_drop]
 rcases Nat.lt_or_ge j 4 with hj | hj
 ·rw [Array.getElem?_toList,zeroIns,made_get _ _ _ (by omega)]
  have hm:(n*4+j)%(#[Value.int .i64 0,.int .i64 0,.int .i64 0,.int .i64 0]:Array Value).size=j:=by simp;omega
  rw [hm]
  rcases (show j=0∨j=1∨j=2∨j=3 by omega) with rfl | rfl | rfl | rfl<;>rfl
 ·rw [List.getElem?_eq_none,List.getElem?_eq_none]
  ·simpa using hj
  ·rw [Array.length_toList,zeroIns,size_madeCells];omega
theorem copy_code {w:World} {a:Option Addr} {c:List Ins} {cap:Nat} (h:CodeAt w (.slice a c.length cap) c) (ty:TypeId) :
  (Builtin.copy_ #[45,45] ty #[.slice (some ⟨w.heap.size,0,none⟩) (c.length+1) (c.length+1),.slice a c.length cap]).run Tryz.prog (w.alloc (.cells (zeroIns c.length) 44)) =
   .ok (goInt c.length) (w.alloc (.cells (copied c) 44)):=by
 have hs4:(Tryz.prog.info? 44).map (·.size)=some 4:=by kernel_rfl
 have hmin:Nat.min c.length (c.length+1)=c.length:=Nat.min_eq_left (by omega)
 by_cases h0:0<c.length
 ·obtain ⟨⟨b,off,sp⟩,rfl,hsp,hc⟩:=code_cells (h.below ((Below.refl _ _).alloc (Nat.le_refl _) (.cells (zeroIns c.length) 44))) h0
  cases hsp
  have:=run_copy_wide (P:=Tryz.prog) (w.alloc (.cells (zeroIns c.length) 44)) 45 45 ty 44 4 w.heap.size 0 (c.length+1) (c.length+1) ⟨b,off,none⟩ c.length cap (zeroIns c.length) 44 (codeRow c)
   Tryz.underlying45 hs4 (heap_alloc_new _ _) (by rw [codeRow_length,hmin]) hc (by rw [codeRow_length,zeroIns,size_madeCells];omega) (codeRow_one c)
  have e2:((zeroIns c.length).toList.take 0++codeRow c++(zeroIns c.length).toList.drop (0+(codeRow c).length)).toArray=copied c:=by
   rw [codeRow_length,Nat.zero_add,zeroIns_tail,List.take_zero,List.nil_append];rfl
  rw [e2,setRow_alloc,hmin] at this
  exact this
 ·have hl:c=[]:=List.eq_nil_of_length_eq_zero (by omega)
  subst hl
  have:=run_copy_nothing (P:=Tryz.prog) (w.alloc (.cells (zeroIns 0) 44)) 45 45 ty 44 4 (some ⟨w.heap.size,0,none⟩) a 1 1 0 cap Tryz.underlying45 hs4 rfl
  have e:zeroIns 0=copied []:=by
   apply Array.ext'
   simpa [copied,codeRow] using zeroIns_tail 0
  rw [e] at this
  show (Builtin.copy_ _ _ #[.slice (some ⟨w.heap.size,0,none⟩) 1 1,.slice a 0 cap]).run Tryz.prog (w.alloc (.cells (zeroIns 0) 44))=_
  rw [e]
  exact this
theorem copied_get (c:List Ins):(copied c)[c.length*4]? = some (.int .i64 0)∧(copied c).size=(c.length+1)*4∧(copied c).setIfInBounds (c.length*4) (.int .i64 80)=(codeRow (c++[⟨80,0,0,0⟩])).toArray:=by
 have hl:=codeRow_length c
 refine ⟨?_,?_,?_⟩
 ·simp [copied, ← hl]
 ·simp [copied,hl];omega
 ·have e:codeRow (c++[⟨80,0,0,0⟩])=codeRow c++[.int .i64 80,.int .i64 0,.int .i64 0,.int .i64 0]:=by simp [codeRow]
  rw [e,copied,List.setIfInBounds_toArray, ← hl,List.set_append_right _ _ (Nat.le_refl _)]
  simp
theorem Loan1.drew {B:Nat} {w0:World} {n:Net} {bx:Obj} {gs gr:Nat} {rooms:Value} {G:Nat→Nat} {IA:Nat→Option Addr} {IC:Nat→Nat} {vW:Value} {i:Nat} {wr:World} (h:Loan1 B w0 n bx gs gr rooms G IA IC vW i wr):Loan1 B w0 n bx gs gr rooms G IA IC vW i wr.drew:=
 ⟨h.box,h.blk,⟨h.str.blk,h.str.val⟩,⟨own_of_blockB h.words.row fun _ _=>rfl,fun t ht=>⟨(h.words.words t ht).blk,(h.words.words t ht).val⟩,h.words.inj,h.words.ne,h.words.ge⟩,h.src.frame rfl,h.ges,h.ger,h.below.drew⟩
theorem Loan2.drew {B:Nat} {w0:World} {n:Net} {bx:Obj} {L:LoanL} {C:Nat→Nat} {vC:Value} {j:Nat} {wr:World} (h:Loan2 B w0 n bx L C vC j wr):Loan2 B w0 n bx L C vC j wr.drew:=
 ⟨h.box,h.blk,⟨h.str.blk,h.str.val⟩,⟨own_of_blockB h.words.row fun _ _=>rfl,fun t ht=>⟨(h.words.words t ht).blk,(h.words.words t ht).val⟩,h.words.inj,h.words.ne,h.words.ge⟩,h.src.frame rfl,⟨own_of_blockB h.codes.row fun _ _=>rfl,h.codes.codes,h.codes.inj,h.codes.ge⟩,h.wks.frame rfl,h.ne,h.ges,h.ger,h.gew,h.below.drew⟩
theorem Loan2.done {B:Nat} {w0:World} {n:Net} {bx:Obj} {L:LoanL} {C:Nat→Nat} {vC:Value} {wr:World} (h:Loan2 B w0 n bx L C vC n.workers.length wr) (hq:L.q=B+1) :
  LoanAt B { L with C:=C,vC:=vC } (((wr.setCell ⟨B+1,1,none⟩ (.slice (some ⟨L.gr,0,none⟩) n.sources.length (n.sources.length+1))).drew.setCell ⟨B+1,2,none⟩ (.slice (some ⟨L.gw,0,none⟩) n.workers.length (n.workers.length+1))).drew) n ∧
  Below B w0 (((wr.setCell ⟨B+1,1,none⟩ (.slice (some ⟨L.gr,0,none⟩) n.sources.length (n.sources.length+1))).drew.setCell ⟨B+1,2,none⟩ (.slice (some ⟨L.gw,0,none⟩) n.workers.length (n.workers.length+1))).drew):=by
 have hold:∀ k,B+2≤k→(((wr.setCell ⟨B+1,1,none⟩ (.slice (some ⟨L.gr,0,none⟩) n.sources.length (n.sources.length+1))).drew.setCell ⟨B+1,2,none⟩ (.slice (some ⟨L.gw,0,none⟩) n.workers.length (n.workers.length+1))).drew).heap[k]? = wr.heap[k]? := fun k hk=>by
  show ((wr.setCell ⟨B+1,1,none⟩ (.slice (some ⟨L.gr,0,none⟩) n.sources.length (n.sources.length+1))).drew.setCell ⟨B+1,2,none⟩ (.slice (some ⟨L.gw,0,none⟩) n.workers.length (n.workers.length+1))).heap[k]? = _
  rw [heap_setCell_other _ _ _ _ (by show k≠B+1;omega)]
  show (wr.setCell ⟨B+1,1,none⟩ (.slice (some ⟨L.gr,0,none⟩) n.sources.length (n.sources.length+1))).heap[k]? = _
  rw [heap_setCell_other _ _ _ _ (by show k≠B+1;omega)]
 refine ⟨⟨?_,h.str.frame (hold _ h.ges),?_,h.src.frame (hold _ h.ger),?_,h.wks.frame (hold _ h.gew),h.ne,?_⟩,?_⟩
 ·show (((wr.setCell ⟨B+1,1,none⟩ _).drew.setCell ⟨B+1,2,none⟩ _).drew).heap[L.q]? = _
  rw [hq]
  have h1:=blk_set (l:=[_,_,_,_,_,_,_,_]) h.blk 1 (.slice (some ⟨L.gr,0,none⟩) n.sources.length (n.sources.length+1))
  exact blk_set (w:=(wr.setCell ⟨B+1,1,none⟩ (.slice (some ⟨L.gr,0,none⟩) n.sources.length (n.sources.length+1))).drew) (l:=[_,_,_,_,_,_,_,_]) h1 2 (.slice (some ⟨L.gw,0,none⟩) n.workers.length (n.workers.length+1))
 ·have:=h.words.frame (fun g hg=>hold g (own_baseB h.words.row hg)) (fun t ht=>hold _ (h.words.ge t ht))
  exact ⟨own_lower this.row (by omega),this.words,this.inj,this.ne,fun t ht=>Nat.le_trans (Nat.le_add_right _ _) (this.ge t ht)⟩
 ·have:=h.codes.frame (fun g hg=>hold g (own_baseB h.codes.row hg)) (fun t ht=>hold _ (h.codes.ge t ht))
  exact ⟨own_lower this.row (by omega),this.codes,this.inj,fun t ht=>Nat.le_trans (Nat.le_add_right _ _) (this.ge t ht)⟩
 ·have:=h.ges;have:=h.ger;have:=h.gew
  exact ⟨by show B≤L.q;omega,by show B≤L.gs;omega,by show B≤L.gr;omega,by show B≤L.gw;omega⟩
 ·exact (((h.below.setCell (p:=⟨B+1,1,none⟩) (by show B≤B+1;omega) _).drew).setCell (p:=⟨B+1,2,none⟩) (by show B≤B+1;omega) _).drew
set_option maxRecDepth 100000 in
set_option maxHeartbeats 8000000 in
theorem lent_calls {n:Net} {v:Value} {w:World} (hn:NetAt w v n) (hs:ShortNet n) :
  Calls Tryz.prog 12 #[v] w fun e w'=>∃ L:LoanL,e=.returned (.pointer (some ⟨L.q,0,none⟩))∧LoanAt w.heap.size L w' n∧Below w.heap.size w w':=by
 obtain ⟨s1,s2,s3,s4,s5⟩:=hs
 obtain ⟨iI,hiI,hI0,hI1,hI2⟩:=info_parts Tryz.infoLI
 obtain ⟨iC,hiC,hC0,hC1,hC2⟩:=info_parts Tryz.infoLC
 obtain ⟨vs,vr,vw,rfl,h1,h2,h3⟩:=hn
 obtain ⟨sa,sc,rfl⟩:=h1.form
 obtain ⟨ar,cr,rfl, -, -,hr⟩:=h2.openD
 obtain ⟨aw,cw,rfl, -, -,hw⟩:=h3.openD
 obtain ⟨bx,hbx⟩:∃ bx,bx=Obj.cells #[.slice sa n.streams.length sc,.slice ar n.sources.length cr,.slice aw n.workers.length cw] 26 (0,0):=⟨_,rfl⟩
 have HLs:Hid (∀ wx,Below w.heap.size w wx→Calls Tryz.prog 22 #[.slice sa n.streams.length sc] wx fun e w'=>∃ ia ic,e=.returned (.tuple #[.slice (some ⟨wx.heap.size,0,none⟩) (n.streams.length+1) (n.streams.length+1),.slice ia n.streams.length ic])∧Lentd w' wx.heap.size (.slice ia n.streams.length ic) n.streams∧Below wx.heap.size wx w'):=fun wx hx=>lent_ints (h1.below hx) s1
 have HLr:Hid (∀ i,i<n.sources.length→∃ b off u,ar=some ⟨b,off,none⟩∧(∀ wx,Below w.heap.size w wx→wx.cell? ⟨b,off+i*2,none⟩=some (.int .i64 (n.sources.getD i ⟨0,[]⟩).stream)∧wx.cell? ⟨b,off+i*2+1,none⟩=some u) ∧
   ∀ wx,Below w.heap.size w wx→Calls Tryz.prog 22 #[u] wx fun e w'=>∃ ia ic,e=.returned (.tuple #[.slice (some ⟨wx.heap.size,0,none⟩) ((wordsOf n i).length+1) ((wordsOf n i).length+1),.slice ia (wordsOf n i).length ic])∧Lentd w' wx.heap.size (.slice ia (wordsOf n i).length ic) (wordsOf n i)∧Below wx.heap.size wx w'):=fun i hi=>by
  obtain ⟨b,off,u,ha, -,hu,hc⟩:=hr i hi
  refine ⟨b,off,u,ha,hc,fun wx hx=>?_⟩
  have hl:(wordsOf n i).length≤1048576:=by unfold wordsOf;rw [getD_eq _ _ _ hi];exact (s4 _ (List.getElem_mem hi)).1
  exact lent_ints (l:=wordsOf n i) (IntsAt.below hu hx) hl
 have HLw:Hid (∀ j,j<n.workers.length→(n.workers.getD j []).length≤1048576∧∃ b off ac cc,aw=some ⟨b,off,none⟩∧(∀ wx,Below w.heap.size w wx→wx.cell? ⟨b,off+j,none⟩=some (.slice ac (n.workers.getD j []).length cc))∧∀ wx,Below w.heap.size w wx→CodeAt wx (.slice ac (n.workers.getD j []).length cc) (n.workers.getD j [])):=fun j hj=>by
  obtain ⟨b,off,u,ha, -,hu,hc⟩:=hw j hj
  obtain ⟨ac,cc,rfl⟩:=hu.form
  refine ⟨by rw [getD_eq _ _ _ hj];exact (s5 _ (List.getElem_mem hj)).1,b,off,ac,cc,ha,hc,fun wx hx=>hu.below hx⟩
 have hmkS:=make_wide (P:=Tryz.prog) 23 42 _ 2 32 Tryz.underlying23 Tryz.infoSrc n.sources.length (by omega) (by omega)
 have hmkW:=make_wide (P:=Tryz.prog) 24 45 _ 1 24 Tryz.underlying24 Tryz.infoLC n.workers.length (by omega) (by omega)
 have eS:(Value.agg #[.int .i64 0,.slice none 0 0]).cells=#[.int .i64 0,.slice none 0 0]:=by rfl
 have eW:(Value.slice none 0 0).cells=#[.slice none 0 0]:=by rfl
 rw [eS] at hmkS
 rw [eW,Nat.mul_one] at hmkW
 have hmS:(madeCells #[.int .i64 0,.slice none 0 0] ((n.sources.length+1)*2))[n.sources.length*2]? = some (.int .i64 0):=by
  rw [made_get _ _ _ (by omega)]
  have:n.sources.length*2%(#[Value.int .i64 0,.slice none 0 0]:Array Value).size=0:=by simp
  rw [this];rfl
 have hmZ:(madeCells #[.int .i64 0,.slice none 0 0] ((n.sources.length+1)*2)).size=(n.sources.length+1)*2:=size_madeCells _ _
 have HNS:Hid ((madeCells #[.int .i64 0,.slice none 0 0] ((n.sources.length+1)*2)).setIfInBounds (n.sources.length*2) (.int .i64 79)=newSrc n.sources.length):=rfl
 clear h1 h2 h3 hr hw s4 s5 eS eW
 have hl0:(0:Int)≤(n.sources.length:Int):=by omega
 have hl1:(n.sources.length:Int)<(n.sources.length:Int)+1:=by omega
 generalize madeCells #[.int .i64 0,.slice none 0 0] ((n.sources.length+1)*2)=mS at *
 go_enter Tryz.func12,Tryz.ntmps12
 go_wp2_with fail
 refine (unhide HLs _ (((Below.refl _ _).alloc (Nat.le_refl _) _).alloc (by simp) _)).mono ?_
 rintro e w1 ⟨ia,ic,rfl,hld,hb1⟩
 have hsz1:w.heap.size+1+1≤w1.heap.size:=by have:=hb1.size;simpa using this
 have t0:w1.heap[w.heap.size]? = some bx:=by
  rw [hb1.block _ (by simp;omega),hbx];exact heapOld (by simp) (heapNew rfl)
 have t1:w1.heap[w.heap.size+1]? = some (.cells #[.slice none 0 0,.slice none 0 0,.slice none 0 0,.slice none 0 0,.slice none 0 0,.slice none 0 0,.slice none 0 0,.slice none 0 0] 61 (0,0)):=by
  rw [hb1.block _ (by simp)];exact heapNew (by simp)
 have hbw:Below w.heap.size w w1:=(((Below.refl _ _).alloc (Nat.le_refl _) _).alloc (by simp) _).trans (hb1.mono (by simp;omega))
 have hld':Lentd w1 (w.heap.size+1+1) (.slice ia n.streams.length ic) n.streams:=by simpa using hld
 have t0':=t0
 rw [hbx] at t0'
 obtain ⟨b0, -⟩:=blk_cell (l:=[_,_,_]) t0' 0 _ rfl
 obtain ⟨b1, -⟩:=blk_cell (l:=[_,_,_]) t0' 1 _ rfl
 obtain ⟨b2, -⟩:=blk_cell (l:=[_,_,_]) t0' 2 _ rfl
 obtain ⟨c0,f0⟩:=blk_cell (l:=[_,_,_,_,_,_,_,_]) t1 0 _ rfl
 obtain ⟨c1,f1⟩:=blk_cell (l:=[_,_,_,_,_,_,_,_]) t1 1 _ rfl
 obtain ⟨c2,f2⟩:=blk_cell (l:=[_,_,_,_,_,_,_,_]) t1 2 _ rfl
 obtain ⟨c3,f3⟩:=blk_cell (l:=[_,_,_,_,_,_,_,_]) t1 3 _ rfl
 obtain ⟨c5,f5⟩:=blk_cell (l:=[_,_,_,_,_,_,_,_]) t1 5 _ rfl
 have T0:=hide t0
 have T1:=hide t1
 have HBw:=hide hbw
 have HLd:=hide hld'
 clear hld hld' hb1 t0 t0' t1 hbw HLs
 have htl:=lt_of_blk T1.out
 go_upto_region 5 with fail
 have t2:((w1.setCell ⟨w.heap.size+1,3,none⟩ (.slice (some ⟨w.heap.size+1+1,0,none⟩) (n.streams.length+1) (n.streams.length+1))).setCell ⟨w.heap.size+1,0,none⟩ (.slice ia n.streams.length ic)).heap[w.heap.size+1]? = some (.cells #[.slice ia n.streams.length ic,.slice none 0 0,.slice none 0 0,.slice (some ⟨w.heap.size+1+1,0,none⟩) (n.streams.length+1) (n.streams.length+1),.slice none 0 0,.slice none 0 0,.slice none 0 0,.slice none 0 0] 61 (0,0)):=
  blk_set (l:=[_,_,_,_,_,_,_,_]) (blk_set (l:=[_,_,_,_,_,_,_,_]) T1.out 3 _) 0 _
 have t0:((w1.setCell ⟨w.heap.size+1,3,none⟩ (.slice (some ⟨w.heap.size+1+1,0,none⟩) (n.streams.length+1) (n.streams.length+1))).setCell ⟨w.heap.size+1,0,none⟩ (.slice ia n.streams.length ic)).heap[w.heap.size]? = some bx:=by
  rw [heap_setCell_other _ _ _ _ (by simp),heap_setCell_other _ _ _ _ (by simp)];exact T0.out
 have hld:Lentd ((w1.setCell ⟨w.heap.size+1,3,none⟩ (.slice (some ⟨w.heap.size+1+1,0,none⟩) (n.streams.length+1) (n.streams.length+1))).setCell ⟨w.heap.size+1,0,none⟩ (.slice ia n.streams.length ic)) (w.heap.size+1+1) (.slice ia n.streams.length ic) n.streams:=HLd.out.frame (by rw [heap_setCell_other _ _ _ _ (by simp),heap_setCell_other _ _ _ _ (by simp)])
 have hbw:Below w.heap.size w ((w1.setCell ⟨w.heap.size+1,3,none⟩ (.slice (some ⟨w.heap.size+1+1,0,none⟩) (n.streams.length+1) (n.streams.length+1))).setCell ⟨w.heap.size+1,0,none⟩ (.slice ia n.streams.length ic)):=(HBw.out.setCell (p:=⟨w.heap.size+1,3,none⟩) (by simp) _).setCell (p:=⟨w.heap.size+1,0,none⟩) (by simp) _
 clear b0 b1 b2 c0 f0 c1 f1 c2 f2 c3 f3 c5 f5 T0 T1 HBw HLd hsz1 htl
 generalize (w1.setCell ⟨w.heap.size+1,3,none⟩ (.slice (some ⟨w.heap.size+1+1,0,none⟩) (n.streams.length+1) (n.streams.length+1))).setCell ⟨w.heap.size+1,0,none⟩ (.slice ia n.streams.length ic)=w2 at *
 have htl:=lt_of_blk t2
 have htl0:=lt_of_blk t0
 have t0':=t0
 rw [hbx] at t0'
 obtain ⟨b1, -⟩:=blk_cell (l:=[_,_,_]) t0' 1 _ rfl
 obtain ⟨c5,f5⟩:=blk_cell (l:=[_,_,_,_,_,_,_,_]) t2 5 _ rfl
 have T0:=hide t0
 have T2:=hide t2
 have HBw:=hide hbw
 have HLd:=hide hld
 clear t0 t0' t2 hbw hld
 go_upto_region 6 with fail
 have t3:((w2.setCell ⟨w.heap.size+1,5,none⟩ (.slice (some ⟨w2.heap.size,0,none⟩) (n.sources.length+1) (n.sources.length+1))).alloc (.cells mS 42)).heap[w.heap.size+1]? = some (.cells #[.slice ia n.streams.length ic,.slice none 0 0,.slice none 0 0,.slice (some ⟨w.heap.size+1+1,0,none⟩) (n.streams.length+1) (n.streams.length+1),.slice none 0 0,.slice (some ⟨w2.heap.size,0,none⟩) (n.sources.length+1) (n.sources.length+1),.slice none 0 0,.slice none 0 0] 61 (0,0)):=
  heapOld (by simpa using htl) (blk_set (l:=[_,_,_,_,_,_,_,_]) T2.out 5 _)
 have t0:((w2.setCell ⟨w.heap.size+1,5,none⟩ (.slice (some ⟨w2.heap.size,0,none⟩) (n.sources.length+1) (n.sources.length+1))).alloc (.cells mS 42)).heap[w.heap.size]? = some bx:=
  heapOld (by simpa using htl0) ((heap_setCell_other _ _ _ _ (by simp)).trans T0.out)
 have hld:Lentd ((w2.setCell ⟨w.heap.size+1,5,none⟩ (.slice (some ⟨w2.heap.size,0,none⟩) (n.sources.length+1) (n.sources.length+1))).alloc (.cells mS 42)) (w.heap.size+1+1) (.slice ia n.streams.length ic) n.streams:=HLd.out.frame (by rw [Below.heap_alloc _ _ _ (by simpa using lt_of_blk HLd.out.blk),heap_setCell_other _ _ _ _ (by simp)])
 have hbw:Below w.heap.size w ((w2.setCell ⟨w.heap.size+1,5,none⟩ (.slice (some ⟨w2.heap.size,0,none⟩) (n.sources.length+1) (n.sources.length+1))).alloc (.cells mS 42)):=(HBw.out.setCell (p:=⟨w.heap.size+1,5,none⟩) (by simp) _).alloc (by simp;omega) _
 have t4:((w2.setCell ⟨w.heap.size+1,5,none⟩ (.slice (some ⟨w2.heap.size,0,none⟩) (n.sources.length+1) (n.sources.length+1))).alloc (.cells mS 42)).heap[w2.heap.size]? = some (.cells mS 42 (0,0)):=heapNew (by simp)
 have hgs:=lt_of_blk HLd.out.blk
 clear b1 c5 f5 T0 T2 HBw HLd
 generalize (w2.setCell ⟨w.heap.size+1,5,none⟩ (.slice (some ⟨w2.heap.size,0,none⟩) (n.sources.length+1) (n.sources.length+1))).alloc (.cells mS 42)=w3 at *
 generalize w2.heap.size=gr at *
 have t0':=t0
 rw [hbx] at t0'
 obtain ⟨b1, -⟩:=blk_cell (l:=[_,_,_]) t0' 1 _ rfl
 obtain ⟨c5,f5⟩:=blk_cell (l:=[_,_,_,_,_,_,_,_]) t3 5 _ rfl
 obtain ⟨d0,e0⟩:w3.cell? ⟨gr,n.sources.length*2,none⟩=some (.int .i64 0)∧w3.frozen? ⟨gr,n.sources.length*2,none⟩=false:=by
  refine ⟨?_,row_frozen t4 _⟩
  simp [World.cell?,t4,hmS]
 have HL1:Hid (Loan1 w.heap.size w n bx (w.heap.size+1+1) gr (.slice ia n.streams.length ic) (fun _=>0) (fun _=>none) (fun _=>0) (.slice none 0 0) 0 ((w3.setCell ⟨gr,n.sources.length*2,none⟩ (.int .i64 79)).drew)):=by
  refine Loan1.drew ⟨?_,?_,hld.frame ?_,⟨⟨rfl,Or.inl ⟨rfl,rfl⟩⟩,fun t ht=>by omega,fun s t _ ht=>by omega,fun t ht=>by omega,fun t ht=>by omega⟩,SrcRow.new ?_,Nat.le_refl _,by omega,hbw.setCell (p:=⟨gr,n.sources.length*2,none⟩) (by show w.heap.size≤gr;omega) _⟩
  ·rw [heap_setCell_other _ _ _ _ (by show w.heap.size≠gr;omega)];exact t0
  ·rw [heap_setCell_other _ _ _ _ (by show w.heap.size+1≠gr;omega)];exact t3
  ·rw [heap_setCell_other _ _ _ _ (by show w.heap.size+1+1≠gr;omega)]
  ·rw [heap_setCell_same _ _ _ _ _ _ t4, ← HNS.out]
 clear t0 t0' t3 t4 hld hbw hmS hmZ HNS hgs htl0
 go_wp2
 refine wp_region_still_tail 9 Tryz.mixed (by kernel_rfl) ?_
 simp only [List.take_succ_cons,List.take_zero,List.drop_succ_cons,List.drop_zero]
 iterate 9 still_step
 refine wpStill_nil ?_
 show wpList _ _ _ _ _ w3.drew
 go_upto_region 7 with fail
 clear b1 c5 f5 d0 e0
 generalize (w3.setCell ⟨gr,n.sources.length*2,none⟩ (.int .i64 79)).drew=w4 at *
 go_wp2
 go_loopw [6] (fun i wr=>∃ (k:Nat) (G:Nat→Nat) (IA:Nat→Option Addr) (IC:Nat→Nat) (vW:Value),k≤n.sources.length∧i=.int .i64 k∧Loan1 w.heap.size w n bx (w.heap.size+1+1) gr (.slice ia n.streams.length ic) G IA IC vW k wr) (fun i _=>n.sources.length-(intOf i).toNat)
 case atStart=>exact ⟨0,_,_,_,_,Nat.zero_le _,rfl,HL1.out⟩
 case round=>
  clear HL1
  obtain ⟨k,G,IA,IC,vW,hk,rfl,hL⟩:=hrel
  have hbelow:=hL.below
  have hsz:=lt_of_blk hL.blk
  have t0:=hL.box
  rw [hbx] at t0
  obtain ⟨b1, -⟩:=blk_cell (l:=[_,_,_]) t0 1 _ rfl
  by_cases hlt:k<n.sources.length
  ·obtain ⟨b,off,u,har,hcells,hcall⟩:=HLr.out k hlt
   obtain ⟨av,cv,hv⟩:=own_slice hL.words.row
   subst hv
   obtain ⟨vals,hvals⟩:∃ vals,vals=(List.range k).map fun t=>ownV (G t) (wordsOf n t).length:=⟨_,rfl⟩
   have hrow:=hL.words.row
   rw [← hvals] at hrow
   have hword:(n.sources.getD k ⟨0,[]⟩).words=wordsOf n k:=rfl
   have HNx:Hid (∀ ia' ic' w5 w6 g cap o,Below wr.heap.size wr w5→Lentd w5 wr.heap.size (.slice ia' (wordsOf n k).length ic') (wordsOf n k)→w6.ownsRow (w.heap.size+2) 22 1 (.slice (some ⟨g,0,none⟩) (k+1) cap) (k+1) (vals++[.slice (some ⟨wr.heap.size,0,none⟩) ((wordsOf n k).length+1) ((wordsOf n k).length+1)])→(w5.alloc o).grownBy w6 (Value.slice av k cv).ownBlock →
     w6.heap[w.heap.size]? = some bx∧w6.heap[w.heap.size+1]? = some (.cells #[.slice ia n.streams.length ic,.slice none 0 0,.slice none 0 0,ownV (w.heap.size+1+1) n.streams.length,.slice av k cv,ownV gr n.sources.length,.slice none 0 0,.slice none 0 0] 61 (0,0))∧Below w.heap.size w w6∧w6.heap[gr]? = wr.heap[gr]? ∧ gr≠w.heap.size+1∧gr≠w.heap.size ∧
     ∃ G' IA' IC',Loan1 w.heap.size w n bx (w.heap.size+1+1) gr (.slice ia n.streams.length ic) G' IA' IC' (.slice (some ⟨g,0,none⟩) (k+1) cap) (k+1) ((((w6.setCell ⟨w.heap.size+1,4,none⟩ (.slice (some ⟨g,0,none⟩) (k+1) cap)).setCell ⟨gr,k*2,none⟩ (.int .i64 (n.sources.getD k ⟨0,[]⟩).stream)).setCell ⟨gr,k*2+1,none⟩ (.slice ia' (wordsOf n k).length ic')).drew)):=fun ia' ic' w5 w6 g cap o h5 hl ho hg=>by
    rw [hvals] at ho
    obtain ⟨q1,q2,q3,q4,q5,q6⟩:=hL.next hlt h5 hl ho hg
    exact ⟨q1,q2.trans hL.blk,q4,q3,q5,by have:=hL.ger;omega,_,_,_,q6.drew⟩
   obtain ⟨cs,hcs1,hcs2, -,hcs4, -, -⟩:=hL.src.ex
   obtain ⟨x0,x1,x2⟩:=hcs4 k (Nat.le_refl _) hlt
   have HCS:Hid (∀ w6:World,w6.heap[gr]? = wr.heap[gr]? → w6.cell? ⟨gr,k*2,none⟩=some (.int .i64 x0)∧w6.cell? ⟨gr,k*2+1,none⟩=some (.slice none 0 0)∧w6.frozen? ⟨gr,k*2,none⟩=false∧w6.frozen? ⟨gr,k*2+1,none⟩=false):=fun w6 h6=>by
    rw [hcs1] at h6
    exact ⟨row_cell h6 x1,row_cell h6 x2,row_frozen h6 _,row_frozen h6 _⟩
   obtain ⟨d0,d1⟩:=hcells wr hbelow
   have HCe:=hide hcells
   have HCl:=hide (hcall wr hbelow)
   have HRow:=hide hrow
   have HBlk:=hide hL.blk
   have hk0:(0:Int)≤(k:Int):=by omega
   have hk1:(k:Int)<(n.sources.length:Int):=by omega
   have hk2:(k:Int)<(n.sources.length:Int)+1:=by omega
   have h63:k+1≤maxLen:=by unfold maxLen;omega
   have hbytes:(k+1)*24≤140737488355328:=by omega
   subst har
   clear hvals hrow hword hcs1 hcs2 hcs4 x1 x2 hcells hcall hL HLr HLw t0 hmkW
   generalize (wordsOf n k).length=len at *
   generalize (n.sources.getD k ⟨0,[]⟩).stream=st at *
   go_wp2_with fail
   refine (unhide HCl).mono ?_
   rintro e w5 ⟨ia',ic',rfl,hld,hb5⟩
   have hsz5:=hb5.size
   have HO5:Hid (w5.ownsRow (w.heap.size+2) 22 1 (.slice av k cv) k vals):=own_of_blockB HRow.out fun g hg=>hb5.block g (HRow.out.lt g hg).2
   have t5:=(hb5.block _ hsz).trans HBlk.out
   obtain ⟨c4,f4⟩:=blk_cell (l:=[_,_,_,_,_,_,_,_]) t5 4 _ rfl
   have HNx2:=hide (fun w6 g cap o=>HNx.out ia' ic' w5 w6 g cap o hb5 hld)
   clear HNx hld hb5 t5 HCl b1 d0 d1 HRow HBlk
   go_wp2_with (at_builtin;refine wpList_append_lies _ rfl (.tmp 66) (.tmp 68) 31 rfl (w.heap.size+2) 22 iI (.slice none 0 0) 1 24 Tryz.underlying31 hiI hI0 hI1 hI2 rfl (by decide) (.slice av k cv) k vals rfl (HO5.out.alloc _) ⟨w5.heap.size,0,none⟩ 1 1 [.slice (some ⟨wr.heap.size,0,none⟩) (len+1) (len+1)] rfl rfl ?c1 ?c2 (by decide) h63 hbytes (by simp;omega) (w5.heap.size+1) (by simp) ?_)
   case c1=>exact cell_one_new _ _ _
   case c2=>intro u hu;simp at hu;subst hu;rfl
   intro g gc w6 ho6 hgr hor hglt
   obtain ⟨q1,q2,q3,q4,q5,q5',G',IA',IC',q6⟩:=HNx2.out w6 g gc _ ho6 hgr
   obtain ⟨m4,mf4⟩:=blk_cell (l:=[_,_,_,_,_,_,_,_]) q2 4 _ rfl
   have HL2:=hide q6
   have Q1:Hid ((w6.setCell ⟨w.heap.size+1,4,none⟩ (.slice (some ⟨g,0,none⟩) (k+1) gc)).heap[w.heap.size]? = some bx):=(heap_setCell_other _ _ _ _ (by simp)).trans q1
   have Q2:=hide (blk_set (l:=[_,_,_,_,_,_,_,_]) q2 4 (.slice (some ⟨g,0,none⟩) (k+1) gc))
   have Q4:Hid ((w6.setCell ⟨w.heap.size+1,4,none⟩ (.slice (some ⟨g,0,none⟩) (k+1) gc)).heap[gr]? = wr.heap[gr]?):=(heap_setCell_other _ _ _ _ q5).trans q4
   have Q3:Hid (Below w.heap.size w (w6.setCell ⟨w.heap.size+1,4,none⟩ (.slice (some ⟨g,0,none⟩) (k+1) gc))):=q3.setCell (p:=⟨w.heap.size+1,4,none⟩) (by simp) _
   clear ho6 hgr hor hglt q1 q2 q3 q4 q6 HNx2 HO5 c4 f4
   go_upto_region 12 with fail
   generalize w6.setCell ⟨w.heap.size+1,4,none⟩ (.slice (some ⟨g,0,none⟩) (k+1) gc)=w7 at *
   clear m4 mf4
   have t0:=Q1.out
   rw [hbx] at t0
   obtain ⟨b1, -⟩:=blk_cell (l:=[_,_,_]) t0 1 _ rfl
   obtain ⟨c5, -⟩:=blk_cell (l:=[_,_,_,_,_,_,_,_]) Q2.out 5 _ rfl
   have c5':w7.cell? ⟨w.heap.size+1,5,none⟩=some (.slice (some ⟨gr,0,none⟩) (n.sources.length+1) (n.sources.length+1)):=c5
   obtain ⟨d0,d1⟩:=HCe.out w7 Q3.out
   obtain ⟨e0,e1,e2,e3⟩:=HCS.out w7 Q4.out
   clear t0 c5 Q1 Q2 Q3 Q4 HCe HCS
   go_wp2
   refine wp_region_still_tail 14 Tryz.mixed (by kernel_rfl) ?_
   simp only [List.take_succ_cons,List.take_zero,List.drop_succ_cons,List.drop_zero]
   iterate 14 still_step
   refine wpStill_nil ?_
   show wpList _ _ _ _ _ w7.drew
   go_wp2
   go_roundw
   case rel=>exact ⟨k+1,_,_,_,_,by omega,by go_num,HL2.out⟩
   case measure=>simp [intOf];omega
  ·have hke:k=n.sources.length:=by omega
   subst hke
   obtain ⟨b2, -⟩:=blk_cell (l:=[_,_,_]) t0 2 _ rfl
   obtain ⟨c7,f7⟩:=blk_cell (l:=[_,_,_,_,_,_,_,_]) hL.blk 7 _ rfl
   obtain ⟨L,hLL⟩:∃ L:LoanL,L=⟨w.heap.size+1,w.heap.size+1+1,gr,wr.heap.size,.slice ia n.streams.length ic,G,IA,IC,vW,fun _=>0,.slice none 0 0⟩:=⟨_,rfl⟩
   have HL0:Hid (Loan2 w.heap.size w n bx L (fun _=>0) (.slice none 0 0) 0 ((wr.setCell ⟨w.heap.size+1,7,none⟩ (.slice (some ⟨wr.heap.size,0,none⟩) (n.workers.length+1) (n.workers.length+1))).alloc (.cells (madeCells #[.slice none 0 0] (n.workers.length+1)) 45))):=by
    rw [hLL]
    have hold:∀ k,k≠w.heap.size+1→k<wr.heap.size→((wr.setCell ⟨w.heap.size+1,7,none⟩ (.slice (some ⟨wr.heap.size,0,none⟩) (n.workers.length+1) (n.workers.length+1))).alloc (.cells (madeCells #[.slice none 0 0] (n.workers.length+1)) 45)).heap[k]? = wr.heap[k]? := fun k hk hk'=>by
     rw [Below.heap_alloc _ _ _ (by simpa using hk'),heap_setCell_other _ _ _ _ hk]
    have hge:=hL.ges
    have hge2:=hL.ger
    refine ⟨?_,?_,hL.str.frame (hold _ (by omega) (lt_of_blk hL.str.blk)),hL.words.frame (fun g hg=>hold _ ?_ (hL.words.row.lt g hg).2) (fun t ht=>hold _ ?_ (lt_of_blk (hL.words.words t ht).blk)),?_,⟨⟨rfl,Or.inl ⟨rfl,rfl⟩⟩,fun t ht=>by omega,fun s t _ ht=>by omega,fun t ht=>by omega⟩,WkRow.new (heapNew (by simp)),(fun e=>by cases e),by omega,by omega,?_,?_⟩
    ·rw [hold _ (by omega) (by omega)];exact hL.box
    ·exact heapOld (by simpa using hsz) (blk_set (l:=[_,_,_,_,_,_,_,_]) hL.blk 7 _)
    ·have:=(hL.words.row.lt g hg).1;omega
    ·have:=hL.words.ge t ht;omega
    ·obtain ⟨cs,hcs⟩:=hL.src.blk
     exact hL.src.frame (hold _ (by omega) (lt_of_blk hcs))
    ·have:=lt_of_blk hL.str.blk;show w.heap.size+2≤wr.heap.size;omega
    ·exact (hbelow.setCell (p:=⟨w.heap.size+1,7,none⟩) (by simp) _).alloc (by simp;omega) _
   clear hL t0 HLr
   have HLP:Hid (L.q=w.heap.size+1∧L.gw=wr.heap.size∧L.gs=w.heap.size+1+1∧L.gr=gr∧L.rooms=.slice ia n.streams.length ic):=by rw [hLL];exact ⟨rfl,rfl,rfl,rfl,rfl⟩
   clear hLL
   go_upto_region 14 with fail
   generalize (wr.setCell ⟨w.heap.size+1,7,none⟩ (.slice (some ⟨wr.heap.size,0,none⟩) (n.workers.length+1) (n.workers.length+1))).alloc (.cells (madeCells #[.slice none 0 0] (n.workers.length+1)) 45)=w8 at *
   clear b1 b2 c7 f7 hbelow hsz hmkW
   generalize wr.heap.size=gw at *
   go_wp2
   go_loopw [9] (fun i wr=>∃ (j:Nat) (C:Nat→Nat) (vC:Value),j≤n.workers.length∧i=.int .i64 j∧Loan2 w.heap.size w n bx L C vC j wr) (fun i _=>n.workers.length-(intOf i).toNat)
   case atStart=>exact ⟨0,_,_,Nat.zero_le _,rfl,HL0.out⟩
   case round=>
    clear HL0
    obtain ⟨j,C,vC,hj,rfl,hL⟩:=hrel
    have hbelow:=hL.below
    have hsz:=lt_of_blk hL.blk
    have t0:=hL.box
    rw [hbx] at t0
    obtain ⟨b2, -⟩:=blk_cell (l:=[_,_,_]) t0 2 _ rfl
    by_cases hlt:j<n.workers.length
    ·obtain ⟨hlen,b,off,ac,cc,haw,hcells,hcode⟩:=HLw.out j hlt
     obtain ⟨av,cv,hv⟩:=own_slice hL.codes.row
     subst hv
     obtain ⟨vals,hvals⟩:∃ vals,vals=(List.range j).map fun t=>ownV (C t) (n.workers.getD t []).length:=⟨_,rfl⟩
     have hrow:=hL.codes.row
     rw [← hvals] at hrow
     have hmkC:=make_wide (P:=Tryz.prog) 45 44 _ 4 32 Tryz.underlying45 Tryz.infoIns (n.workers.getD j []).length (by omega) (by omega)
     rw [show (Value.agg #[.int .i64 0,.int .i64 0,.int .i64 0,.int .i64 0]).cells=#[.int .i64 0,.int .i64 0,.int .i64 0,.int .i64 0] from rfl] at hmkC
     have hmkC':∀ wx:World,(Instr.makeSlice 45 (.int .i64 (((n.workers.getD j []).length:Int)+1)) (.int .i64 (((n.workers.getD j []).length:Int)+1))).run Tryz.prog wx=.ok (.slice (some ⟨wx.heap.size,0,none⟩) ((n.workers.getD j []).length+1) ((n.workers.getD j []).length+1)) (wx.alloc (.cells (zeroIns (n.workers.getD j []).length) 44)):=hmkC
     have hcp:=copy_code (hcode wr hbelow)
     obtain ⟨g1,g2,g3⟩:=copied_get (n.workers.getD j [])
     have HG3:=hide g3
     have HNx:Hid (∀ w5 w6 g cap o H,Below wr.heap.size wr w5→w5.heap[wr.heap.size]? = some (.cells (codeRow (n.workers.getD j []++[⟨80,0,0,0⟩])).toArray 44 (0,0))→w6.ownsRow (w.heap.size+2) 45 1 (.slice (some ⟨g,0,none⟩) (j+1) cap) (j+1) (vals++[.slice (some ⟨wr.heap.size,0,none⟩) ((n.workers.getD j []).length+1) ((n.workers.getD j []).length+1)])→(w5.alloc o).grownBy w6 (Value.slice av j cv).ownBlock→((Value.slice av j cv).ownBlock=some g∨g=H)→wr.heap.size≤H →
       w6.heap[w.heap.size]? = some bx∧w6.heap[w.heap.size+1]? = wr.heap[w.heap.size+1]? ∧ Below w.heap.size w w6∧w6.heap[gw]? = wr.heap[gw]? ∧ gw≠w.heap.size+1∧wr.heap.size<w6.heap.size ∧
       ∃ C',Loan2 w.heap.size w n bx L C' (.slice (some ⟨g,0,none⟩) (j+1) cap) (j+1) (((w6.setCell ⟨w.heap.size+1,6,none⟩ (.slice (some ⟨g,0,none⟩) (j+1) cap)).setCell ⟨gw,j,none⟩ (.slice (some ⟨wr.heap.size,0,none⟩) (n.workers.getD j []).length ((n.workers.getD j []).length+1))).drew)):=fun w5 w6 g cap o H h5 hl ho hg hor hH=>by
      rw [hvals] at ho
      obtain ⟨q1,q2,q3,q4,q5,q6⟩:=hL.next hlt h5 hl ho hg hor hH
      rw [HLP.out.2.1] at q3 q5 q6
      have:=lt_of_blk hl
      have:=hg.size
      exact ⟨q1,q2,q4,q3,q5,by simp at this;omega,_,q6.drew⟩
     obtain ⟨cs,hcs1,hcs2, -,hcs4⟩:=hL.wks.ex
     have x1:=hcs4 j (Nat.le_refl _) (by omega)
     rw [HLP.out.2.1] at hcs1
     have HCS:Hid (∀ w6:World,w6.heap[gw]? = wr.heap[gw]? → w6.cell? ⟨gw,j,none⟩=some (.slice none 0 0)∧w6.frozen? ⟨gw,j,none⟩=false):=fun w6 h6=>by
      rw [hcs1] at h6
      exact ⟨row_cell h6 x1,row_frozen h6 _⟩
     have d0:=hcells wr hbelow
     have HCe:=hide hcells
     have HRow:=hide hrow
     have hblk:=hL.blk
     have hblk7:wr.cell? ⟨w.heap.size+1,7,none⟩=some (.slice (some ⟨gw,0,none⟩) (n.workers.length+1) (n.workers.length+1)):=by
      have:=(blk_cell (l:=[_,_,_,_,_,_,_,_]) hblk 7 _ rfl).1
      rw [HLP.out.2.1] at this
      exact this
     obtain ⟨c6,f6⟩:=blk_cell (l:=[_,_,_,_,_,_,_,_]) hblk 6 _ rfl
     have HBlk:Hid (∃ x0 x1 x2 x3 x4 x5,wr.heap[w.heap.size+1]? = some (.cells #[x0,x1,x2,x3,x4,x5,.slice av j cv,.slice (some ⟨gw,0,none⟩) (n.workers.length+1) (n.workers.length+1)] 61 (0,0))):=by
      rw [HLP.out.2.1] at hblk
      exact ⟨_,_,_,_,_,_,hblk⟩
     have hj0:(0:Int)≤(j:Int):=by omega
     have hj1:(j:Int)<(n.workers.length:Int):=by omega
     have hj2:(j:Int)<(n.workers.length:Int)+1:=by omega
     have h63:j+1≤maxLen:=by unfold maxLen;omega
     have hbytes:(j+1)*24≤140737488355328:=by omega
     have hb0:=lt_of_cell d0
     have hsz0:w.heap.size<wr.heap.size:=by omega
     subst haw
     clear hvals hrow hcs1 hcs2 hcs4 x1 hcells hcode hL HLw t0 hmkC hblk g3 hblk7
     have HCL:Hid ((codeRow (n.workers.getD j []++[⟨80,0,0,0⟩])).toArray=(copied (n.workers.getD j [])).setIfInBounds ((n.workers.getD j []).length*4) (.int .i64 80)):=HG3.out.symm
     rw [HCL.out] at HNx
     clear HCL HG3
     generalize copied (n.workers.getD j [])=cr at *
     generalize (n.workers.getD j []).length=len at *
     have hl0:(0:Int)≤(len:Int):=by omega
     have hl1:(len:Int)<(len:Int)+1:=by omega
     have hl2:(len:Int)≤(len:Int)+1:=by omega
     go_upto_region 20 with fail
     have hbA:Below wr.heap.size wr (wr.alloc (.cells (cr.setIfInBounds (len*4) (.int .i64 80)) 44)):=(Below.refl _ _).alloc (Nat.le_refl _) _
     have hA:(wr.alloc (.cells (cr.setIfInBounds (len*4) (.int .i64 80)) 44)).heap[wr.heap.size]? = some (.cells (cr.setIfInBounds (len*4) (.int .i64 80)) 44 (0,0)):=heapNew rfl
     have hszA:wr.heap.size<(wr.alloc (.cells (cr.setIfInBounds (len*4) (.int .i64 80)) 44)).heap.size:=by simp
     have hA6:(wr.alloc (.cells (cr.setIfInBounds (len*4) (.int .i64 80)) 44)).cell? ⟨w.heap.size+1,6,none⟩=some (.slice av j cv):=(hbA.cell (p:=⟨w.heap.size+1,6,none⟩) hsz).trans c6
     have hAf:(wr.alloc (.cells (cr.setIfInBounds (len*4) (.int .i64 80)) 44)).frozen? ⟨w.heap.size+1,6,none⟩=false:=(hbA.frozen (p:=⟨w.heap.size+1,6,none⟩) hsz).trans f6
     have HOA:Hid ((wr.alloc (.cells (cr.setIfInBounds (len*4) (.int .i64 80)) 44)).ownsRow (w.heap.size+2) 45 1 (.slice av j cv) j vals):=own_of_blockB HRow.out fun g hg=>hbA.block g (HRow.out.lt g hg).2
     clear hcp hmkC' g1 g2 c6 f6 b2 d0
     generalize wr.alloc (.cells (cr.setIfInBounds (len*4) (.int .i64 80)) 44)=wA at *
     have HNx2:=hide (fun w6 g cap o H=>HNx.out wA w6 g cap o H hbA hA)
     clear HNx hbA hA
     go_wp2_with (at_builtin;refine wpList_append_lies _ rfl (.tmp 129) (.tmp 131) 24 rfl (w.heap.size+2) 45 iC (.slice none 0 0) 1 24 Tryz.underlying24 hiC hC0 hC1 hC2 rfl (by decide) (.slice av j cv) j vals rfl (HOA.out.alloc _) ⟨wA.heap.size,0,none⟩ 1 1 [.slice (some ⟨wr.heap.size,0,none⟩) (len+1) (len+1)] rfl rfl ?c1 ?c2 (by decide) h63 hbytes (by simp;omega) (wA.heap.size+1) (by simp) ?_)
     (try case c1=>exact cell_one_new _ _ _)
     case c2=>first | rfl | (intro u hu;simp at hu;subst hu;rfl)
     intro g gc w6 ho6 hgr hor hglt
     obtain ⟨q1,q2,q3,q4,q5,q7,C',q6⟩:=HNx2.out w6 g gc _ _ ho6 hgr hor (by omega)
     obtain ⟨x0,x1,x2,x3,x4,x5,hbk⟩:=HBlk.out
     have q2':=q2.trans hbk
     obtain ⟨m6,mf6⟩:=blk_cell (l:=[_,_,_,_,_,_,_,_]) q2' 6 _ rfl
     have HL2:=hide q6
     have Q1:Hid ((w6.setCell ⟨w.heap.size+1,6,none⟩ (.slice (some ⟨g,0,none⟩) (j+1) gc)).heap[w.heap.size]? = some bx):=(heap_setCell_other _ _ _ _ (by simp)).trans q1
     have Q2:=hide (blk_set (l:=[_,_,_,_,_,_,_,_]) q2' 6 (.slice (some ⟨g,0,none⟩) (j+1) gc))
     have Q4:Hid ((w6.setCell ⟨w.heap.size+1,6,none⟩ (.slice (some ⟨g,0,none⟩) (j+1) gc)).heap[gw]? = wr.heap[gw]?):=(heap_setCell_other _ _ _ _ q5).trans q4
     have Q3:Hid (Below w.heap.size w (w6.setCell ⟨w.heap.size+1,6,none⟩ (.slice (some ⟨g,0,none⟩) (j+1) gc))):=q3.setCell (p:=⟨w.heap.size+1,6,none⟩) (by simp) _
     clear ho6 hgr hor hglt q1 q2 q2' q3 q4 q6 HNx2 HOA hA6 hAf HBlk hbk
     go_upto_region 21 with fail
     generalize w6.setCell ⟨w.heap.size+1,6,none⟩ (.slice (some ⟨g,0,none⟩) (j+1) gc)=w7 at *
     clear m6 mf6
     have t0:=Q1.out
     rw [hbx] at t0
     obtain ⟨b2, -⟩:=blk_cell (l:=[_,_,_]) t0 2 _ rfl
     obtain ⟨c7, -⟩:=blk_cell (l:=[_,_,_,_,_,_,_,_]) Q2.out 7 _ rfl
     have d0:=HCe.out w7 Q3.out
     obtain ⟨e0,e2⟩:=HCS.out w7 Q4.out
     clear t0 Q1 Q2 Q3 Q4 HCe HCS
     go_wp2
     refine wp_region_still_tail 14 Tryz.mixed (by kernel_rfl) ?_
     simp only [List.take_succ_cons,List.take_zero,List.drop_succ_cons,List.drop_zero]
     iterate 14 still_step
     refine wpStill_nil ?_
     show wpList _ _ _ _ _ w7.drew
     go_wp2
     go_roundw
     case rel=>exact ⟨j+1,_,_,by omega,by go_num,HL2.out⟩
     case measure=>simp [intOf];omega
    ·have hje:j=n.workers.length:=by omega
     subst hje
     obtain ⟨b1, -⟩:=blk_cell (l:=[_,_,_]) t0 1 _ rfl
     obtain ⟨c1,f1⟩:=blk_cell (l:=[_,_,_,_,_,_,_,_]) hL.blk 1 _ rfl
     obtain ⟨c2,f2⟩:=blk_cell (l:=[_,_,_,_,_,_,_,_]) hL.blk 2 _ rfl
     have c5:wr.cell? ⟨w.heap.size+1,5,none⟩=some (.slice (some ⟨gr,0,none⟩) (n.sources.length+1) (n.sources.length+1)):=by
      have:=(blk_cell (l:=[_,_,_,_,_,_,_,_]) hL.blk 5 _ rfl).1
      rw [HLP.out.2.2.2.1] at this
      exact this
     have c7:wr.cell? ⟨w.heap.size+1,7,none⟩=some (.slice (some ⟨gw,0,none⟩) (n.workers.length+1) (n.workers.length+1)):=by
      have:=(blk_cell (l:=[_,_,_,_,_,_,_,_]) hL.blk 7 _ rfl).1
      rw [HLP.out.2.1] at this
      exact this
     have HL:=hide hL
     have hm0:(0:Int)≤(n.sources.length:Int):=by omega
     have hm1:(n.sources.length:Int)≤(n.sources.length:Int)+1:=by omega
     have hk0:(0:Int)≤(n.workers.length:Int):=by omega
     have hk1:(n.workers.length:Int)≤(n.workers.length:Int)+1:=by omega
     clear hL t0 HLw
     go_wp2
     refine wp_region_still_tail 12 Tryz.mixed (by kernel_rfl) ?_
     simp only [List.take_succ_cons,List.take_zero,List.drop_succ_cons,List.drop_zero]
     iterate 12 still_step
     refine wpStill_nil ?_
     show wpList _ _ _ _ _ wr.drew
     go_upto_region 23 with fail
     have hne:w.heap.size+1≠w.heap.size:=by omega
     have y2:((wr.setCell ⟨w.heap.size+1,1,none⟩ (.slice (some ⟨gr,0,none⟩) n.sources.length (n.sources.length+1))).drew).cell? ⟨w.heap.size,2,none⟩=some (.slice aw n.workers.length cw):=(World.cell?_of_block (heap_setCell_other _ _ _ _ (by simp))).trans b2
     have hbk:=HL.out.blk
     have y7:((wr.setCell ⟨w.heap.size+1,1,none⟩ (.slice (some ⟨gr,0,none⟩) n.sources.length (n.sources.length+1))).drew).cell? ⟨w.heap.size+1,7,none⟩=some (.slice (some ⟨gw,0,none⟩) (n.workers.length+1) (n.workers.length+1)):=by
      have:=(blk_cell (l:=[_,_,_,_,_,_,_,_]) (blk_set (l:=[_,_,_,_,_,_,_,_]) hbk 1 (.slice (some ⟨gr,0,none⟩) n.sources.length (n.sources.length+1))) 7 _ rfl).1
      rw [HLP.out.2.1] at this
      exact this
     obtain ⟨y3,y4⟩:((wr.setCell ⟨w.heap.size+1,1,none⟩ (.slice (some ⟨gr,0,none⟩) n.sources.length (n.sources.length+1))).drew).cell? ⟨w.heap.size+1,2,none⟩=some (.slice none 0 0)∧((wr.setCell ⟨w.heap.size+1,1,none⟩ (.slice (some ⟨gr,0,none⟩) n.sources.length (n.sources.length+1))).drew).frozen? ⟨w.heap.size+1,2,none⟩=false:=blk_cell (l:=[_,_,_,_,_,_,_,_]) (blk_set (l:=[_,_,_,_,_,_,_,_]) hbk 1 (.slice (some ⟨gr,0,none⟩) n.sources.length (n.sources.length+1))) 2 _ rfl
     have hdn:=HL.out.done HLP.out.1
     rw [HLP.out.2.1,HLP.out.2.2.2.1] at hdn
     obtain ⟨hd1,hd2⟩:=hdn
     have hd3:∃ L':LoanL,L'.q=w.heap.size+1∧LoanAt w.heap.size L' (((wr.setCell ⟨w.heap.size+1,1,none⟩ (.slice (some ⟨gr,0,none⟩) n.sources.length (n.sources.length+1))).drew.setCell ⟨w.heap.size+1,2,none⟩ (.slice (some ⟨gw,0,none⟩) n.workers.length (n.workers.length+1))).drew) n:=by
      refine ⟨_,?_,hd1⟩
      exact HLP.out.1
     have HDn:=hide hd3
     have HDb:=hide hd2
     clear hbk hd1 hd2 hd3 HL b1 b2 c1 f1 c2 f2 c5 c7 HLP
     generalize (wr.setCell ⟨w.heap.size+1,1,none⟩ (.slice (some ⟨gr,0,none⟩) n.sources.length (n.sources.length+1))).drew=w9 at *
     go_wp2
     refine wp_region_still_tail 12 Tryz.mixed (by kernel_rfl) ?_
     simp only [List.take_succ_cons,List.take_zero,List.drop_succ_cons,List.drop_zero]
     iterate 12 still_step
     refine wpStill_nil ?_
     show wpList _ _ _ _ _ w9.drew
     go_wp2
     go_ret
     obtain ⟨L',z1,z2⟩:=HDn.out
     exact ⟨L',by rw [z1];rfl,z2,HDb.out⟩
end Go.Proofs.YthfdgdfnflilfaaGreatDoor

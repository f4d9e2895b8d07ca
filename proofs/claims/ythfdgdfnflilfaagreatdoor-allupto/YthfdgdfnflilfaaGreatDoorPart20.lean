/- Part 20: Make3, Make4, Make5, Make6, Make7, Make8, Make9. -/
import Derived.Test.YthfdgdfnflilfaaGreatDoorPart13
namespace Go.Proofs.YthfdgdfnflilfaaGreatDoor
open Go.RowKit Go.Conc
theorem Tryz.infoPW:(Tryz.prog.info? 107).map (fun i=>(i.zero,i.size,i.bytes))=some (some (.pointer none),1,8):=by kernel_rfl
structure RowW (base g:Nat) (ws:List (List Ins)) (k:Nat) (wb:Nat→Nat) (VC:Nat→Value) (w:World):Prop where
 row:∃ cs:List Value,w.heap[g]? = some (.cells cs.toArray 107 (0,0))∧cs.length=ws.length∧(∀ i,i<k→cs[i]? = some (.pointer (some ⟨wb i,0,none⟩)))
 wk:∀ i,i<k→WkAt w (wb i) (VC i) (ws.getD i []) ⟨0,fun _=>0,0⟩
 base:base≤g∧∀ i,i<k→base≤wb i∧∀ q,(VC i).ownBlock=some q→base≤q
 inj:∀ i j,i<j→j<k→wb i<wb j
theorem RowW.below {base g:Nat} {ws:List (List Ins)} {k:Nat} {wb:Nat→Nat} {VC:Nat→Value} {w w':World} (h:RowW base g ws k wb VC w) (hb:Below w.heap.size w w'):RowW base g ws k wb VC w':=by
 obtain ⟨cs,hg,hl,hc⟩:=h.row
 exact ⟨⟨cs,by rw [hb.block _ (lt_of_blk hg)];exact hg,hl,hc⟩,fun i hi=>(h.wk i hi).below hb,h.base,h.inj⟩
theorem RowW.next {base g:Nat} {ws:List (List Ins)} {k:Nat} {wb:Nat→Nat} {VC:Nat→Value} {w w1:World} {b:Nat} {vc:Value} (h:RowW base g ws k wb VC w) (hk:k<ws.length)
  (hs:base≤w.heap.size) (hb:Below w.heap.size w w1) (hw:WkAt w1 b vc (ws.getD k []) ⟨0,fun _=>0,0⟩) (hbb:w.heap.size≤b) (hvc:∀ q,vc.ownBlock=some q→w.heap.size≤q) :
  RowW base g ws (k+1) (fun i=>if i=k then b else wb i) (fun i=>if i=k then vc else VC i) (w1.setCell ⟨g,k,none⟩ (.pointer (some ⟨b,0,none⟩)))∧w1.cell? ⟨g,k,none⟩≠none∧w1.frozen? ⟨g,k,none⟩=false:=by
 have h1:=h.below hb
 obtain ⟨cs,hg,hl,hc⟩:=h1.row
 have stay:∀ {b':Nat} {vc':Value} {c:List Ins},WkAt w1 b' vc' c ⟨0,fun _=>0,0⟩→WkAt (w1.setCell ⟨g,k,none⟩ (.pointer (some ⟨b,0,none⟩))) b' vc' c ⟨0,fun _=>0,0⟩:=fun hW=>by
  refine hW.stays fun y hy=>Below.heap_setCell _ _ _ _ ?_
  rcases hy with rfl | hy
  ·exact ne_of_types hW.blk hg (by decide)
  ·obtain ⟨cur,hcur⟩:=own_block hW.own hy
   exact ne_of_types hcur hg (by decide)
 refine ⟨⟨⟨cs.set k (.pointer (some ⟨b,0,none⟩)),blk_set hg k _,by simpa using hl,fun i hi=>?_⟩,fun i hi=>?_,⟨h.base.1,fun i hi=>?_⟩,fun i j hij hj=>?_⟩,?_,row_frozen hg k⟩
 ·by_cases e:i=k
  ·subst e;rw [if_pos rfl];rw [List.getElem?_set_self (by omega)]
  ·rw [if_neg e,List.getElem?_set_ne (fun e'=>e e'.symm)];exact hc i (by omega)
 ·by_cases e:i=k
  ·subst e;rw [if_pos rfl,if_pos rfl];exact stay hw
  ·rw [if_neg e,if_neg e];exact stay (h1.wk i (by omega))
 ·by_cases e:i=k
  ·subst e;rw [if_pos rfl,if_pos rfl];exact ⟨by omega,fun q hq=>by have:=hvc q hq;omega⟩
  ·rw [if_neg e,if_neg e];exact h.base.2 i (by omega)
 ·rw [if_neg (show i≠k by omega)]
  by_cases e:j=k
  ·rw [if_pos e]
   have:=lt_of_blk (h.wk i (by omega)).blk
   omega
  ·rw [if_neg e];exact h.inj i j hij (by omega)
 ·have:cs[k]? = some (cs[k]'(by omega)):=List.getElem?_eq_getElem (by omega)
  rw [row_cell hg this];simp
set_option maxRecDepth 100000 in
set_option maxHeartbeats 1000000 in
theorem newWorkers_calls {n:Net} {v:Value} {w:World} (h:NetAt w v n) (hl6:n.workers.length≤6) (hl20:∀ c∈n.workers,c.length≤20) :
  Calls Tryz.prog 25 #[v] w fun e w'=>∃ g wb VC,e=.returned (.slice (some ⟨g,0,none⟩) n.workers.length n.workers.length)∧RowW w.heap.size g n.workers n.workers.length wb VC w'∧Below w.heap.size w w':=by
 obtain ⟨vs,vr,vw,rfl,h1,h2,h3⟩:=h
 obtain ⟨sa,sc,rfl⟩:=h1.form
 obtain ⟨ar,cr,rfl⟩:=h2.form
 obtain ⟨aw,cw,rfl,hwn, -,hc⟩:=h3.open
 have hmk:=run_make_row' (P:=Tryz.prog) 72 107 (.pointer none) 8 Tryz.underlying72 Tryz.infoPW rfl .i64 .i64 n.workers.length (by omega) (by omega)
 rw [madeCells_zrow] at hmk
 have HC:Hid (∀ wr,Below w.heap.size w wr→∀ k (hk:k<n.workers.length),∃ b off u cap',aw=some ⟨b,off,none⟩∧wr.cell? ⟨b,off+k,none⟩=some (.slice u (n.workers.getD k []).length cap')∧Calls Tryz.prog 57 #[.slice u (n.workers.getD k []).length cap'] wr fun e w'=>NewWk wr (n.workers.getD k []) e w'):=fun wr hb k hk=>by
  obtain ⟨b,off,u,ha,hcell,hcode⟩:=hc wr hb k hk
  rw [getD_eq _ _ _ hk]
  obtain ⟨ua,uc,rfl⟩:=hcode.form
  exact ⟨b,off,ua,uc,ha,hcell,wnew_calls hcode (hl20 _ (List.getElem_mem hk))⟩
 have HZ:Hid (∀ (w1:World),RowW w.heap.size w1.heap.size n.workers 0 (fun _=>0) (fun _=>.bool false) (w1.alloc (.cells (zrow (.pointer none) n.workers.length) 107))∨w1.heap.size<w.heap.size):=fun w1=>by
  rcases Nat.lt_or_ge w1.heap.size w.heap.size with hlt | hge
  ·exact Or.inr hlt
  ·refine Or.inl ⟨⟨(zrow (.pointer none) n.workers.length).toList,by simpa using heap_alloc_new _ _,by simp [zrow],fun i hi=>by omega⟩,fun i hi=>by omega,⟨hge,fun i hi=>by omega⟩,fun i j _ hj=>by omega⟩
 clear h1 h2 h3 hc hl20
 generalize n.workers=ws at *
 generalize hq:ws.length=wl at *
 have HWL:=hide hq
 clear hq
 generalize n.sources.length=rl at *
 generalize n.streams.length=sl at *
 go_enter Tryz.func25,Tryz.ntmps25
 go_wp2
 go_loopw [13] (fun i wr=>∃ (k:Nat) (wb:Nat→Nat) (VC:Nat→Value),k≤wl∧i=.int .i64 k∧Below (w.heap.size+1) (w.alloc (.cells #[.slice sa sl sc,.slice ar rl cr,.slice aw wl cw] 26)) wr∧RowW w.heap.size (w.heap.size+1) ws k wb VC wr) (fun i _=>wl-(intOf i).toNat)
 case atStart=>
  have hz:=HZ.out (w.alloc (.cells #[.slice sa sl sc,.slice ar rl cr,.slice aw wl cw] 26))
  refine ⟨0,fun _=>0,fun _=>.bool false,Nat.zero_le _,rfl,?_,?_⟩
  ·have hb0:Below (w.heap.size+1) (w.alloc (.cells #[.slice sa sl sc,.slice ar rl cr,.slice aw wl cw] 26)) (w.alloc (.cells #[.slice sa sl sc,.slice ar rl cr,.slice aw wl cw] 26)):=Below.refl _ _
   exact hb0.alloc (by simp) _
  ·rcases hz with hz | hz
   ·simpa using hz
   ·simp at hz;omega
 case round=>
  obtain ⟨k,wb,VC,hk,rfl,hbl,hrow⟩:=hrel
  have hb0:Below w.heap.size w wr:=below_box hbl
  have HB:=hide hbl
  have HRo:=hide hrow
  by_cases hlt:k<wl
  ·obtain ⟨b,off,u,cap',rfl,d0,hnew⟩:=HC.out wr hb0 k hlt
   have HNw:=hide hnew
   have HX:Hid (∀ e w1,NewWk wr (ws.getD k []) e w1→∃ b1,e=.returned (.pointer (some ⟨b1,0,none⟩))∧(∃ x,w1.cell? ⟨w.heap.size+1,k,none⟩=some x)∧w1.frozen? ⟨w.heap.size+1,k,none⟩=false ∧
     ∃ wb' VC',Below (w.heap.size+1) (w.alloc (.cells #[.slice sa sl sc,.slice ar rl cr,.slice (some ⟨b,off,none⟩) wl cw] 26)) (w1.setCell ⟨w.heap.size+1,k,none⟩ (.pointer (some ⟨b1,0,none⟩)))∧RowW w.heap.size (w.heap.size+1) ws (k+1) wb' VC' (w1.setCell ⟨w.heap.size+1,k,none⟩ (.pointer (some ⟨b1,0,none⟩)))):=fun e w1 hn=>by
    obtain ⟨b1,vc,he,hwk,hb1,hbb,hvc⟩:=hn
    obtain ⟨r1,r2,r3⟩:=hrow.next (by rw [HWL.out];exact hlt) hb0.size hb1 hwk hbb hvc
    have hsz:w.heap.size+1≤wr.heap.size:=by have:=hbl.size;simpa using this
    have hb2:=hbl.trans (hb1.mono hsz)
    refine ⟨b1,he,Option.ne_none_iff_exists'.1 r2,r3,_,_,?_,r1⟩
    exact hb2.setCell (p:=⟨w.heap.size+1,k,none⟩) (Nat.le_refl _) _
   have hk0:(0:Int)≤(k:Int):=by omega
   have hk1:(k:Int)<(wl:Int):=by omega
   clear hbl hrow hb0 hnew HC HZ hmk
   generalize NewWk wr (ws.getD k [])=NW at *
   generalize (ws.getD k []).length=cl at *
   go_wp2_with fail
   refine (unhide HNw).mono ?_
   intro e w1 hn
   obtain ⟨b1,rfl,⟨x,hx⟩,hfz,wb',VC',hb',hr'⟩:=HX.out e w1 hn
   have HB':=hide hb'
   have HR':=hide hr'
   clear hb' hr' hn
   go_wp2
   go_roundw
   case rel=>exact ⟨k+1,wb',VC',by omega,by go_num,HB'.out,HR'.out⟩
   case measure=>simp [intOf];omega
  ·have e:k=wl:=by omega
   subst e
   go_wp2
   go_ret
   exact ⟨w.heap.size+1,wb,VC,rfl,HRo.out,below_box HB.out⟩
theorem Tryz.infoPS:(Tryz.prog.info? 70).map (fun i=>(i.zero,i.size,i.bytes))=some (some (.pointer none),1,8):=by kernel_rfl
def setAt {α : Type} (f:Nat → α) (s:Nat) (x : α):Nat → α := fun i=>if i=s then x else f i
theorem setAt_self {α : Type} (f:Nat → α) (s:Nat) (x : α):setAt f s x s=x:=if_pos rfl
theorem setAt_ne {α : Type} (f:Nat → α) (s i:Nat) (x : α) (h:i≠s):setAt f s x i=f i:=if_neg h
structure RowS (base g n:Nat) (D SRC:Nat→Bool) (M:Nat→Sm) (st:Nat→Nat) (VW:Nat→Value) (CH:Nat→Option Nat) (w:World):Prop where
 row:∃ cs:List Value,w.heap[g]? = some (.cells cs.toArray 70 (0,0))∧cs.length=n∧(∀ i,i<n→D i=true→cs[i]? = some (.pointer (some ⟨st i,0,none⟩)))
 at':∀ i,i<n→D i=true→StAt w (st i) (VW i) (CH i) (SRC i) (M i)
 base:base≤g∧∀ i,i<n→D i=true→base≤st i∧(∀ q,(VW i).ownBlock=some q→base≤q)∧(∀ q,CH i=some q→base≤q)
 inj:∀ i j,i<n→j<n→D i=true→D j=true→i≠j→st i≠st j∧(∀ q,(VW i).ownBlock=some q→(VW j).ownBlock≠some q)∧(∀ c,CH i=some c→CH j≠some c)
theorem RowS.below {base g n:Nat} {D SRC:Nat→Bool} {M:Nat→Sm} {st:Nat→Nat} {VW:Nat→Value} {CH:Nat→Option Nat} {w w':World} (h:RowS base g n D SRC M st VW CH w) (hb:Below w.heap.size w w'):RowS base g n D SRC M st VW CH w':=by
 obtain ⟨cs,hg,hl,hc⟩:=h.row
 exact ⟨⟨cs,by rw [hb.block _ (lt_of_blk hg)];exact hg,hl,hc⟩,fun i hi hd=>(h.at' i hi hd).below hb,h.base,h.inj⟩
theorem st_lt {w:World} {b:Nat} {vw:Value} {ch:Option Nat} {src:Bool} {m:Sm} (h:StAt w b vw ch src m):b<w.heap.size∧(∀ q,vw.ownBlock=some q→q<w.heap.size)∧(∀ q,ch=some q→q<w.heap.size):=by
 refine ⟨lt_of_blk h.blk,fun q hq=>?_,fun q hq=>?_⟩
 ·obtain ⟨cur,hc⟩:=own_block h.own hq;exact lt_of_blk hc
 ·obtain ⟨⟨a,r,h1⟩,_⟩:=h.chan q hq;exact lt_of_blk h1
theorem RowS.next {base g n:Nat} {D SRC:Nat→Bool} {M:Nat→Sm} {st:Nat→Nat} {VW:Nat→Value} {CH:Nat→Option Nat} {w w1:World} {s b:Nat} {vw:Value} {ch:Option Nat} {src:Bool} {m:Sm}
  (h:RowS base g n D SRC M st VW CH w) (hs:s<n) (hsz:base≤w.heap.size) (hb:Below w.heap.size w w1) (hst:StAt w1 b vw ch src m) (hbb:w.heap.size≤b) (hvw:∀ q,vw.ownBlock=some q→w.heap.size≤q) (hch:∀ q,ch=some q→w.heap.size≤q) :
  RowS base g n (setAt D s true) (setAt SRC s src) (setAt M s m) (setAt st s b) (setAt VW s vw) (setAt CH s ch) (w1.setCell ⟨g,s,none⟩ (.pointer (some ⟨b,0,none⟩)))∧(∃ x,w1.cell? ⟨g,s,none⟩=some x)∧w1.frozen? ⟨g,s,none⟩=false:=by
 have h1:=h.below hb
 obtain ⟨cs,hg,hl,hc⟩:=h1.row
 have stay:∀ {b':Nat} {vw':Value} {ch':Option Nat} {src':Bool} {m':Sm},StAt w1 b' vw' ch' src' m'→StAt (w1.setCell ⟨g,s,none⟩ (.pointer (some ⟨b,0,none⟩))) b' vw' ch' src' m':=fun hW=>by
  refine hW.stays fun y hy=>Below.heap_setCell _ _ _ _ ?_
  rcases hy with rfl | hy | hy
  ·exact ne_of_types hW.blk hg (by decide)
  ·obtain ⟨cur,hcur⟩:=own_block hW.own hy
   exact ne_of_types hcur hg (by decide)
  ·obtain ⟨⟨a,r,h1⟩,_⟩:=hW.chan y hy
   exact chan_ne_cells h1 hg
 have old:∀ i,i<n→i≠s→setAt D s true i=true→D i=true:=fun i _ e hd=>by rw [setAt_ne _ _ _ _ e] at hd;exact hd
 refine ⟨⟨⟨cs.set s (.pointer (some ⟨b,0,none⟩)),blk_set hg s _,by simpa using hl,fun i hi hd=>?_⟩,fun i hi hd=>?_,⟨h.base.1,fun i hi hd=>?_⟩,fun i j hi hj hdi hdj hne=>?_⟩,⟨cs[s]'(by omega),row_cell hg (List.getElem?_eq_getElem (by omega))⟩,row_frozen hg s⟩
 ·by_cases e:i=s
  ·subst e;rw [setAt_self,List.getElem?_set_self (by omega)]
  ·rw [setAt_ne _ _ _ _ e,List.getElem?_set_ne (fun e'=>e e'.symm)];exact hc i hi (old i hi e hd)
 ·by_cases e:i=s
  ·subst e;simp only [setAt_self];exact stay hst
  ·simp only [setAt_ne _ _ _ _ e];exact stay (h1.at' i hi (old i hi e hd))
 ·by_cases e:i=s
  ·subst e;simp only [setAt_self];exact ⟨by omega,fun q hq=>by have:=hvw q hq;omega,fun q hq=>by have:=hch q hq;omega⟩
  ·simp only [setAt_ne _ _ _ _ e];exact h.base.2 i hi (old i hi e hd)
 ·by_cases ei:i=s
  ·have ej:j≠s:=fun e=>hne (ei.trans e.symm)
   subst ei
   obtain ⟨l1,l2,l3⟩:=st_lt (h.at' j hj (old j hj ej hdj))
   simp only [setAt_self,setAt_ne _ _ _ _ ej]
   exact ⟨by omega,fun q hq hq'=>by have:=hvw q hq;have:=l2 q hq';omega,fun q hq hq'=>by have:=hch q hq;have:=l3 q hq';omega⟩
  ·have hDi:=old i hi ei hdi
   obtain ⟨l1,l2,l3⟩:=st_lt (h.at' i hi hDi)
   by_cases ej:j=s
   ·subst ej
    simp only [setAt_self,setAt_ne _ _ _ _ ei]
    exact ⟨by omega,fun q hq hq'=>by have:=hvw q hq';have:=l2 q hq;omega,fun q hq hq'=>by have:=hch q hq';have:=l3 q hq;omega⟩
   ·simp only [setAt_ne _ _ _ _ ei,setAt_ne _ _ _ _ ej]
    exact h.inj i j hi hj hDi (old j hj ej hdj) hne
def plainM (n:Net) (s:Nat):Sm:=⟨[],0,(n.streams.getD s 0).toNat⟩
def Loop1 (base g:Nat) (n:Net) (k:Nat) (w:World):Prop:=
 ∃ st VW CH,RowS base g n.streams.length (fun i=>decide (i<k)) (fun _=>false) (plainM n) st VW CH w∧∀ i,i<k→((CH i).isSome=used n i)
theorem RowS.congr {base g n:Nat} {D D' SRC SRC':Nat→Bool} {M M':Nat→Sm} {st:Nat→Nat} {VW:Nat→Value} {CH:Nat→Option Nat} {w:World} (h:RowS base g n D SRC M st VW CH w)
  (hD:∀ i,i<n→D' i=true→D i=true) (hS:∀ i,i<n→D' i=true→SRC' i=SRC i) (hM:∀ i,i<n→D' i=true→M' i=M i):RowS base g n D' SRC' M' st VW CH w:=by
 obtain ⟨cs,hg,hl,hc⟩:=h.row
 refine ⟨⟨cs,hg,hl,fun i hi hd=>hc i hi (hD i hi hd)⟩,fun i hi hd=>?_,⟨h.base.1,fun i hi hd=>h.base.2 i hi (hD i hi hd)⟩,fun i j hi hj hdi hdj hne=>h.inj i j hi hj (hD i hi hdi) (hD j hj hdj) hne⟩
 rw [hS i hi hd,hM i hi hd]
 exact h.at' i hi (hD i hi hd)
theorem Loop1.next {base g:Nat} {n:Net} {k:Nat} {w w1:World} {b:Bool} {e:Ending} (h:Loop1 base g n k w) (hk:k<n.streams.length) (hsz:base≤w.heap.size) (hb:b=used n k) (hn:NewSt w false (plainM n k) b e w1) :
  ∃ p,e=.returned (.pointer (some ⟨p,0,none⟩))∧(∃ x,w1.cell? ⟨g,k,none⟩=some x)∧w1.frozen? ⟨g,k,none⟩=false∧Below w.heap.size w w1∧Loop1 base g n (k+1) (w1.setCell ⟨g,k,none⟩ (.pointer (some ⟨p,0,none⟩))):=by
 obtain ⟨st,VW,CH,hr,hch⟩:=h
 obtain ⟨p,vw,ch,he,hst,hbl,hbb,hvw,hc,hsome⟩:=hn
 obtain ⟨r1,r2,r3⟩:=hr.next hk hsz hbl hst hbb hvw hc
 refine ⟨p,he,r2,r3,hbl,_,_,_,r1.congr (fun i hi hd=>?_) (fun i hi hd=>?_) (fun i hi hd=>?_),fun i hi=>?_⟩
 ·by_cases e:i=k
  ·rw [e,setAt_self]
  ·rw [setAt_ne _ _ _ _ e];simp at hd ⊢;omega
 ·by_cases e:i=k
  ·rw [e,setAt_self]
  ·rw [setAt_ne _ _ _ _ e]
 ·by_cases e:i=k
  ·rw [e,setAt_self]
  ·rw [setAt_ne _ _ _ _ e]
 ·by_cases e:i=k
  ·rw [e,setAt_self,hsome,hb]
  ·rw [setAt_ne _ _ _ _ e];exact hch i (by omega)
def srcJ (n:Net) (j s:Nat):Bool:=hasSourceB (n.sources.take j) s
def wordsJ (n:Net) (j s:Nat):Sm:=⟨if srcJ n j s then srcWords n s else [],0,(n.streams.getD s 0).toNat⟩
def Loop2 (base g:Nat) (n:Net) (j:Nat) (w:World):Prop:=
 ∃ st VW CH,RowS base g n.streams.length (fun _=>true) (srcJ n j) (wordsJ n j) st VW CH w∧∀ i,i<n.streams.length→srcJ n j i=false→((CH i).isSome=used n i)
theorem Loop2.start {base g:Nat} {n:Net} {w:World} (h:Loop1 base g n n.streams.length w):Loop2 base g n 0 w:=by
 obtain ⟨st,VW,CH,hr,hch⟩:=h
 refine ⟨st,VW,CH,hr.congr (fun i hi hd=>by simpa using hi) (fun i hi hd=>rfl) (fun i hi hd=>rfl),fun i hi _=>hch i hi⟩
theorem srcJ_succ (n:Net) (j s:Nat) (hj:j<n.sources.length):srcJ n (j+1) s=(srcJ n j s || (n.sources[j].stream == (s:Int))):=any_take_succ _ _ _ hj
theorem Loop2.next {base g:Nat} {n:Net} {j s:Nat} {w w1:World} {e:Ending} (h:Loop2 base g n j w) (hj:j<n.sources.length) (hs:n.sources[j].stream=(s:Nat)) (hsl:s<n.streams.length) (hfree:srcJ n j s=false) (hsz:base≤w.heap.size) (hn:NewSt w true ⟨n.sources[j].words,0,(n.streams.getD s 0).toNat⟩ false e w1) :
  ∃ p,e=.returned (.pointer (some ⟨p,0,none⟩))∧(∃ x,w1.cell? ⟨g,s,none⟩=some x)∧w1.frozen? ⟨g,s,none⟩=false∧Below w.heap.size w w1∧Loop2 base g n (j+1) (w1.setCell ⟨g,s,none⟩ (.pointer (some ⟨p,0,none⟩))):=by
 obtain ⟨st,VW,CH,hr,hch⟩:=h
 obtain ⟨p,vw,ch,he,hst,hbl,hbb,hvw,hc,hsome⟩:=hn
 have hwords:srcWords n s=n.sources[j].words:=by
  have hf:n.sources.find? (fun x=>x.stream == (s:Int))=some n.sources[j]:=by
   rw [List.find?_eq_some_iff_getElem]
   refine ⟨by simp [hs],j,hj,rfl,fun i hi=>?_⟩
   have:=List.any_eq_false.1 hfree (n.sources[i]) (by rw [List.mem_take_iff_getElem];exact ⟨i,by omega,rfl⟩)
   simpa using this
  simp [srcWords,hf]
 obtain ⟨r1,r2,r3⟩:=hr.next hsl hsz hbl hst hbb hvw hc
 have ne:∀ i,i≠s→srcJ n (j+1) i=srcJ n j i:=fun i e=>by
  rw [srcJ_succ _ _ _ hj]
  have:(n.sources[j].stream == (i:Int))=false:=by rw [hs];simp;omega
  rw [this,Bool.or_false]
 have eq:srcJ n (j+1) s=true:=by rw [srcJ_succ _ _ _ hj,hs];simp
 refine ⟨p,he,r2,r3,hbl,_,_,_,r1.congr (fun i hi hd=>?_) (fun i hi hd=>?_) (fun i hi hd=>?_),fun i hi hd=>?_⟩
 ·by_cases e:i=s
  ·rw [e,setAt_self]
  ·rw [setAt_ne _ _ _ _ e]
 ·by_cases e:i=s
  ·rw [e,setAt_self,eq]
  ·rw [setAt_ne _ _ _ _ e,ne i e]
 ·by_cases e:i=s
  ·rw [e,setAt_self,wordsJ,eq,if_pos rfl,hwords]
  ·rw [setAt_ne _ _ _ _ e,wordsJ,wordsJ,ne i e]
 ·by_cases e:i=s
  ·rw [e,eq] at hd;cases hd
  ·rw [setAt_ne _ _ _ _ e];rw [ne i e] at hd;exact hch i hi hd
set_option maxRecDepth 100000 in
set_option maxHeartbeats 1000000 in
theorem newStreams_calls {n:Net} {v:Value} {w:World} (h:NetAt w v n) (hok:validB n=true) :
  Calls Tryz.prog 24 #[v] w fun e w'=>∃ g,e=.returned (.slice (some ⟨g,0,none⟩) n.streams.length n.streams.length)∧Loop2 w.heap.size g n n.sources.length w'∧Below w.heap.size w w':=by
 have hl8:=(valid_counts hok).2.1
 have hNet:=h
 obtain ⟨vs,vr,vw,rfl,h1,h2,h3⟩:=h
 obtain ⟨sa,sc,rfl,hsn, -,hcs⟩:=h1.open
 obtain ⟨ar,cr,rfl,hrn, -,hcr⟩:=h2.open
 obtain ⟨aw,cw,rfl⟩:=h3.form
 have hsv:∀ k (hk:k<n.streams.length),1≤n.streams[k]∧n.streams[k]≤6:=fun k hk=>by
  simp only [validB,validStreamsB,Bool.and_eq_true] at hok
  have:=List.all_eq_true.1 hok.1.1.1.2 n.streams[k] (List.getElem_mem hk)
  simpa using this
 have hmk:=run_make_row' (P:=Tryz.prog) 71 70 (.pointer none) 8 Tryz.underlying71 Tryz.infoPS rfl .i64 .i64 n.streams.length (by omega) (by omega)
 rw [madeCells_zrow] at hmk
 have HH:Hid (∀ wx,Below w.heap.size w wx→∀ k:Nat,Calls Tryz.prog 53 #[.agg #[.slice sa n.streams.length sc,.slice ar n.sources.length cr,.slice aw n.workers.length cw],.int .i64 (k:Int)] wx fun e w'=>e=.returned (.bool (used n k))∧Below wx.heap.size wx w'):=fun wx hx k=>hasReader_calls k (hNet.below hx)
 have HS:Hid (∀ wr,Below w.heap.size w wr→∀ k (hk:k<n.streams.length),∃ b off,sa=some ⟨b,off,none⟩∧wr.cell? ⟨b,off+k,none⟩=some (.int .i64 ((plainM n k).room:Nat))):=fun wr hb k hk=>by
  obtain ⟨b,off,ha,hc⟩:=hcs wr hb k hk
  refine ⟨b,off,ha,?_⟩
  have:=hsv k hk
  rw [hc];simp only [plainM];rw [getD_eq _ _ _ hk]
  congr 2;omega
 have HR:Hid (∀ k,k<n.streams.length→∀ wx:World,Calls Tryz.prog 54 #[.int .i64 ((plainM n k).room:Nat)] wx fun e w'=>NewSt wx false (plainM n k) true e w'):=fun k hk wx=>by
  have:=hsv k hk
  refine withRoom_calls wx (plainM n k).room ?_
  simp only [plainM];rw [getD_eq _ _ _ hk];omega
 have HU:Hid (∀ k,∀ wx:World,Calls Tryz.prog 55 #[.int .i64 ((plainM n k).room:Nat)] wx fun e w'=>NewSt wx false (plainM n k) false e w'):=fun k wx=>unread_calls wx _
 have HZ:Hid (∀ (w1:World),w.heap.size≤w1.heap.size→Loop1 w.heap.size w1.heap.size n 0 (w1.alloc (.cells (zrow (.pointer none) n.streams.length) 70))):=fun w1 hge=>by
  refine ⟨fun _=>0,fun _=>.bool false,fun _=>none,⟨⟨(zrow (.pointer none) n.streams.length).toList,by simpa using heap_alloc_new _ _,by simp [zrow],fun i hi hd=>by simp at hd⟩,fun i hi hd=>by simp at hd,⟨hge,fun i hi hd=>by simp at hd⟩,fun i j hi hj hd=>by simp at hd⟩,fun i hi=>by omega⟩
 have HN1:Hid (∀ k g wx w1 b e,Loop1 w.heap.size g n k wx→k<n.streams.length→w.heap.size≤wx.heap.size→b=used n k→NewSt wx false (plainM n k) b e w1→∃ p,e=.returned (.pointer (some ⟨p,0,none⟩))∧(∃ x,w1.cell? ⟨g,k,none⟩=some x)∧w1.frozen? ⟨g,k,none⟩=false∧Below wx.heap.size wx w1∧Loop1 w.heap.size g n (k+1) (w1.setCell ⟨g,k,none⟩ (.pointer (some ⟨p,0,none⟩)))):=fun k g wx w1 b e hl hk hsz hb hn=>hl.next hk hsz hb hn
 have HSt:Hid (∀ g wx,Loop1 w.heap.size g n n.streams.length wx→Loop2 w.heap.size g n 0 wx):=fun g wx hl=>Loop2.start hl
 clear h1 h2 h3 hcs hsv hNet
 generalize n.workers.length=wl at *
 generalize hsl0:n.streams.length=sl at *
 have HSL:=hide hsl0
 clear hsl0
 go_enter Tryz.func24,Tryz.ntmps24
 go_wp2
 go_loopw [15] (fun i wr=>∃ (k:Nat),k≤sl∧i=.int .i64 k∧Below (w.heap.size+1) (w.alloc (.cells #[.slice sa sl sc,.slice ar n.sources.length cr,.slice aw wl cw] 26)) wr∧Loop1 w.heap.size (w.heap.size+1) n k wr) (fun i _=>sl-(intOf i).toNat)
 case atStart=>
  have hz:=HZ.out (w.alloc (.cells #[.slice sa sl sc,.slice ar n.sources.length cr,.slice aw wl cw] 26)) (by simp)
  refine ⟨0,Nat.zero_le _,rfl,?_,by simpa using hz⟩
  have hb0:Below (w.heap.size+1) (w.alloc (.cells #[.slice sa sl sc,.slice ar n.sources.length cr,.slice aw wl cw] 26)) (w.alloc (.cells #[.slice sa sl sc,.slice ar n.sources.length cr,.slice aw wl cw] 26)):=Below.refl _ _
  exact hb0.alloc (by simp) _
 case round=>
  obtain ⟨k,hk,rfl,hbl,hrow⟩:=hrel
  have hb0:Below w.heap.size w wr:=below_box hbl
  have HB:=hide hbl
  have HRo:=hide hrow
  have t0:wr.heap[w.heap.size]? = some (.cells #[.slice sa sl sc,.slice ar n.sources.length cr,.slice aw wl cw] 26 (0,0)):=by
   rw [hbl.block _ (by omega)];exact heap_alloc_new _ _
  have z0:=blk_cell t0 0 _ rfl
  have z1:=blk_cell t0 1 _ rfl
  have z2:=blk_cell t0 2 _ rfl
  clear t0
  by_cases hlt:k<sl
  ·obtain ⟨b,off,rfl,d0⟩:=HS.out wr hb0 k hlt
   have HH1:=hide (HH.out wr hb0 k)
   have hk0:(0:Int)≤(k:Int):=by omega
   have hk1:(k:Int)<(sl:Int):=by omega
   have HB0:=hide hb0
   have HX:Hid (∀ wx w1 c e,Below wr.heap.size wr wx→c=used n k→NewSt wx false (plainM n k) c e w1→∃ p,e=.returned (.pointer (some ⟨p,0,none⟩))∧(∃ x,w1.cell? ⟨w.heap.size+1,k,none⟩=some x)∧w1.frozen? ⟨w.heap.size+1,k,none⟩=false∧Below (w.heap.size+1) (w.alloc (.cells #[.slice (some ⟨b,off,none⟩) sl sc,.slice ar n.sources.length cr,.slice aw wl cw] 26)) (w1.setCell ⟨w.heap.size+1,k,none⟩ (.pointer (some ⟨p,0,none⟩)))∧Loop1 w.heap.size (w.heap.size+1) n (k+1) (w1.setCell ⟨w.heap.size+1,k,none⟩ (.pointer (some ⟨p,0,none⟩)))):=fun wx w1 c e hx hc hn=>by
    have hsz:w.heap.size+1≤wr.heap.size:=by have:=hbl.size;simpa using this
    have hl':Loop1 w.heap.size (w.heap.size+1) n k wx:=by
     obtain ⟨st,VW,CH,hr,hch⟩:=hrow
     exact ⟨st,VW,CH,hr.below hx,hch⟩
    obtain ⟨p,q1,q2,q3,q4,q5⟩:=HN1.out k (w.heap.size+1) wx w1 c e hl' hlt (by have:=hx.size;omega) hc hn
    refine ⟨p,q1,q2,q3,?_,q5⟩
    have hb2:=(hbl.trans (hx.mono hsz)).trans (q4.mono (by have:=hx.size;omega))
    exact hb2.setCell (p:=⟨w.heap.size+1,k,none⟩) (Nat.le_refl _) _
   have HR1:=hide (HR.out k hlt)
   have HU1:=hide (HU.out k)
   clear hbl hrow hb0 HS HR HU HZ hmk HN1 HSt hcr HH
   generalize ((plainM n k).room:Nat)=rm at *
   go_wp2_with fail
   refine (unhide HH1).mono ?_
   rintro e w1 ⟨rfl,hb1⟩
   cases hy:used n k
   ·go_wp2_with fail
    refine (unhide HU1 _).mono ?_
    intro e w2 hn
    obtain ⟨p,rfl,⟨x,hx⟩,hfz,hb',hr'⟩:=HX.out w1 w2 false e hb1 hy.symm hn
    have HB':=hide hb'
    have HR':=hide hr'
    clear hb' hr' hn hy
    go_wp2
    go_roundw
    case rel=>exact ⟨k+1,by omega,by go_num,HB'.out,HR'.out⟩
    case measure=>simp [intOf];omega
   ·go_wp2_with fail
    refine (unhide HR1 _).mono ?_
    intro e w2 hn
    obtain ⟨p,rfl,⟨x,hx⟩,hfz,hb',hr'⟩:=HX.out w1 w2 true e hb1 hy.symm hn
    have HB':=hide hb'
    have HR':=hide hr'
    clear hb' hr' hn hy
    go_wp2
    go_roundw
    case rel=>exact ⟨k+1,by omega,by go_num,HB'.out,HR'.out⟩
    case measure=>simp [intOf];omega
  ·have e:k=sl:=by omega
   subst e
   have HL2:=hide (HSt.out _ _ hrow)
   have hsrc:∀ j (hj:j<n.sources.length),inB n.sources[j].stream k=true∧n.sources[j].words.length≤50∧hasSourceB (n.sources.take j) n.sources[j].stream=false:=fun j hj=>by
    have hq:validSourcesB n.sources n.streams.length=true:=by
     simp only [validB,Bool.and_eq_true] at hok;exact hok.1.1.2
    have:=List.all_eq_true.1 hq j (List.mem_range.2 hj)
    rw [getD_eq _ _ _ hj] at this
    simp only [Bool.and_eq_true,decide_eq_true_eq,Bool.not_eq_true'] at this
    exact ⟨by rw [HSL.out] at this;exact this.1.1,this.1.2,this.2⟩
   have HC:Hid (∀ wx,Below w.heap.size w wx→∀ j (hj:j<n.sources.length),∃ (b off:Nat) (u:Option Addr) (s sz uc:Nat),ar=some ⟨b,off,none⟩∧s<k∧n.sources[j].stream=(s:Nat)∧srcJ n j s=false∧wx.cell? ⟨b,off+j*2,none⟩=some (.int .i64 (s:Nat))∧wx.cell? ⟨b,off+j*2+1,none⟩=some (.slice u sz uc)∧∀ wy,Below wx.heap.size wx wy→∀ r,Calls Tryz.prog 56 #[.slice u sz uc] wy fun e w'=>NewSt wy true ⟨n.sources[j].words,0,r⟩ false e w'):=fun wx hx j hj=>by
    obtain ⟨b,off,u,ha,d0,d1,hu⟩:=hcr wx hx j hj
    obtain ⟨q1,q2,q3⟩:=hsrc j hj
    obtain ⟨s,hs⟩:∃ s:Nat,n.sources[j].stream=s:=⟨n.sources[j].stream.toNat,by simp [inB] at q1;omega⟩
    obtain ⟨ua,uc,rfl⟩:=hu.form
    rw [hs] at q1 q3 d0
    exact ⟨b,off,ua,s,_,uc,ha,by simp [inB] at q1;omega,hs,q3,d0,d1,fun wy hy r=>fromSource_calls (hu.below hy) (by omega) r⟩
   have HN2:Hid (∀ j (hj:j<n.sources.length) s wx w1 e,Loop2 w.heap.size (w.heap.size+1) n j wx→n.sources[j].stream=(s:Nat)→s<k→srcJ n j s=false→w.heap.size≤wx.heap.size→NewSt wx true ⟨n.sources[j].words,0,(n.streams.getD s 0).toNat⟩ false e w1→∃ p,e=.returned (.pointer (some ⟨p,0,none⟩))∧(∃ x,w1.cell? ⟨w.heap.size+1,s,none⟩=some x)∧w1.frozen? ⟨w.heap.size+1,s,none⟩=false∧Below wx.heap.size wx w1∧Loop2 w.heap.size (w.heap.size+1) n (j+1) (w1.setCell ⟨w.heap.size+1,s,none⟩ (.pointer (some ⟨p,0,none⟩)))):=fun j hj s wx w1 e hl hs hsl hf hsz hn=>hl.next hj hs (by rw [HSL.out];exact hsl) hf hsz hn
   clear hsrc hcr HS HR HU HZ hmk HN1 HSt HH hrow HRo hok hbl hb0
   go_wp2
   go_loopw [37] (fun i wr=>∃ (j:Nat),j≤n.sources.length∧i=.int .i64 j∧Below (w.heap.size+1) (w.alloc (.cells #[.slice sa k sc,.slice ar n.sources.length cr,.slice aw wl cw] 26)) wr∧Loop2 w.heap.size (w.heap.size+1) n j wr) (fun i _=>n.sources.length-(intOf i).toNat)
   case atStart=>exact ⟨0,Nat.zero_le _,rfl,HB.out,HL2.out⟩
   case round=>
    clear HL2 HB z0 z1 z2
    obtain ⟨j,hj,rfl,hbl,hrow⟩:=hrel
    have hb0:=below_box hbl
    have HB:=hide hbl
    have HRo:=hide hrow
    by_cases hlt2:j<n.sources.length
    ·obtain ⟨b,off,u,s,sz,uc,rfl,hsk,hs,hfree,d0,d1,hcall⟩:=HC.out _ hb0 j hlt2
     have HCa:=hide hcall
     have HSs:=hide hs
     have hj0:(0:Int)≤(j:Int):=by omega
     have hj1:(j:Int)<(n.sources.length:Int):=by omega
     have hglt:w.heap.size+1<wr.heap.size:=by
      obtain ⟨st,VW,CH,hr, -⟩:=hrow
      obtain ⟨cs,hg, -⟩:=hr.row
      exact lt_of_blk hg
     have HX:Hid (∀ wx,Below (wr.heap.size+1) (wr.alloc (.cells #[.int .i64 (s:Nat),.slice u sz uc] 42)) wx→Calls Tryz.prog 56 #[.slice u sz uc] wx fun e w1=>∃ p,e=.returned (.pointer (some ⟨p,0,none⟩))∧(w1.cell? ⟨wr.heap.size,0,none⟩=some (.int .i64 (s:Nat))∧w1.cell? ⟨wr.heap.size,1,none⟩=some (.slice u sz uc))∧(∃ x,w1.cell? ⟨w.heap.size+1,s,none⟩=some x)∧w1.frozen? ⟨w.heap.size+1,s,none⟩=false∧Below (w.heap.size+1) (w.alloc (.cells #[.slice sa k sc,.slice (some ⟨b,off,none⟩) n.sources.length cr,.slice aw wl cw] 26)) (w1.setCell ⟨w.heap.size+1,s,none⟩ (.pointer (some ⟨p,0,none⟩)))∧Loop2 w.heap.size (w.heap.size+1) n (j+1) (w1.setCell ⟨w.heap.size+1,s,none⟩ (.pointer (some ⟨p,0,none⟩)))):=fun wx hx=>by
      have hbx:Below wr.heap.size wr wx:=below_box hx
      have hl':Loop2 w.heap.size (w.heap.size+1) n j wx:=by
       obtain ⟨st,VW,CH,hr,hch⟩:=hrow
       exact ⟨st,VW,CH,hr.below hbx,hch⟩
      refine (hcall wx hbx (n.streams.getD s 0).toNat).mono fun e w1 hn=>?_
      obtain ⟨p,q1,q2,q3,q4,q5⟩:=HN2.out j hlt2 s wx w1 e hl' hs hsk hfree (by have:=hbx.size;omega) hn
      have t1:w1.heap[wr.heap.size]? = some (.cells #[.int .i64 (s:Nat),.slice u sz uc] 42 (0,0)):=by
       have hsz:=hx.size
       simp at hsz
       rw [q4.block _ (by omega),hx.block _ (by omega)];exact heap_alloc_new _ _
      refine ⟨p,q1,⟨row_cell t1 rfl,row_cell t1 rfl⟩,q2,q3,?_,q5⟩
      have hb2:=(hbl.trans (hbx.mono (by omega))).trans (q4.mono (by have:=hbx.size;omega))
      exact hb2.setCell (p:=⟨w.heap.size+1,s,none⟩) (Nat.le_refl _) _
     have t0:(wr.alloc (.cells #[.int .i64 (s:Nat),.slice u sz uc] 42)).heap[wr.heap.size]? = some (.cells #[.int .i64 (s:Nat),.slice u sz uc] 42 (0,0)):=heap_alloc_new _ _
     have y0:(wr.alloc (.cells #[.int .i64 (s:Nat),.slice u sz uc] 42)).cell? ⟨wr.heap.size,0,none⟩=some (.int .i64 (s:Nat)):=row_cell t0 rfl
     have y1:(wr.alloc (.cells #[.int .i64 (s:Nat),.slice u sz uc] 42)).cell? ⟨wr.heap.size,1,none⟩=some (.slice u sz uc):=row_cell t0 rfl
     have hs0:(0:Int)≤(s:Int):=by omega
     have hs1:(s:Int)<(k:Int):=by omega
     have nb:wr.heap.size≠w.heap.size+1:=by omega
     have nb':w.heap.size+1≠wr.heap.size:=by omega
     have HNB:=hide hglt
     clear hcall hs HC hbl hrow t0 hglt HN2 HCa hb0
     go_wp2
     have hbb:Below (wr.heap.size+1) (wr.alloc (.cells #[.int .i64 (s:Nat),.slice u sz uc] 42)) (wr.alloc (.cells #[.int .i64 (s:Nat),.slice u sz uc] 42)):=Below.refl _ _
     generalize (wr.alloc (.cells #[.int .i64 (s:Nat),.slice u sz uc] 42))=wq at *
     go_region_held3 (fun w'=>w'.cell? ⟨wr.heap.size,0,none⟩=some (.int .i64 (s:Nat))∧w'.cell? ⟨wr.heap.size,1,none⟩=some (.slice u sz uc)) (go_keep)
      ((go_at_call 56;refine (unhide HX _ ?_).mono ?_; (repeat (first | exact hbb | apply Below.drew | apply below_drewN));rintro e w1 ⟨p,rfl,⟨s1,s2⟩,⟨x,hx⟩,hfz,hb1,hl1⟩;have HB1:=hide hb1;have HL1:=hide hl1;clear hb1 hl1))
     go_wp2
     go_roundw
     case rel=>exact ⟨j+1,by omega,by go_num,HB1.out,HL1.out⟩
     case measure=>simp [intOf];omega
    ·go_wp2
     go_ret
     exact ⟨w.heap.size+1,rfl,by
       have e:j=n.sources.length:=by omega
       rw [← e];exact HRo.out,hb0⟩
theorem srcJ_all (n:Net) (s:Nat):srcJ n n.sources.length s=srcd n s:=by
 simp only [srcJ,srcd,List.take_length]
theorem initR_s (n:Net) (s:Nat) (hs:s<n.streams.length):(initR n n.streams).s s=wordsJ n n.sources.length s:=by
 simp only [Rc.s,initR,wordsJ,srcJ_all]
 rw [getD_eq _ _ _ (by simpa using hs)]
 simp
theorem initR_w (n:Net) (k:Nat):(initR n n.streams).w k=⟨0,fun _=>0,0⟩:=by
 simp only [Rc.w,initR,List.getD]
 by_cases h:k<n.workers.length
 ·rw [List.getElem?_replicate_of_lt h];rfl
 ·rw [List.getElem?_eq_none (by simpa using h)];rfl
theorem raceAt_new {n:Net} {w w1 w2 w3:World} {gs gw p:Nat} {wb:Nat→Nat} {VC:Nat→Value} (hok:validB n=true)
  (hS:Loop2 w.heap.size gs n n.sources.length w1) (hb:Below w1.heap.size w1 w2) (hW:RowW w1.heap.size gw n.workers n.workers.length wb VC w2) (hb3:Below w2.heap.size w2 w3)
  (hp:w3.heap[p]? = some (.cells #[.slice (some ⟨gs,0,none⟩) n.streams.length n.streams.length,.slice (some ⟨gw,0,none⟩) n.workers.length n.workers.length] 74 (0,0))) :
  ∃ L:Lay,RaceAt L w3 n (initR n n.streams)∧L.p=p∧(w.heap.size≤w1.heap.size→w.heap.size≤p→∀ b,Foot L n b→w.heap.size≤b):=by
 obtain ⟨st,VW,CH,hr,hch⟩:=hS
 have hr3:=(hr.below hb).below hb3
 have hw3:=hW.below hb3
 obtain ⟨cs,hg,hl,hc⟩:=hr3.row
 obtain ⟨cw,hgw,hlw,hcw⟩:=hw3.row
 have h8:=(valid_counts hok).2.1
 refine ⟨⟨p,.slice (some ⟨gs,0,none⟩) n.streams.length n.streams.length,.slice (some ⟨gw,0,none⟩) n.workers.length n.workers.length,st,VW,CH,wb,VC⟩,⟨hp,⟨⟨⟨gs,_,rfl,cs,hg,fun i hi=>hc i hi rfl⟩,by omega⟩,fun s hs=>?_⟩,⟨gw,_,rfl,cw,hgw,hcw⟩,fun k hk=>?_,fun s hs hq=>?_,fun s t hs ht hne=>hr3.inj s t hs ht rfl rfl hne,fun j k hj hk hne=>?_,by simp [initR],by simp [initR],hok⟩,rfl,fun hs1 hs2 b hf=>?_⟩
 ·have:=hr3.at' s hs rfl
  rw [initR_s _ _ hs, ← srcJ_all];exact this
 ·rw [initR_w];exact hw3.wk k hk
 ·have:=hch s hs (by rw [srcJ_all];exact hq)
  dsimp only
  rw [this]
 ·rcases Nat.lt_or_ge j k with h | h
  ·have:=hw3.inj j k h hk;dsimp only;omega
  ·have:=hw3.inj k j (by omega) hj;dsimp only;omega
 ·rcases hf with rfl | hf | hf | ⟨s,hs,hf⟩ | ⟨j,hj,hf⟩
  ·exact hs2
  ·have e:gs=b:=by simpa [Value.ownBlock] using hf
   have:=hr.base.1;omega
  ·have e:gw=b:=by simpa [Value.ownBlock] using hf
   have:=hW.base.1;omega
  ·obtain ⟨q1,q2,q3⟩:=hr.base.2 s hs rfl
   rcases hf with rfl | hf | hf
   ·exact q1
   ·exact q2 b hf
   ·exact q3 b hf
  ·obtain ⟨q1,q2⟩:=hW.base.2 j hj
   rcases hf with rfl | hf
   ·dsimp only;omega
   ·have:=q2 b hf;omega
set_option maxHeartbeats 1000000 in
theorem new_out {n:Net} {v:Value} {w:World} (h:NetAt w v n) (hno:validB n=false) :
  Calls Tryz.prog 13 #[v] w fun e w'=>e=.returned (.tuple #[.pointer none,.int .i64 1])∧Below w.heap.size w w':=by
 have HV:Hid (∀ wx,Below w.heap.size w wx→Calls Tryz.prog 23 #[v] wx fun e w'=>e=.returned (.bool false)∧Below wx.heap.size wx w'):=fun wx hx=>by
  have:=valid_calls (h.below hx);rw [hno] at this;exact this
 obtain ⟨vs,vr,vw,rfl,h1,h2,h3⟩:=h
 obtain ⟨sa,sc,rfl⟩:=h1.form
 obtain ⟨ar,cr,rfl⟩:=h2.form
 obtain ⟨aw,cw,rfl⟩:=h3.form
 have hb0:Below w.heap.size w (w.alloc (.cells #[.slice sa n.streams.length sc,.slice ar n.sources.length cr,.slice aw n.workers.length cw] 26)):=(Below.refl _ _).alloc (Nat.le_refl _) _
 have HB0:=hide hb0
 clear h1 h2 h3 hno hb0
 go_enter Tryz.func13,Tryz.ntmps13
 go_wp2_with fail
 refine (unhide HV _ HB0.out).mono ?_
 rintro e w1 ⟨rfl,hb1⟩
 have HB1:=hide (HB0.out.trans (hb1.mono HB0.out.size))
 clear hb1
 go_wp2
 go_ret2
 exact ⟨rfl,HB1.out⟩
set_option maxRecDepth 100000 in
set_option maxHeartbeats 1000000 in
theorem new_calls {n:Net} {v:Value} {w:World} (h:NetAt w v n) (hok:validB n=true) :
  Calls Tryz.prog 13 #[v] w fun e w'=>∃ L:Lay,e=.returned (.tuple #[.pointer (some ⟨L.p,0,none⟩),.int .i64 0])∧RaceAt L w' n (initR n n.streams)∧(∀ b,Foot L n b→w.heap.size≤b)∧Below w.heap.size w w':=by
 have HV:Hid (∀ wx,Below w.heap.size w wx→Calls Tryz.prog 23 #[v] wx fun e w'=>e=.returned (.bool true)∧Below wx.heap.size wx w'):=fun wx hx=>by
  have:=valid_calls (h.below hx);rw [hok] at this;exact this
 have HS0:∀ wx,Below w.heap.size w wx→Calls Tryz.prog 24 #[v] wx fun e w'=>∃ g,e=.returned (.slice (some ⟨g,0,none⟩) n.streams.length n.streams.length)∧Loop2 wx.heap.size g n n.sources.length w'∧Below wx.heap.size wx w':=fun wx hx=>newStreams_calls (h.below hx) hok
 have HW0:∀ wx,Below w.heap.size w wx→Calls Tryz.prog 25 #[v] wx fun e w'=>∃ g wb VC,e=.returned (.slice (some ⟨g,0,none⟩) n.workers.length n.workers.length)∧RowW wx.heap.size g n.workers n.workers.length wb VC w'∧Below wx.heap.size wx w':=fun wx hx=>
  newWorkers_calls (h.below hx) (valid_counts hok).2.2.2 (fun c hc=>by
   simp only [validB,validWorkersB,Bool.and_eq_true] at hok
   have:=List.all_eq_true.1 hok.1.2.2 c hc
   simp only [validCodeB,Bool.and_eq_true,decide_eq_true_eq] at this
   exact this.1.2)
 obtain ⟨vs,vr,vw,rfl,h1,h2,h3⟩:=h
 obtain ⟨sa,sc,rfl⟩:=h1.form
 obtain ⟨ar,cr,rfl⟩:=h2.form
 obtain ⟨aw,cw,rfl⟩:=h3.form
 have HS:Hid (∀ wx,Below (w.heap.size+1) (w.alloc (.cells #[.slice sa n.streams.length sc,.slice ar n.sources.length cr,.slice aw n.workers.length cw] 26)) wx→Calls Tryz.prog 24 #[.agg #[.slice sa n.streams.length sc,.slice ar n.sources.length cr,.slice aw n.workers.length cw]] wx fun e w'=>∃ g,e=.returned (.slice (some ⟨g,0,none⟩) n.streams.length n.streams.length)∧(w'.cell? ⟨w.heap.size,0,none⟩=some (.slice sa n.streams.length sc)∧w'.cell? ⟨w.heap.size,1,none⟩=some (.slice ar n.sources.length cr)∧w'.cell? ⟨w.heap.size,2,none⟩=some (.slice aw n.workers.length cw))∧Loop2 w.heap.size g n n.sources.length w'∧Below (w.heap.size+1) (w.alloc (.cells #[.slice sa n.streams.length sc,.slice ar n.sources.length cr,.slice aw n.workers.length cw] 26)) w'):=fun wx hx=>by
  refine (HS0 wx (below_box hx)).mono fun e w' hh=>?_
  obtain ⟨g,q1,⟨st,VW,CH,hr,hch⟩,q3⟩:=hh
  have hsz:=hx.size
  simp at hsz
  have hx':=hx.trans (q3.mono (by omega))
  have t0:w'.heap[w.heap.size]? = some (.cells #[.slice sa n.streams.length sc,.slice ar n.sources.length cr,.slice aw n.workers.length cw] 26 (0,0)):=by
   rw [hx'.block _ (by omega)];exact heap_alloc_new _ _
  refine ⟨g,q1,⟨row_cell t0 rfl,row_cell t0 rfl,row_cell t0 rfl⟩,⟨st,VW,CH,⟨hr.row,hr.at',⟨by have:=hr.base.1;omega,fun i hi hd=>?_⟩,hr.inj⟩,hch⟩,hx'⟩
  obtain ⟨b1,b2,b3⟩:=hr.base.2 i hi hd
  exact ⟨by omega,fun q hq=>by have:=b2 q hq;omega,fun q hq=>by have:=b3 q hq;omega⟩
 have HW:Hid (∀ wx,Below (w.heap.size+1) (w.alloc (.cells #[.slice sa n.streams.length sc,.slice ar n.sources.length cr,.slice aw n.workers.length cw] 26)) wx→Calls Tryz.prog 25 #[.agg #[.slice sa n.streams.length sc,.slice ar n.sources.length cr,.slice aw n.workers.length cw]] wx fun e w'=>∃ g wb VC,e=.returned (.slice (some ⟨g,0,none⟩) n.workers.length n.workers.length)∧(w'.cell? ⟨w.heap.size,0,none⟩=some (.slice sa n.streams.length sc)∧w'.cell? ⟨w.heap.size,1,none⟩=some (.slice ar n.sources.length cr)∧w'.cell? ⟨w.heap.size,2,none⟩=some (.slice aw n.workers.length cw))∧RowW wx.heap.size g n.workers n.workers.length wb VC w'∧Below wx.heap.size wx w'∧Below (w.heap.size+1) (w.alloc (.cells #[.slice sa n.streams.length sc,.slice ar n.sources.length cr,.slice aw n.workers.length cw] 26)) w'):=fun wx hx=>by
  refine (HW0 wx (below_box hx)).mono fun e w' hh=>?_
  obtain ⟨g,wb,VC,q1,q2,q3⟩:=hh
  have hsz:=hx.size
  simp at hsz
  have hx':=hx.trans (q3.mono (by omega))
  have t0:w'.heap[w.heap.size]? = some (.cells #[.slice sa n.streams.length sc,.slice ar n.sources.length cr,.slice aw n.workers.length cw] 26 (0,0)):=by
   rw [hx'.block _ (by omega)];exact heap_alloc_new _ _
  exact ⟨g,wb,VC,q1,⟨row_cell t0 rfl,row_cell t0 rfl,row_cell t0 rfl⟩,q2,q3,hx'⟩
 have HE:Hid (∀ w1 w2 gs gw wb VC,w.heap.size≤w1.heap.size→Loop2 w.heap.size gs n n.sources.length w1→Below w1.heap.size w1 w2→RowW w1.heap.size gw n.workers n.workers.length wb VC w2→∃ L:Lay,L.p=w2.heap.size∧RaceAt L (w2.alloc (.cells #[.slice (some ⟨gs,0,none⟩) n.streams.length n.streams.length,.slice (some ⟨gw,0,none⟩) n.workers.length n.workers.length] 74)) n (initR n n.streams)∧(∀ b,Foot L n b→w.heap.size≤b)):=fun w1 w2 gs gw wb VC hs hS hb hW=>by
  obtain ⟨L,q1,q2,q3⟩:=raceAt_new (p:=w2.heap.size) hok hS hb hW ((Below.refl _ w2).alloc (Nat.le_refl _) (.cells #[.slice (some ⟨gs,0,none⟩) n.streams.length n.streams.length,.slice (some ⟨gw,0,none⟩) n.workers.length n.workers.length] 74)) (heap_alloc_new _ _)
  exact ⟨L,q2,q1,q3 hs (by have:=hb.size;omega)⟩
 have hb0:Below (w.heap.size+1) (w.alloc (.cells #[.slice sa n.streams.length sc,.slice ar n.sources.length cr,.slice aw n.workers.length cw] 26)) (w.alloc (.cells #[.slice sa n.streams.length sc,.slice ar n.sources.length cr,.slice aw n.workers.length cw] 26)):=Below.refl _ _
 have HB0:=hide hb0
 have HB00:=hide (below_box hb0)
 clear h1 h2 h3 hok hb0 HS0 HW0
 generalize n.sources.length=rl at *
 generalize n.streams.length=sl at *
 generalize n.workers.length=wl at *
 go_enter Tryz.func13,Tryz.ntmps13
 go_wp2_with fail
 refine (unhide HV _ HB00.out).mono ?_
 rintro e w0 ⟨rfl,hbv⟩
 have hbb:Below (w.heap.size+1) (w.alloc (.cells #[.slice sa sl sc,.slice ar rl cr,.slice aw wl cw] 26)) w0:=HB0.out.trans (hbv.mono (by simp))
 have t0:w0.heap[w.heap.size]? = some (.cells #[.slice sa sl sc,.slice ar rl cr,.slice aw wl cw] 26 (0,0)):=by
  rw [hbb.block _ (by omega)];exact heap_alloc_new _ _
 have y0:w0.cell? ⟨w.heap.size,0,none⟩=some (.slice sa sl sc):=row_cell t0 rfl
 have y1:w0.cell? ⟨w.heap.size,1,none⟩=some (.slice ar rl cr):=row_cell t0 rfl
 have y2:w0.cell? ⟨w.heap.size,2,none⟩=some (.slice aw wl cw):=row_cell t0 rfl
 clear t0 hbv
 go_wp2
 go_region_held3 (fun w'=>w'.cell? ⟨w.heap.size,0,none⟩=some (.slice sa sl sc)∧w'.cell? ⟨w.heap.size,1,none⟩=some (.slice ar rl cr)∧w'.cell? ⟨w.heap.size,2,none⟩=some (.slice aw wl cw)) (go_keep)
  (first
   | (go_at_call 24;refine (unhide HS _ ?_).mono ?_; (repeat (first | exact hbb | apply Below.drew | apply below_drewN));rintro e w1 ⟨gs,rfl,⟨s1,s2,s3⟩,hl2,hb1⟩;have HL2:=hide hl2;clear hl2)
   | (go_at_call 25;refine (unhide HW _ ?_).mono ?_; (repeat (first | exact hb1 | apply Below.drew | apply below_drewN));rintro e w2 ⟨gw,wb,VC,rfl,⟨r1,r2,r3⟩,hrw,hbw,hb2⟩;have HRW:=hide hrw;have HBW:=hide hbw;clear hrw hbw))
 have HX:=hide (HE.out w1 w2 gs gw wb VC (by have:=hb1.size;simp at this;omega) HL2.out HBW.out HRW.out)
 have HB2:=hide (below_box hb2)
 clear HE HL2 HBW HRW hb2 hb1 hbb s1 s2 s3 r1 r2 r3 y0 y1 y2
 go_wp2
 go_ret2
 obtain ⟨L,q1,q2,q3⟩:=HX.out
 exact ⟨L,by rw [q1];rfl,q2,q3,HB2.out.alloc HB2.out.size _⟩
end Go.Proofs.YthfdgdfnflilfaaGreatDoor

/- Part 27: Opens1, Opens2, Opens3, RefS4, RefS5, RefS6. -/
import Derived.Deep.Cut
import Derived.Test.YthfdgdfnflilfaaGreatDoorPart21
import Derived.Test.YthfdgdfnflilfaaGreatDoorPart22
import Derived.Test.YthfdgdfnflilfaaGreatDoorPart23
import Derived.Test.YthfdgdfnflilfaaGreatDoorPart24
namespace Go.Proofs.YthfdgdfnflilfaaGreatDoor
open Go.RowKit Go.Conc
def col4 (col:Nat→Nat) (n0 n1 n2 n3 cx cy:Nat):Nat→Nat:=fun b=>if b<n0 then col b else if b=n0 then 21 else if b<n1 then 20 else if b<n2 then cx else if b<n3 then cy else 8
theorem col4_old {col:Nat→Nat} {n0 n1 n2 n3 cx cy b:Nat} (h:b<n0):col4 col n0 n1 n2 n3 cx cy b=col b:=by simp [col4,h]
theorem col4_box {col:Nat→Nat} {n0 n1 n2 n3 cx cy:Nat}:col4 col n0 n1 n2 n3 cx cy n0=21:=by simp [col4]
theorem col4_loan {col:Nat→Nat} {n0 n1 n2 n3 cx cy b:Nat} (h:n0<b) (h1:b<n1):col4 col n0 n1 n2 n3 cx cy b=20:=by
 have e1:¬ b<n0:=by omega
 have e2:b≠n0:=by omega
 simp [col4,e1,e2,h1]
theorem col4_x {col:Nat→Nat} {n0 n1 n2 n3 cx cy b:Nat} (h0:n0<n1) (h:n1≤b) (h1:b<n2):col4 col n0 n1 n2 n3 cx cy b=cx:=by
 have e1:¬ b<n0:=by omega
 have e2:b≠n0:=by omega
 have e3:¬ b<n1:=by omega
 simp [col4,e1,e2,e3,h1]
theorem col4_y {col:Nat→Nat} {n0 n1 n2 n3 cx cy b:Nat} (h0:n0<n1) (h01:n1≤n2) (h:n2≤b) (h1:b<n3):col4 col n0 n1 n2 n3 cx cy b=cy:=by
 have e1:¬ b<n0:=by omega
 have e2:b≠n0:=by omega
 have e3:¬ b<n1:=by omega
 have e4:¬ b<n2:=by omega
 simp [col4,e1,e2,e3,e4,h1]
structure Opened (base:Nat) (col col':Nat→Nat) (w w':World):Prop where
 fr:Fr (fun b=>base≤b∧col b≤20) w w'
 old:∀ b,b<w.heap.size→20<col b→col' b=col b
 new:∀ b,w.heap.size≤b→col' b<90
def NetStays (base:Nat) (col:Nat→Nat) (w:World) (v:Value) (n:Net):Prop:=∀ wx,Fr (fun b=>base≤b∧col b<90) w wx→NetAt wx v n
theorem opens_back {base:Nat} {col:Nat→Nat} {w w1 w2 w3:World} {p:Nat} {v0:Value} {c:Nat} {n:Net} {vs vr vw:Value} {L:LoanL} (cx cy:Nat) (hcx9:cx<90) (hcy9:cy<90) (hb:Bk base col w p v0 c) (hn:NetStays base col w (.agg #[vs,vr,vw]) n) (hs:ShortNet n) (hc:c+n.sources.length+n.workers.length+3≤1099511627776)
  (hL:LoanAt (w.alloc (.cells #[vs,vr,vw] 26)).heap.size L w1 n) (hb1:Below (w.alloc (.cells #[vs,vr,vw] 26)).heap.size (w.alloc (.cells #[vs,vr,vw] 26)) w1) (hb2:Below w1.heap.size w1 w2) (hb3:Below w2.heap.size w2 w3) :
  Calls Tryz.prog 15 #[.pointer (some ⟨p,0,none⟩),.pointer (some ⟨L.q,0,none⟩),.agg #[vs,vr,vw]] w3 fun e w'=>e=.returned (.bool true)∧∃ col',Bk base col' w' p v0 (c+n.sources.length+n.workers.length+3)∧Opened base col col' w w' ∧
   Fr (fun b=>base≤b∧col4 col w.heap.size w1.heap.size w2.heap.size w3.heap.size cx cy b≤20) w3 w'∧(∀ b,w.heap.size≤b→b<w3.heap.size→20<col4 col w.heap.size w1.heap.size w2.heap.size w3.heap.size cx cy b→col' b=col4 col w.heap.size w1.heap.size w2.heap.size w3.heap.size cx cy b)∧(∀ b,w3.heap.size≤b→col' b<30)∧w'.heap[w.heap.size]? = some (.cells #[vs,vr,vw] 26 (0,0)):=by
 obtain ⟨cs,hp, -⟩:=hb.blk
 have hpl:=lt_of_blk hp
 have hbase:base≤w.heap.size:=Nat.le_trans hb.ge (Nat.le_of_lt hpl)
 have hsz0:(w.alloc (.cells #[vs,vr,vw] 26)).heap.size=w.heap.size+1:=by simp
 have hsz1:w.heap.size<w1.heap.size:=by have:=hb1.size;rw [hsz0] at this;omega
 have hsz2:=hb2.size
 have hsz3:=hb3.size
 have hbl:Below w.heap.size w w3:=(((Below.refl _ _).alloc (Nat.le_refl _) _).trans (hb1.mono (by rw [hsz0];omega))).trans ((hb2.mono (by omega)).trans (hb3.mono (by omega)))
 have hbx:w3.heap[w.heap.size]? = some (.cells #[vs,vr,vw] 26 (0,0)):=by
  rw [hb3.block _ (by omega),hb2.block _ (by omega),hb1.block _ (by rw [hsz0];omega)];exact heapNew rfl
 have hL3:LoanAt (w.alloc (.cells #[vs,vr,vw] 26)).heap.size L w3 n:=(hL.below hb2).below hb3
 have hB3:Bk base (col4 col w.heap.size w1.heap.size w2.heap.size w3.heap.size cx cy) w3 p v0 c:=hb.frame (fun b h _=>hbl.block b h) (fun b h _=>col4_old h) (fun b h=>by rw [col4_old (by omega)];exact hb.low b h) hbl.size (Nat.le_refl _)
 have hle:∀ b,b<w.heap.size→col4 col w.heap.size w1.heap.size w2.heap.size w3.heap.size cx cy b≤20→col b≤20:=fun b h h'=>by rw [col4_old h] at h';exact h'
 have hc9:∀ b,w.heap.size≤b→col4 col w.heap.size w1.heap.size w2.heap.size w3.heap.size cx cy b<90:=fun b h=>by
  unfold col4
  repeat' split
  all_goals omega
 refine (returned_calls hB3 hL3 (by omega) (fun b hf=>?_) (fun wx hx=>?_) hs hc).mono fun e w' ⟨q1,col',q2,q3⟩=>⟨q1,fun b=>if w.heap.size≤b∧90≤col' b then 20 else col' b,?_,⟨?_,fun b h h'=>?_,fun b h=>?_⟩,q3.fr,fun b h h' h''=>?_,fun b h=>?_,?_⟩
 ·obtain ⟨h1,h2⟩:=hL.foot_lt hf
  exact col4_loan (by omega) h2
 ·refine hn wx ((Fr.of_below hbl).trans hx fun b h h'=>⟨h'.1,?_⟩)
  have:=hle b h h'.2
  omega
 ·refine q2.frame (fun b _ _=>rfl) (fun b h h8=>by rw [if_neg (by omega)]) (fun b h=>?_) (Nat.le_refl _) (Nat.le_refl _)
  rw [if_neg (by omega)];exact q2.low b h
 ·exact (Fr.of_below hbl).trans q3.fr fun b h h'=>⟨h'.1,hle b h h'.2⟩
 ·rw [if_neg (by omega),q3.old b (by have:=hbl.size;omega) (by rw [col4_old h];exact h'),col4_old h]
 ·split<;>omega
 ·have e:=q3.old b h' h''
  have h9:=hc9 b h
  dsimp only
  rw [if_neg (by rw [e];omega)];exact e
 ·have:=q3.new b h
  show (if w.heap.size≤b∧90≤col' b then 20 else col' b)<30
  split<;>omega
 ·rw [q3.fr.block _ (by omega) (fun e=>by have:=e.2;rw [col4_box] at this;omega)]
  exact hbx
theorem Lentd.form {w:World} {g:Nat} {u:Value} {l:List Int} (h:Lentd w g u l):∃ a c,u=.slice a l.length c:=by
 rcases h.val with hu | ⟨rfl,hu⟩
 ·exact ⟨_,_,hu⟩
 ·exact ⟨none,0,hu⟩
theorem lent_open {n:Net} {v:Value} {w:World} (hn:NetAt w v n) (hs:ShortNet n) :
  Calls Tryz.prog 12 #[v] w fun e w'=>∃ (L:LoanL) (ra:Option Addr) (rc:Nat),e=.returned (.pointer (some ⟨L.q,0,none⟩))∧LoanAt w.heap.size L w' n∧Below w.heap.size w w' ∧
   w'.cell? ⟨L.q,0,none⟩=some (.slice ra n.streams.length rc)∧w'.cell? ⟨L.q,1,none⟩=some (.slice (some ⟨L.gr,0,none⟩) n.sources.length (n.sources.length+1))∧w'.cell? ⟨L.q,2,none⟩=some (.slice (some ⟨L.gw,0,none⟩) n.workers.length (n.workers.length+1)) ∧
   NetAt w' (.agg #[.slice ra n.streams.length rc,.slice (some ⟨L.gr,0,none⟩) n.sources.length (n.sources.length+1),.slice (some ⟨L.gw,0,none⟩) n.workers.length (n.workers.length+1)]) n:=by
 refine (lent_calls hn hs).mono fun e w' ⟨L,q1,q2,q3⟩=>?_
 obtain ⟨ra,rc,hr⟩:=q2.str.form
 have hnet:=q2.net hs
 have hblk:=q2.blk
 rw [hr] at hnet hblk
 exact ⟨L,ra,rc,q1,q2,q3,(blk_cell (l:=[_,_,_,_,_,_,_,_]) hblk 0 _ rfl).1,(blk_cell (l:=[_,_,_,_,_,_,_,_]) hblk 1 _ rfl).1,(blk_cell (l:=[_,_,_,_,_,_,_,_]) hblk 2 _ rfl).1,hnet⟩
set_option maxRecDepth 100000 in
set_option maxHeartbeats 4000000 in
theorem opens_plain {base:Nat} {col:Nat→Nat} {w:World} {p:Nat} {v0:Value} {c:Nat} {n:Net} {v:Value} (hb:Bk base col w p v0 c) (hn:NetStays base col w v n) (hs:ShortNet n) (hc:c+n.sources.length+n.workers.length+3≤1099511627776) (add:Bool) (ha:add=true→validB n=false) :
  Calls Tryz.prog 8 #[.pointer (some ⟨p,0,none⟩),v,.bool add] w fun e w'=>e=.returned (.bool true)∧∃ col',Bk base col' w' p v0 (c+n.sources.length+n.workers.length+3)∧Opened base col col' w w':=by
 have hnw:=hn w (Fr.refl _ _)
 obtain ⟨vs,vr,vw,rfl,h1,h2,h3⟩:=hnw
 obtain ⟨sa,sc,rfl⟩:=h1.form
 obtain ⟨ar,cr,rfl⟩:=h2.form
 obtain ⟨aw,cw,rfl⟩:=h3.form
 have hNt:∀ wx,Below w.heap.size w wx→NetAt wx (.agg #[.slice sa n.streams.length sc,.slice ar n.sources.length cr,.slice aw n.workers.length cw]) n:=fun wx hx=>NetAt.below ⟨_,_,_,rfl,h1,h2,h3⟩ hx
 have hb0:Below w.heap.size w (w.alloc (.cells #[.slice sa n.streams.length sc,.slice ar n.sources.length cr,.slice aw n.workers.length cw] 26)):=(Below.refl _ _).alloc (Nat.le_refl _) _
 have HLe:=hide (lent_open (hNt _ hb0) hs)
 have hsz0:(w.alloc (.cells #[.slice sa n.streams.length sc,.slice ar n.sources.length cr,.slice aw n.workers.length cw] 26)).heap.size=w.heap.size+1:=by simp
 have HNw:Hid (∀ wx u,NetAt wx u n→Calls Tryz.prog 13 #[u] wx fun e w'=>∃ (x:Option Addr) (en:Int),e=.returned (.tuple #[.pointer x,.int .i64 en])∧x.isSome=validB n∧(en=if validB n=true then 0 else 1)∧Below wx.heap.size wx w'):=fun wx u hu=>by
  cases hok:validB n
  ·exact (new_out hu hok).mono fun e w' ⟨q1,q2⟩=>⟨none,1,q1,rfl,rfl,q2⟩
  ·exact (has_new hu hok).mono fun e w' ⟨x,q1,_,q2⟩=>⟨some ⟨x,0,none⟩,0,q1,rfl,rfl,q2⟩
 have HRw:Hid (∀ wx,Below w.heap.size w wx→Calls Tryz.prog 14 #[.agg #[.slice sa n.streams.length sc,.slice ar n.sources.length cr,.slice aw n.workers.length cw]] wx fun e w'=>∃ y:Option Addr,e=.returned (.pointer y)∧y.isSome=validB n∧Below wx.heap.size wx w'):=fun wx hx=>by
  cases hok:validB n
  ·exact (refNew_out (hNt wx hx) hok).mono fun e w' ⟨q1,q2⟩=>⟨none,q1,rfl,q2⟩
  ·exact (refNew_calls (hNt wx hx) (Below.refl _ _) hs hok).mono fun e w' ⟨x,q1,_,q2⟩=>⟨some ⟨x,0,none⟩,q1,rfl,q2⟩
 have HBk:Hid (∀ L w1 w2 w3,LoanAt (w.alloc (.cells #[.slice sa n.streams.length sc,.slice ar n.sources.length cr,.slice aw n.workers.length cw] 26)).heap.size L w1 n→Below (w.alloc (.cells #[.slice sa n.streams.length sc,.slice ar n.sources.length cr,.slice aw n.workers.length cw] 26)).heap.size (w.alloc (.cells #[.slice sa n.streams.length sc,.slice ar n.sources.length cr,.slice aw n.workers.length cw] 26)) w1→Below w1.heap.size w1 w2→Below w2.heap.size w2 w3 →
   Calls Tryz.prog 15 #[.pointer (some ⟨p,0,none⟩),.pointer (some ⟨L.q,0,none⟩),.agg #[.slice sa n.streams.length sc,.slice ar n.sources.length cr,.slice aw n.workers.length cw]] w3 fun e w'=>e=.returned (.bool true)∧∃ col',Bk base col' w' p v0 (c+n.sources.length+n.workers.length+3)∧Opened base col col' w w'):=fun L w1 w2 w3 hL q1 q2 q3=>
  (opens_back 22 22 (by decide) (by decide) hb hn hs hc hL q1 q2 q3).mono fun e w' ⟨r1,col',r2,r3,_⟩=>⟨r1,col',r2,r3⟩
 clear h1 h2 h3 hNt hb hn
 have HB0:=hide hb0
 clear hb0
 generalize hok:validB n=ok at *
 clear hok
 go_enter Tryz.func8,Tryz.ntmps8
 go_wp2_with fail
 refine (unhide HLe).mono ?_
 rintro e w1 ⟨L,ra,rc,rfl,hL,hb1,c0,c1,c2,hnet⟩
 have hsz1:w.heap.size<w1.heap.size:=by have:=hb1.size;rw [hsz0] at this;omega
 have t1:w1.heap[w.heap.size]? = some (.cells #[.slice sa n.streams.length sc,.slice ar n.sources.length cr,.slice aw n.workers.length cw] 26 (0,0)):=by
  rw [hb1.block _ (by rw [hsz0];omega)];exact heapNew rfl
 have HNw1:=hide (HNw.out w1 _ hnet)
 have HBk1:=hide (fun w2 w3=>HBk.out L w1 w2 w3 hL hb1)
 have HB1:Hid (Below w.heap.size w w1):=HB0.out.trans (hb1.mono (by rw [hsz0];omega))
 have T1:=hide t1
 clear hL hb1 hnet t1 HLe HNw HBk HB0
 go_wp2_with fail
 refine (unhide HNw1).mono ?_
 rintro e w2 ⟨x,en,rfl,hx,hen,hb2⟩
 have HEn:=hide hen
 have HX:=hide hx
 have hsz2:w.heap.size<w2.heap.size:=by have:=hb2.size;omega
 have t2:=(hb2.block _ hsz1).trans T1.out
 obtain ⟨z0, -⟩:=blk_cell (l:=[_,_,_]) t2 0 _ rfl
 obtain ⟨z1, -⟩:=blk_cell (l:=[_,_,_]) t2 1 _ rfl
 obtain ⟨z2, -⟩:=blk_cell (l:=[_,_,_]) t2 2 _ rfl
 have HRw1:=hide (HRw.out w2 (HB1.out.trans (hb2.mono (by omega))))
 have HBk2:=hide (fun w3=>HBk1.out w2 w3 hb2)
 have T2:=hide t2
 clear hb2 t2 HNw1 HBk1 HRw T1 c0 c1 c2 hen hx
 go_wp2_with fail
 refine (unhide HRw1).mono ?_
 rintro e w3 ⟨y,rfl,hy,hb3⟩
 have HY:=hide hy
 have t3:=(hb3.block _ hsz2).trans T2.out
 obtain ⟨z0, -⟩:=blk_cell (l:=[_,_,_]) t3 0 _ rfl
 obtain ⟨z1, -⟩:=blk_cell (l:=[_,_,_]) t3 1 _ rfl
 obtain ⟨z2, -⟩:=blk_cell (l:=[_,_,_]) t3 2 _ rfl
 have HBk3:=hide (HBk2.out w3 hb3)
 clear hb3 t3 HRw1 HBk2 T2 hy
 go_wp2_with fail
 refine (unhide HBk3).mono ?_
 rintro e w4 ⟨rfl,hfin⟩
 have HFin:=hide hfin
 clear hfin HBk3 z0 z1 z2
 have hx:=HX.out
 have hy:=HY.out
 have hen:=HEn.out
 clear HX HY HEn
 cases ok
 ·simp only [Bool.false_eq_true,if_false] at hen
  have hx':x=none:=by cases x;rfl;cases hx
  have hy':y=none:=by cases y;rfl;cases hy
  subst hx' hy' hen
  clear ha hx hy
  cases add
  ·go_wp2
   go_ret
   exact ⟨rfl,HFin.out⟩
  ·go_wp2
   go_ret
   exact ⟨rfl,HFin.out⟩
 ·have ha':add=false:=by cases add;rfl;exact absurd (ha rfl) (by decide)
  subst ha'
  obtain ⟨x,rfl⟩:=Option.isSome_iff_exists.1 hx
  obtain ⟨y,rfl⟩:=Option.isSome_iff_exists.1 hy
  simp only [if_true] at hen
  subst hen
  clear ha hx hy
  go_wp2
  go_ret
  exact ⟨rfl,HFin.out⟩
theorem Has.turn {A A':Nat→Prop} {p:Nat} {N:Net} {R:Rc} {w w':World} (h:Has A p N R w) (hk:∀ b,b<w.heap.size→¬ A b→w'.heap[b]? = w.heap[b]?) (ha:∀ b,b<w.heap.size→¬ A b→¬ A' b) (hlt:∀ b,A' b→b<w'.heap.size):Has A' p N R w':=by
 obtain ⟨L,h1,h2,h3⟩:=h.ex
 exact ⟨⟨L,h1,h2.frame fun b hb=>hk b (h2.foot_lt hb) (h3 b hb),fun b hb=>ha b (h2.foot_lt hb) (h3 b hb)⟩,hlt⟩
theorem RefAt.foot_lt {L:RLay} {w:World} {N:Net} {R:Rc} (h:RefAt L w N R) {b:Nat} (hb:RFoot L N b):b<w.heap.size:=by
 obtain ⟨cs,hs, -⟩:=h.rowS
 obtain ⟨ds,hw, -⟩:=h.rowW
 rcases hb with rfl | rfl | rfl | ⟨s,hs',hb⟩
 ·exact lt_of_blk h.blk
 ·exact lt_of_blk hs
 ·exact lt_of_blk hw
 ·exact ((h.words s hs').lt b hb).2
theorem RefAt.frame {L:RLay} {w w':World} {N:Net} {R:Rc} (h:RefAt L w N R) (hk:∀ b,RFoot L N b→w'.heap[b]? = w.heap[b]?) (hc:∀ k,k<N.workers.length→CodeAt w' (L.VC k) (codeOf N k)):RefAt L w' N R:=by
 obtain ⟨cs,hs,hs2⟩:=h.rowS
 obtain ⟨ds,hw,hw2⟩:=h.rowW
 exact ⟨(hk _ (Or.inl rfl)).trans h.blk,⟨cs,(hk _ (Or.inr (Or.inl rfl))).trans hs,hs2⟩,⟨ds,(hk _ (Or.inr (Or.inr (Or.inl rfl)))).trans hw,hw2⟩,fun s hs'=>own_of_blockB (h.words s hs') fun g hg=>hk g (Or.inr (Or.inr (Or.inr ⟨s,hs',hg⟩))),h.inj,hc,h.lenW,h.lenS,h.le,h.place,h.ok⟩
theorem RHas.turn {wz:World} {A A':Nat→Prop} {p:Nat} {N:Net} {R:Rc} {w w':World} (h:RHas wz A p N R w) (hk:∀ b,b<w.heap.size→¬ A b→w'.heap[b]? = w.heap[b]?) (ha:∀ b,b<w.heap.size→¬ A b→¬ A' b) (hlt:∀ b,A' b→b<w'.heap.size) (hz:Below wz.heap.size wz w'):RHas wz A' p N R w':=by
 obtain ⟨L,h1,h2,h3,h4⟩:=h.ex
 exact ⟨⟨L,h1,h2.frame (fun b hb=>hk b (h2.foot_lt hb) (h3 b hb)) (fun k hk=>(h4 k hk).below hz),fun b hb=>ha b (h2.foot_lt hb) (h3 b hb),h4⟩,hlt⟩
theorem Tryz.infoSd:(Tryz.prog.info? 50).map (fun i=>(i.zero,i.size,i.bytes))=some (some (.pointer none),1,8):=by kernel_rfl
theorem BkM.set0 {md:Nat→Nat} {base:Nat} {col:Nat→Nat} {w:World} {p:Nat} {v0:Value} {c:Nat} (h:BkM md base col w p v0 c) (v:Value):BkM md base col (w.setCell ⟨p,0,none⟩ v) p v c:=by
 obtain ⟨cs,hp,hl⟩:=h.blk
 have hb:=blk_set hp 0 v
 refine ⟨⟨_,hb,by simpa using hl⟩,h.colp,h.ge,?_,fun r h1 h7=>?_,h.low⟩
 ·exact (blk_cell hb 0 v (by rw [List.getElem?_set_self (by omega)])).1
 ·refine (h.rows r h1 h7).frame ?_ (fun b hb' hx=>?_) (fun _ _ _=>rfl) (by simp) (Nat.le_refl _)
  ·exact World.cell?_setCell_other _ _ _ _ (fun e=>by injection e;omega)
  ·exact heap_setCell_other _ _ _ _ (fun e=>by rw [e,h.colp] at hx;omega)
structure Added (oz:Option World) (base:Nat) (col:Nat→Nat) (w:World) (p c cx cy:Nat) (n:Net) (v:Value) (vals:List Value) (w':World):Prop where
 ex:∃ col' v0' sd x y vs vr vw,v=.agg #[vs,vr,vw]∧Bk base col' w' p v0' c∧w'.ownsRow base 50 1 v0' (vals.length+1) (vals++[.pointer (some ⟨sd,0,none⟩)])∧(∀ g,v0'.ownBlock=some g→col' g=24)∧col' sd=25∧w.heap.size≤sd∧w'.heap[sd]? = some (.cells #[.pointer (some ⟨x,0,none⟩),.pointer (some ⟨y,0,none⟩),vs,vr,vw] 49 (0,0)) ∧
  Has (fun b=>b<w'.heap.size∧col' b≠cx) x n (initR n n.streams) w'∧(∀ wz,oz=some wz→RHas wz (fun b=>b<w'.heap.size∧col' b≠cy) y n (initR n n.streams) w')∧Fr (fun b=>base≤b∧(col b≤20∨col b=24)) w w'∧(∀ b,b<w.heap.size→20<col b→col' b=col b)∧(∀ b,w.heap.size≤b→col' b<90)
theorem opens_last {base:Nat} {col col4:Nat→Nat} {w w4:World} {p:Nat} {av:Option Addr} {cv:Nat} {c cx cy x y:Nat} {n:Net} {vs vr vw:Value} {vals:List Value} {oz:Option World} (hcx:29<cx) (hcy:29<cy) (hb:Bk base col4 w4 p (.slice av vals.length cv) c) (hrow:w.ownsRow base 50 1 (.slice av vals.length cv) vals.length vals)
  (hv0:∀ g,(Value.slice av vals.length cv).ownBlock=some g→col g=24) (ho:Opened base col col4 w w4) (hx:Has (fun b=>b<w4.heap.size∧col4 b≠cx) x n (initR n n.streams) w4) (hy:∀ wz,oz=some wz→RHas wz (fun b=>b<w4.heap.size∧col4 b≠cy) y n (initR n n.streams) w4∧Below wz.heap.size wz w∧wz.heap.size≤base) :
  w4.cell? ⟨p,0,none⟩=some (.slice av vals.length cv)∧w4.ownsRow base 50 1 (.slice av vals.length cv) vals.length vals∧base≤w4.heap.size∧p<w4.heap.size ∧
   ∀ w5 gr gcap,w5.ownsRow base 50 1 (.slice (some ⟨gr,0,none⟩) (vals.length+1) gcap) (vals.length+1) (vals++[.pointer (some ⟨w4.heap.size,0,none⟩)]) →
    ((w4.alloc (.cells #[.pointer (some ⟨x,0,none⟩),.pointer (some ⟨y,0,none⟩),vs,vr,vw] 49)).alloc (.cells #[.pointer (some ⟨w4.heap.size,0,none⟩)] 50)).drew.grownBy w5 (Value.slice av vals.length cv).ownBlock→((Value.slice av vals.length cv).ownBlock=some gr∨gr=w4.heap.size+2) →
    (w5.cell? ⟨p,0,none⟩=some (.slice av vals.length cv)∧w5.frozen? ⟨p,0,none⟩=false)∧Added oz base col w p c cx cy n (.agg #[vs,vr,vw]) vals (w5.setCell ⟨p,0,none⟩ (.slice (some ⟨gr,0,none⟩) (vals.length+1) gcap)):=by
 obtain ⟨cs,hp,hl⟩:=hb.blk
 have hpl:=lt_of_blk hp
 have hge:=hb.ge
 have hvl:∀ g,(Value.slice av vals.length cv).ownBlock=some g→g<w.heap.size:=fun g hg=>(hrow.lt g hg).2
 have hv4:∀ g,(Value.slice av vals.length cv).ownBlock=some g→col4 g=24:=fun g hg=>(ho.old g (hvl g hg) (by rw [hv0 g hg];omega)).trans (hv0 g hg)
 have hvp:(Value.slice av vals.length cv).ownBlock≠some p:=fun e=>by have:=hv4 p e;rw [hb.colp] at this;omega
 have hsz4:=ho.fr.size
 refine ⟨hb.c0,own_of_blockB hrow fun g hg=>ho.fr.block g (hvl g hg) (fun e=>by have:=hv0 g hg;omega),by omega,hpl,fun w5 gr gcap h1 h2 h3=>?_⟩
 have hgl:gr<w5.heap.size:=(h1.lt gr rfl).2
 have hA:∀ b,b<w4.heap.size→(Value.slice av vals.length cv).ownBlock≠some b→w5.heap[b]? = w4.heap[b]? := fun b hb' hne=>by
  rw [h2.block b (by simp;omega) (fun e=>hne e.symm)]
  show ((w4.alloc _).alloc _).heap[b]? = _
  rw [Below.heap_alloc _ _ _ (by simp;omega),Below.heap_alloc _ _ _ hb']
 have hsd:w5.heap[w4.heap.size]? = some (.cells #[.pointer (some ⟨x,0,none⟩),.pointer (some ⟨y,0,none⟩),vs,vr,vw] 49 (0,0)):=by
  rw [h2.block _ (by simp;omega) (fun e=>by have:=hvl _ e.symm;omega)]
  show ((w4.alloc _).alloc _).heap[_]? = _
  rw [Below.heap_alloc _ _ _ (by simp)];exact heapNew rfl
 have hsz5:w4.heap.size+2≤w5.heap.size:=by have:=h2.size;simpa using this
 have hp5:=hA p hpl hvp
 refine ⟨⟨(World.cell?_of_block (w:=w4) hp5).trans hb.c0,row_frozen (hp5.trans hp) 0⟩,?_⟩
 let col5:Nat→Nat:=fun b=>if b<w4.heap.size then col4 b else if b=w4.heap.size then 25 else if b=gr then 24 else 22
 have k1:∀ b,b<w4.heap.size→col5 b=col4 b:=fun b h=>by simp [col5,h]
 have k2:col5 w4.heap.size=25:=by simp [col5]
 have k3:∀ b,w4.heap.size≤b→col5 b<30:=fun b h=>by
  show (if b<w4.heap.size then col4 b else if b=w4.heap.size then 25 else if b=gr then 24 else 22)<30
  rw [if_neg (by omega)]
  split
  ·omega
  ·split<;>omega
 have kg:col5 gr=24:=by
  rcases h3 with h3 | h3
  ·exact (k1 gr (by have:=hvl gr h3;omega)).trans (hv4 gr h3)
  ·have e1:¬ gr<w4.heap.size:=by omega
   have e2:gr≠w4.heap.size:=by omega
   simp [col5,e1,e2]
 have hgp:gr≠p:=fun e=>by rw [e,k1 p hpl,hb.colp] at kg;omega
 have hbk5:Bk base col5 w5 p (.slice av vals.length cv) c:=hb.frame (fun b h h8=>hA b h (fun e=>by have:=hv4 b e;omega)) (fun b h _=>k1 b h) (fun b h=>by rw [k1 b (by omega)];exact hb.low b h) (by omega) (Nat.le_refl _)
 have hot:∀ b,b≠p→(w5.setCell ⟨p,0,none⟩ (.slice (some ⟨gr,0,none⟩) (vals.length+1) gcap)).heap[b]? = w5.heap[b]? := fun b h=>heap_setCell_other _ _ _ _ h
 have hpcol:col p≤20∨w.heap.size≤p:=by
  rcases Nat.lt_or_ge p w.heap.size with h | h
  ·left
   rcases Nat.lt_or_ge 20 (col p) with h' | h'
   ·have:=ho.old p h h';rw [hb.colp] at this;omega
   ·exact h'
  ·exact Or.inr h
 have hfr:Fr (fun b=>base≤b∧(col b≤20∨col b=24)) w (w5.setCell ⟨p,0,none⟩ (.slice (some ⟨gr,0,none⟩) (vals.length+1) gcap)):=by
  have f4:Fr (fun b=>base≤b∧(col b≤20∨col b=24)) w w4:=ho.fr.mono fun b _ h=>⟨h.1,Or.inl h.2⟩
  have f5:=((f4.alloc (.cells #[.pointer (some ⟨x,0,none⟩),.pointer (some ⟨y,0,none⟩),vs,vr,vw] 49)).alloc (.cells #[.pointer (some ⟨w4.heap.size,0,none⟩)] 50)).drewN 1
  refine (f5.grown h2 fun k hk=>Or.inr ⟨?_,Or.inr (hv0 k hk)⟩).setCell (p:=⟨p,0,none⟩) ?_ _
  ·exact (hrow.lt k hk).1
  ·rcases hpcol with h | h
   ·exact Or.inr ⟨hge,Or.inl h⟩
   ·exact Or.inl h
 refine ⟨col5,_,w4.heap.size,x,y,vs,vr,vw,rfl,hbk5.set0 _,own_of_blockB h1 fun g hg=>?_,fun g hg=>?_,k2,hsz4,?_,?_,fun wz ez=>?_,?_,fun b h h'=>?_,fun b h=>?_⟩
 ·have e:gr=g:=by simpa [Value.ownBlock] using hg
  exact hot g (by omega)
 ·have e:gr=g:=by simpa [Value.ownBlock] using hg
  rw [← e];exact kg
 ·rw [hot _ (by omega)];exact hsd
 ·refine hx.turn (fun b h h'=>?_) (fun b h h' h''=>?_) (fun b h=>by have:=h.1;simpa using this)
  ·have hc:col4 b=cx:=Classical.byContradiction fun e=>h' ⟨h,e⟩
   rw [hot b (fun e=>by rw [e,hb.colp] at hc;omega)]
   exact hA b h (fun e=>by have:=hv4 b e;omega)
  ·have hc:col4 b=cx:=Classical.byContradiction fun e=>h' ⟨h,e⟩
   exact h''.2 ((k1 b h).trans hc)
 ·obtain ⟨hr,hz1,hz2⟩:=hy wz ez
  refine hr.turn (fun b h h'=>?_) (fun b h h' h''=>?_) (fun b h=>by have:=h.1;simpa using this) (hz1.trans ⟨hfr.os,hfr.tape,hfr.output,hfr.size,fun b h=>hfr.block b (by have:=hz1.size;omega) (fun e=>by have:=e.1;omega)⟩)
  ·have hc:col4 b=cy:=Classical.byContradiction fun e=>h' ⟨h,e⟩
   rw [hot b (fun e=>by rw [e,hb.colp] at hc;omega)]
   exact hA b h (fun e=>by have:=hv4 b e;omega)
  ·have hc:col4 b=cy:=Classical.byContradiction fun e=>h' ⟨h,e⟩
   exact h''.2 ((k1 b h).trans hc)
 ·exact hfr
 ·rw [k1 b (by omega)];exact ho.old b h h'
 ·rcases Nat.lt_or_ge b w4.heap.size with h' | h'
  ·rw [k1 b h'];exact ho.new b h
  ·have:=k3 b h';omega
set_option maxRecDepth 100000 in
set_option maxHeartbeats 4000000 in
theorem opens_add {base:Nat} {col:Nat→Nat} {w:World} {p:Nat} {v0:Value} {c:Nat} {n:Net} {v:Value} {vals:List Value} (oz:Option World) (cx cy:Nat) (hcx:29<cx) (hcx9:cx<90) (hcy:29<cy) (hcy9:cy<90) (hb:Bk base col w p v0 c) (hrow:w.ownsRow base 50 1 v0 vals.length vals) (hv0:∀ g,v0.ownBlock=some g→col g=24) (hvn:vals.length≤1048576)
  (hn:NetStays base col w v n) (hs:ShortNet n) (hc:c+n.sources.length+n.workers.length+3≤1099511627776) (hok:validB n=true) (hoz:∀ wz,oz=some wz→NetAt wz v n∧Below wz.heap.size wz w∧wz.heap.size≤base) :
  Calls Tryz.prog 8 #[.pointer (some ⟨p,0,none⟩),v,.bool true] w fun e w'=>e=.returned (.bool true)∧Added oz base col w p (c+n.sources.length+n.workers.length+3) cx cy n v vals w':=by
 obtain ⟨av,cv,rfl⟩:=own_slice hrow
 have hnw:=hn w (Fr.refl _ _)
 obtain ⟨vs,vr,vw,rfl,h1,h2,h3⟩:=hnw
 obtain ⟨sa,sc,rfl⟩:=h1.form
 obtain ⟨ar,cr,rfl⟩:=h2.form
 obtain ⟨aw,cw,rfl⟩:=h3.form
 obtain ⟨iP,hiP,hP0,hP1,hP2⟩:=info_parts Tryz.infoSd
 have hNt:∀ wx,Below w.heap.size w wx→NetAt wx (.agg #[.slice sa n.streams.length sc,.slice ar n.sources.length cr,.slice aw n.workers.length cw]) n:=fun wx hx=>NetAt.below ⟨_,_,_,rfl,h1,h2,h3⟩ hx
 have hb0:Below w.heap.size w (w.alloc (.cells #[.slice sa n.streams.length sc,.slice ar n.sources.length cr,.slice aw n.workers.length cw] 26)):=(Below.refl _ _).alloc (Nat.le_refl _) _
 have HLe:=hide (lent_open (hNt _ hb0) hs)
 have hsz0:(w.alloc (.cells #[.slice sa n.streams.length sc,.slice ar n.sources.length cr,.slice aw n.workers.length cw] 26)).heap.size=w.heap.size+1:=by simp
 have HNw:Hid (∀ wx u,NetAt wx u n→Calls Tryz.prog 13 #[u] wx fun e w'=>∃ x,e=.returned (.tuple #[.pointer (some ⟨x,0,none⟩),.int .i64 0])∧Has (fun b=>b<wx.heap.size) x n (initR n n.streams) w'∧Below wx.heap.size wx w'):=fun wx u hu=>has_new hu hok
 have HRw:Hid (∀ wx,Below w.heap.size w wx→Calls Tryz.prog 14 #[.agg #[.slice sa n.streams.length sc,.slice ar n.sources.length cr,.slice aw n.workers.length cw]] wx fun e w'=>∃ q,e=.returned (.pointer (some ⟨q,0,none⟩))∧(∀ wz,oz=some wz→RHas wz (fun b=>b<wx.heap.size) q n (initR n n.streams) w')∧Below wx.heap.size wx w'):=fun wx hx=>by
  cases oz with
  | none=>exact (refNew_calls (hNt wx hx) (Below.refl _ _) hs hok).mono fun e w' ⟨x,q1,_,q2⟩=>⟨x,q1,(fun wz ez=>by cases ez),q2⟩
  | some wz=>
   obtain ⟨z1,z2,z3⟩:=hoz wz rfl
   exact (refNew_calls z1 (z2.trans (hx.mono z2.size)) hs hok).mono fun e w' ⟨x,q1,q3,q2⟩=>⟨x,q1,(fun wz ez=>by cases ez;exact q3),q2⟩
 have HBk:Hid (∀ L w1 w2 w3 x y,LoanAt (w.alloc (.cells #[.slice sa n.streams.length sc,.slice ar n.sources.length cr,.slice aw n.workers.length cw] 26)).heap.size L w1 n→Below (w.alloc (.cells #[.slice sa n.streams.length sc,.slice ar n.sources.length cr,.slice aw n.workers.length cw] 26)).heap.size (w.alloc (.cells #[.slice sa n.streams.length sc,.slice ar n.sources.length cr,.slice aw n.workers.length cw] 26)) w1→Below w1.heap.size w1 w2→Has (fun b=>b<w1.heap.size) x n (initR n n.streams) w2→Below w2.heap.size w2 w3→(∀ wz,oz=some wz→RHas wz (fun b=>b<w2.heap.size) y n (initR n n.streams) w3) →
   Calls Tryz.prog 15 #[.pointer (some ⟨p,0,none⟩),.pointer (some ⟨L.q,0,none⟩),.agg #[.slice sa n.streams.length sc,.slice ar n.sources.length cr,.slice aw n.workers.length cw]] w3 fun e w4=>e=.returned (.bool true)∧w4.heap[w.heap.size]? = some (.cells #[.slice sa n.streams.length sc,.slice ar n.sources.length cr,.slice aw n.workers.length cw] 26 (0,0)) ∧
    w4.cell? ⟨p,0,none⟩=some (.slice av vals.length cv)∧w4.ownsRow base 50 1 (.slice av vals.length cv) vals.length vals∧base≤w4.heap.size∧p<w4.heap.size ∧
   ∀ w5 gr gcap,w5.ownsRow base 50 1 (.slice (some ⟨gr,0,none⟩) (vals.length+1) gcap) (vals.length+1) (vals++[.pointer (some ⟨w4.heap.size,0,none⟩)]) →
    ((w4.alloc (.cells #[.pointer (some ⟨x,0,none⟩),.pointer (some ⟨y,0,none⟩),.slice sa n.streams.length sc,.slice ar n.sources.length cr,.slice aw n.workers.length cw] 49)).alloc (.cells #[.pointer (some ⟨w4.heap.size,0,none⟩)] 50)).drew.grownBy w5 (Value.slice av vals.length cv).ownBlock→((Value.slice av vals.length cv).ownBlock=some gr∨gr=w4.heap.size+2) →
    (w5.cell? ⟨p,0,none⟩=some (.slice av vals.length cv)∧w5.frozen? ⟨p,0,none⟩=false)∧Added oz base col w p (c+n.sources.length+n.workers.length+3) cx cy n (.agg #[.slice sa n.streams.length sc,.slice ar n.sources.length cr,.slice aw n.workers.length cw]) vals (w5.setCell ⟨p,0,none⟩ (.slice (some ⟨gr,0,none⟩) (vals.length+1) gcap))):=fun L w1 w2 w3 x y hL q1 q2 hx q3 hy=>by
  have z1:w.heap.size<w1.heap.size:=by have:=q1.size;rw [hsz0] at this;omega
  have z2:=q2.size
  have z3:=q3.size
  refine (opens_back cx cy hcx9 hcy9 hb hn hs hc hL q1 q2 q3).mono fun e w' ⟨r1,col',r2,r3,r4,r5,_,r7⟩=>⟨r1,r7,?_⟩
  have hc4:∀ b,w1.heap.size≤b→b<w2.heap.size→col' b=cx:=fun b h h'=>by
   have e:=col4_x (col:=col) (n3:=w3.heap.size) (cx:=cx) (cy:=cy) z1 h h'
   rw [r5 b (by omega) (by omega) (by rw [e];omega),e]
  have hd4:∀ b,w2.heap.size≤b→b<w3.heap.size→col' b=cy:=fun b h h'=>by
   have e:=col4_y (col:=col) (n3:=w3.heap.size) (cx:=cx) (cy:=cy) z1 z2 h h'
   rw [r5 b (by omega) (by omega) (by rw [e];omega),e]
  refine opens_last hcx hcy r2 hrow hv0 r3 (hx.turn (fun b h h'=>?_) (fun b h h' h''=>h''.2 (hc4 b (by omega) h)) (fun b h=>h.1)) (fun wz ez=>?_)
  rotate_left
  ·obtain ⟨-,y2,y3⟩:=hoz wz ez
   refine ⟨(hy wz ez).turn (fun b h h'=>?_) (fun b h h' h''=>h''.2 (hd4 b (by omega) h)) (fun b h=>h.1) (y2.trans ⟨r3.fr.os,r3.fr.tape,r3.fr.output,r3.fr.size,fun b h=>r3.fr.block b (by have:=y2.size;omega) (fun e=>by have:=e.1;omega)⟩),y2,y3⟩
   have e:=col4_y (col:=col) (n3:=w3.heap.size) (cx:=cx) (cy:=cy) z1 z2 (show w2.heap.size≤b by omega) h
   exact r4.block b h (fun k=>by have:=k.2;rw [e] at this;omega)
  have e:=col4_x (col:=col) (n3:=w3.heap.size) (cx:=cx) (cy:=cy) z1 (show w1.heap.size≤b by omega) h
  rw [r4.block b (by omega) (fun k=>by have:=k.2;rw [e] at this;omega),q3.block b h]
 clear h1 h2 h3 hNt hb hn hrow hv0 hok hoz
 have HB0:=hide hb0
 clear hb0
 have h63:vals.length+1≤maxLen:=by unfold maxLen;omega
 have hbytes:(vals.length+1)*8≤140737488355328:=by omega
 generalize vals.length=vn at *
 generalize c+n.sources.length+n.workers.length+3=cc at *
 go_enter Tryz.func8,Tryz.ntmps8
 go_wp2_with fail
 refine (unhide HLe).mono ?_
 rintro e w1 ⟨L,ra,rc,rfl,hL,hb1,c0,c1,c2,hnet⟩
 have hsz1:w.heap.size<w1.heap.size:=by have:=hb1.size;rw [hsz0] at this;omega
 have t1:w1.heap[w.heap.size]? = some (.cells #[.slice sa n.streams.length sc,.slice ar n.sources.length cr,.slice aw n.workers.length cw] 26 (0,0)):=by
  rw [hb1.block _ (by rw [hsz0];omega)];exact heapNew rfl
 have HNw1:=hide (HNw.out w1 _ hnet)
 have HBk1:=hide (fun w2 w3 x y=>HBk.out L w1 w2 w3 x y hL hb1)
 have HB1:Hid (Below w.heap.size w w1):=HB0.out.trans (hb1.mono (by rw [hsz0];omega))
 have T1:=hide t1
 clear hL hb1 hnet t1 HLe HNw HBk HB0
 go_wp2_with fail
 refine (unhide HNw1).mono ?_
 rintro e w2 ⟨x,rfl,hx,hb2⟩
 have hsz2:w.heap.size<w2.heap.size:=by have:=hb2.size;omega
 have t2:=(hb2.block _ hsz1).trans T1.out
 obtain ⟨z0, -⟩:=blk_cell (l:=[_,_,_]) t2 0 _ rfl
 obtain ⟨z1, -⟩:=blk_cell (l:=[_,_,_]) t2 1 _ rfl
 obtain ⟨z2, -⟩:=blk_cell (l:=[_,_,_]) t2 2 _ rfl
 have HRw1:=hide (HRw.out w2 (HB1.out.trans (hb2.mono (by omega))))
 have HBk2:=hide (fun w3 y=>HBk1.out w2 w3 x y hb2 hx)
 have T2:=hide t2
 clear hb2 t2 HNw1 HBk1 HRw T1 c0 c1 c2 hx
 go_wp2_with fail
 refine (unhide HRw1).mono ?_
 rintro e w3 ⟨y,rfl,hy,hb3⟩
 have t3:=(hb3.block _ hsz2).trans T2.out
 obtain ⟨z0, -⟩:=blk_cell (l:=[_,_,_]) t3 0 _ rfl
 obtain ⟨z1, -⟩:=blk_cell (l:=[_,_,_]) t3 1 _ rfl
 obtain ⟨z2, -⟩:=blk_cell (l:=[_,_,_]) t3 2 _ rfl
 have HBk3:=hide (HBk2.out w3 y hb3 hy)
 clear hb3 hy t3 HRw1 HBk2 T2
 go_wp2_with fail
 refine (unhide HBk3).mono ?_
 rintro e w4 ⟨rfl,t4,p0,hro,hbr,hpr,hfin⟩
 have HRo:=hide hro
 have HP6:=hide hfin
 clear hfin hro HBk3 z0 z1 z2
 obtain ⟨z0, -⟩:=blk_cell (l:=[_,_,_]) t4 0 _ rfl
 obtain ⟨z1, -⟩:=blk_cell (l:=[_,_,_]) t4 1 _ rfl
 obtain ⟨z2, -⟩:=blk_cell (l:=[_,_,_]) t4 2 _ rfl
 clear t4 HB1 hsz0 hsz1 hsz2 hs hvn hc hcx hcx9 hcy hcy9
 generalize hWA:((w4.alloc (.cells #[.pointer (some ⟨x,0,none⟩),.pointer (some ⟨y,0,none⟩),.slice sa n.streams.length sc,.slice ar n.sources.length cr,.slice aw n.workers.length cw] 49)).alloc (.cells #[.pointer (some ⟨w4.heap.size,0,none⟩)] 50)).drew=WA at *
 have HOw:Hid (WA.ownsRow base 50 1 (.slice av vn cv) vn vals):=hWA ▸ ((HRo.out.alloc _).alloc _)
 have HNn:Hid (∀ (k:Nat) (u:Value),([.pointer (some ⟨w4.heap.size,0,none⟩)]:List Value)[k]? = some u→WA.cell? ((⟨w4.heap.size+1,0,none⟩:Addr).add k)=some u):=fun k u hu=>by
  have:=cell_one_new (w4.alloc (.cells #[.pointer (some ⟨x,0,none⟩),.pointer (some ⟨y,0,none⟩),.slice sa n.streams.length sc,.slice ar n.sources.length cr,.slice aw n.workers.length cw] 49)) (.pointer (some ⟨w4.heap.size,0,none⟩)) 50 k u hu
  rw [World.size_alloc] at this
  exact hWA ▸ this
 have HOn:Hid (∀ u∈([.pointer (some ⟨w4.heap.size,0,none⟩)]:List Value),u.oneCell'=true):=fun u hu=>by simp at hu;subst hu;rfl
 have HSz:Hid (base≤WA.heap.size∧WA.heap.size=w4.heap.size+2):=hWA ▸ ⟨by simp;omega,by simp⟩
 have HF6:Hid (∀ w5 gr gcap,w5.ownsRow base 50 1 (.slice (some ⟨gr,0,none⟩) (vn+1) gcap) (vn+1) (vals++[.pointer (some ⟨w4.heap.size,0,none⟩)])→WA.grownBy w5 (Value.slice av vn cv).ownBlock→((Value.slice av vn cv).ownBlock=some gr∨gr=w4.heap.size+2)→(w5.cell? ⟨p,0,none⟩=some (.slice av vn cv)∧w5.frozen? ⟨p,0,none⟩=false)∧Added oz base col w p cc cx cy n (.agg #[.slice sa n.streams.length sc,.slice ar n.sources.length cr,.slice aw n.workers.length cw]) vals (w5.setCell ⟨p,0,none⟩ (.slice (some ⟨gr,0,none⟩) (vn+1) gcap))):=HP6.out
 subst hWA
 clear HP6 HRo
 go_wp2
 go_region_law (refine step_append_lies _ rfl (.tmp 56) (.tmp 62) 29 rfl base 50 iP (.pointer none) 1 8 Tryz.underlying29 hiP hP0 hP1 hP2 rfl (by decide) (.slice av vn cv) vn vals (by simp [Act.eval]) HOw.out ⟨w4.heap.size+1,0,none⟩ 1 1 [.pointer (some ⟨w4.heap.size,0,none⟩)] (by simp [Act.eval]) rfl HNn.out HOn.out (by decide) h63 hbytes HSz.out.1 (w4.heap.size+2) HSz.out.2 ?_;intro gq gc w5 ho hgr hor hglt;obtain ⟨⟨yc,yf⟩,yr⟩:=HF6.out w5 gq gc ho hgr hor;have YR:=hide yr;clear ho hgr hor hglt yr)
 all_goals
  go_wp2
  go_ret
  exact ⟨rfl,YR.out⟩
theorem RefAt.below {L:RLay} {w w':World} {N:Net} {R:Rc} (h:RefAt L w N R) (hb:Below w.heap.size w w'):RefAt L w' N R:=
 h.frame (fun b hf=>hb.block b (h.foot_lt hf)) (fun k hk=>(h.code k hk).below hb)
def putW (w:World) (g k:Nat) (v:Value) (x:Wk):World:=
 ((((((w.setCell ⟨g,k*7,none⟩ v).setCell ⟨g,k*7+1,none⟩ (.int .i64 x.place)).setCell ⟨g,k*7+2,none⟩ (.int .i64 (x.r 0))).setCell ⟨g,k*7+3,none⟩ (.int .i64 (x.r 1))).setCell ⟨g,k*7+4,none⟩ (.int .i64 (x.r 2))).setCell ⟨g,k*7+5,none⟩ (.int .i64 (x.r 3))).setCell ⟨g,k*7+6,none⟩ (.int .i64 x.steps)
theorem putW_other (w:World) (g k:Nat) (v:Value) (x:Wk) (b:Nat) (h:b≠g):(putW w g k v x).heap[b]? = w.heap[b]? := by
 unfold putW
 rw [heap_setCell_other _ _ _ _ h,heap_setCell_other _ _ _ _ h,heap_setCell_other _ _ _ _ h,heap_setCell_other _ _ _ _ h,heap_setCell_other _ _ _ _ h,heap_setCell_other _ _ _ _ h,heap_setCell_other _ _ _ _ h]
theorem putW_fr (w:World) (g k:Nat) (v:Value) (x:Wk):Fr (fun b=>b=g) w (putW w g k v x):=by
 unfold putW
 have f0:Fr (fun b=>b=g) w w:=Fr.refl _ w
 exact ((((((f0.setCell (p:=⟨g,k*7,none⟩) (Or.inr rfl) _).setCell (p:=⟨g,k*7+1,none⟩) (Or.inr rfl) _).setCell (p:=⟨g,k*7+2,none⟩) (Or.inr rfl) _).setCell (p:=⟨g,k*7+3,none⟩) (Or.inr rfl) _).setCell (p:=⟨g,k*7+4,none⟩) (Or.inr rfl) _).setCell (p:=⟨g,k*7+5,none⟩) (Or.inr rfl) _).setCell (p:=⟨g,k*7+6,none⟩) (Or.inr rfl) _
theorem RefAt.put {L:RLay} {w:World} {N:Net} {R:Rc} (h:RefAt L w N R) {k:Nat} (hk:k<N.workers.length) (x:Wk) (hpl:x.place≤(codeOf N k).length) (hcode:∀ j,j<N.workers.length→CodeAt (putW w L.gW k (L.VC k) x) (L.VC j) (codeOf N j)) :
  RefAt L (putW w L.gW k (L.VC k) x) N ⟨R.W.set k x,R.S⟩:=by
 obtain ⟨cs,hb,hc⟩:=h.rowW
 obtain ⟨ds,hd,hd2⟩:=h.rowS
 have hl:k*7+6<cs.length:=by
  have:=hc k hk 6 (by decide)
  exact (List.getElem?_eq_some_iff.1 (this.trans rfl)).1
 have hwk:(⟨R.W.set k x,R.S⟩:Rc).w k=x:=by
  have:k<R.W.length:=by rw [h.lenW];exact hk
  simp [Rc.w,List.getD,this]
 have hwo:∀ j,j≠k→(⟨R.W.set k x,R.S⟩:Rc).w j=R.w j:=fun j hj=>by
  simp only [Rc.w,List.getD]
  rw [List.getElem?_set_ne (fun e=>hj e.symm)]
 have hso:∀ s,(⟨R.W.set k x,R.S⟩:Rc).s s=R.s s:=fun s=>rfl
 refine ⟨?_,⟨ds,?_,hd2⟩,⟨_,blk_set7 hb k _ _ _ _ _ _ _,fun j hj i hi=>?_⟩,fun s hs=>?_,h.inj,hcode,by simpa using h.lenW,h.lenS,h.le,fun j hj=>?_,h.ok⟩
 ·rw [putW_other _ _ _ _ _ _ (ne_of_types h.blk hb (by decide))];exact h.blk
 ·rw [putW_other _ _ _ _ _ _ (ne_of_types hd hb (by decide))];exact hd
 ·by_cases e:j=k
  ·subst e
   rw [get7_same _ _ _ _ _ _ _ hl i hi,hwk];rfl
  ·rw [get7_other _ _ _ _ _ _ _ j i hi e,hwo j e];exact hc j hj i hi
 ·refine own_of_blockB (h.words s hs) fun g hg=>putW_other _ _ _ _ _ _ fun e=>?_
  exact own_ne_type (h.words s hs) hb (by decide) (e ▸ hg)
 ·by_cases e:j=k
  ·subst e;rw [hwk];exact hpl
  ·rw [hwo j e];exact h.place j hj
theorem RefAt.stream {L:RLay} {w w':World} {N:Net} {R:Rc} (h:RefAt L w N R) {s:Nat} (hs:s<N.streams.length) (vw':Value) (m':Sm) (cs':List Value)
  (hk:∀ b,RFoot L N b→b≠L.gS→(L.VW s).ownBlock≠some b→w'.heap[b]? = w.heap[b]?) (hgS:w'.heap[L.gS]? = some (.cells cs'.toArray 88 (0,0)))
  (hcs:∀ t,t<N.streams.length→∀ j,j<5→cs'[t*5+j]? = if t=s then (sCells N m' s vw')[j]? else (sCells N (R.s t) t (L.VW t))[j]?)
  (hown:w'.ownsRow 0 3 1 vw' m'.words.length (intRow m'.words)) (hinj:∀ t,t<N.streams.length→t≠s→∀ g,vw'.ownBlock=some g→(L.VW t).ownBlock≠some g) (hle:m'.read≤m'.words.length)
  (hcode:∀ j,j<N.workers.length→CodeAt w' (L.VC j) (codeOf N j)) :
  RefAt { L with VW:=fun t=>if t=s then vw' else L.VW t} w' N ⟨R.W,R.S.set s m'⟩:=by
 obtain ⟨ds,hd, -⟩:=h.rowS
 obtain ⟨es,he,he2⟩:=h.rowW
 have hlen:s<R.S.length:=by rw [h.lenS];exact hs
 have hss:(⟨R.W,R.S.set s m'⟩:Rc).s s=m':=by simp [Rc.s,List.getD,hlen]
 have hso:∀ t,t≠s→(⟨R.W,R.S.set s m'⟩:Rc).s t=R.s t:=fun t ht=>by
  simp only [Rc.s,List.getD]
  rw [List.getElem?_set_ne (fun e=>ht e.symm)]
 refine ⟨?_,⟨cs',hgS,fun t ht j hj=>?_⟩,⟨es,?_,he2⟩,fun t ht=>?_,fun t u ht hu htu g hg=>?_,hcode,h.lenW,by simpa using h.lenS,fun t ht=>?_,h.place,h.ok⟩
 ·exact (hk L.p (Or.inl rfl) (ne_of_types h.blk hd (by decide)) (own_ne_type (h.words s hs) h.blk (by decide))).trans h.blk
 ·rw [hcs t ht j hj]
  by_cases e:t=s
  ·subst e;rw [if_pos rfl,hss];simp
  ·rw [if_neg e,hso t e];simp [e]
 ·exact (hk L.gW (Or.inr (Or.inr (Or.inl rfl))) (ne_of_types he hd (by decide)) (own_ne_type (h.words s hs) he (by decide))).trans he
 ·by_cases e:t=s
  ·subst e;rw [hss];simpa using hown
  ·rw [hso t e]
   simp only [e,if_false]
   refine own_of_blockB (h.words t ht) fun g hg=>hk g (Or.inr (Or.inr (Or.inr ⟨t,ht,hg⟩))) (fun e'=>?_) (fun e'=>h.inj s t hs ht (fun x=>e x.symm) g e' hg)
   exact own_ne_type (h.words t ht) hd (by decide) (e' ▸ hg)
 ·by_cases e1:t=s
  ·subst e1
   have e2:u≠t:=fun e=>htu e.symm
   simp only [if_true] at hg
   simp only [e2,if_false]
   exact hinj u hu e2 g hg
  ·simp only [e1,if_false] at hg
   by_cases e2:u=s
   ·subst e2
    simp only [if_true]
    exact fun e3=>hinj t ht e1 g e3 hg
   ·simp only [e2,if_false]
    exact h.inj t u ht hu htu g hg
 ·by_cases e:t=s
  ·subst e;rw [hss];exact hle
  ·rw [hso t e];exact h.le t ht
theorem set5_get {cs:List Value} {s i:Nat} {v:Value} (hi:i<5) (hl:s*5+i<cs.length) (t j:Nat) (hj:j<5):(cs.set (s*5+i) v)[t*5+j]? = if t=s∧j=i then some v else cs[t*5+j]? := by
 by_cases e:t=s∧j=i
 ·obtain ⟨rfl,rfl⟩:=e
  rw [List.getElem?_set_self hl,if_pos ⟨rfl,rfl⟩]
 ·rw [if_neg e,List.getElem?_set_ne (by omega)]
structure RStep (L:RLay) (w:World) (N:Net) (S:Rc) (w':World):Prop where
 ex:∃ L',RefAt L' w' N S∧L'.p=L.p∧L'.gW=L.gW∧L'.VC=L.VC∧∀ b,RFoot L' N b→RFoot L N b∨w.heap.size≤b
 fr:Fr (RFoot L N) w w'
def RCodes (L:RLay) (w:World) (N:Net):Prop:=∀ wx,Fr (RFoot L N) w wx→∀ j,j<N.workers.length→CodeAt wx (L.VC j) (codeOf N j)
theorem RStep.of_below {L:RLay} {w w':World} {N:Net} {R:Rc} (h:RefAt L w N R) (hb:Below w.heap.size w w'):RStep L w N R w':=
 ⟨⟨L,h.below hb,rfl,rfl,rfl,fun _ hb=>Or.inl hb⟩,Fr.of_below hb⟩
theorem RStep.drew {L:RLay} {w w':World} {N:Net} {R:Rc} (h:RStep L w N R w'):RStep L w N R w'.drew:=by
 obtain ⟨L',h1,h2⟩:=h.ex
 exact ⟨⟨L',h1.below (Below.refl _ _).drew,h2⟩,h.fr.drewN 1⟩
theorem RStep.put {L:RLay} {w w':World} {N:Net} {R:Rc} (h:RStep L w N R w') (hc:RCodes L w N) {k:Nat} (hk:k<N.workers.length) (x:Wk) (hpl:x.place≤(codeOf N k).length):RStep L w N ⟨R.W.set k x,R.S⟩ (putW w' L.gW k (L.VC k) x):=by
 obtain ⟨L',h1,h2,h3,h4,h5⟩:=h.ex
 have hf:Fr (RFoot L N) w (putW w' L.gW k (L.VC k) x):=h.fr.trans (putW_fr _ _ _ _ _) fun b _ e=>by subst e;exact Or.inr (Or.inr (Or.inl rfl))
 refine ⟨⟨L',?_,h2,h3,h4,h5⟩,hf⟩
 have:=h1.put hk x hpl (fun j hj=>by rw [h3,h4];exact hc _ hf j hj)
 rw [h3,h4] at this
 exact this
set_option maxRecDepth 100000 in
set_option maxHeartbeats 4000000 in
theorem refStep_goto {L:RLay} {w:World} {N:Net} {R:Rc} (h:RefAt L w N R) (k:Nat) (hk:k<N.workers.length) (hst:stateOf N R k=1) (hco:RCodes L w N) (ia ib ic:Int) (hi:(codeOf N k)[(R.w k).place]? = some ⟨9,ia,ib,ic⟩) :
  Calls Tryz.prog 61 #[.pointer (some ⟨L.p,0,none⟩),.int .i64 k] w fun e w'=>e=.returned (.int .i64 1)∧RStep L w N (doStep N R k) w':=by
 have hval:=valid_ins h.ok hk (List.mem_of_getElem? hi)
 obtain ⟨hc0,hc1⟩:=valid_place hval (Or.inr (Or.inr rfl))
 dsimp only at hc0 hc1
 obtain ⟨ic,rfl⟩:=Int.eq_ofNat_of_zero_le hc0
 have HDo:Hid (doStep N R k=⟨R.W.set k ⟨ic,(R.w k).r,wrap64 ((R.w k).steps+1)⟩,R.S⟩):=by
  show doStep N R k=_
  unfold doStep insAt
  rw [hi]
  rfl
 have HPut:Hid (∀ w5,Below w.heap.size w w5→RStep L w N (doStep N R k) (putW w5 L.gW k (L.VC k) ⟨ic,(R.w k).r,wrap64 ((R.w k).steps+1)⟩).drew):=fun w5 hb=>by
  rw [HDo.out]
  exact ((RStep.of_below h hb).put hco hk ⟨ic,(R.w k).r,wrap64 ((R.w k).steps+1)⟩ (by show ic≤_;omega)).drew
 clear HDo hco hval hc0 hc1
 have HS:=hide (refState_calls h k hk)
 rw [hst] at HS
 have HH:Hid (∀ wx,Below w.heap.size w wx→RefAt L wx N R):=fun wx hx=>h.below hx
 clear h
 go_enter Tryz.func61,Tryz.ntmps61
 go_wp2_with fail
 refine (unhide HS).mono ?_
 rintro e w1 ⟨rfl,hb⟩
 have HR:=hide (HH.out w1 hb)
 have HB:=hide hb
 clear hb HS HH hst
 obtain ⟨p0, -⟩:=blk_cell (l:=[_,_]) HR.out.blk 0 _ rfl
 obtain ⟨p1, -⟩:=blk_cell (l:=[_,_]) HR.out.blk 1 _ rfl
 have x0:w1.cell? ⟨L.gW,k*7,none⟩=some (L.VC k):=HR.out.wc hk 0 _ (by decide) rfl
 have x1:=HR.out.wc hk 1 _ (by decide) rfl
 have x2:=HR.out.wc hk 2 _ (by decide) rfl
 have x3:=HR.out.wc hk 3 _ (by decide) rfl
 have x4:=HR.out.wc hk 4 _ (by decide) rfl
 have x5:=HR.out.wc hk 5 _ (by decide) rfl
 have x6:=HR.out.wc hk 6 _ (by decide) rfl
 obtain ⟨ca,cc,hvc,hc63,hccap,hcells⟩:=(HR.out.code k hk).openD
 have HV:=hide hvc
 rw [hvc] at x0
 have hpl:(R.w k).place<(codeOf N k).length:=(List.getElem?_eq_some_iff.1 hi).1
 have hgi:(codeOf N k).getD (R.w k).place ⟨0,0,0,0⟩=⟨9,ia,ib,ic⟩:=by rw [getD_eq _ _ _ hpl];exact (List.getElem?_eq_some_iff.1 hi).2
 obtain ⟨cb,co,rfl,hcb,hcell⟩:=hcells _ hpl
 obtain ⟨d0,d1,d2,d3⟩:=hcell w1 (Below.refl _ _)
 rw [hgi] at d0 d1 d2 d3
 dsimp only at d0 d1 d2 d3
 have hk0:(0:Int)≤(k:Int):=by omega
 have hk1:(k:Int)<(N.workers.length:Int):=by omega
 have hp0:(0:Int)≤((R.w k).place:Int):=by omega
 have hp1:((R.w k).place:Int)<((codeOf N k).length:Int):=by omega
 have z0:=lt_of_cell p0
 have z1:=lt_of_cell x0
 clear hcells hcell hgi hvc hi
 go_upto_region 33 with fail
 have hbx:((w1.alloc (.cells #[.slice (some ⟨cb,co,none⟩) (codeOf N k).length cc,.int .i64 (ic:Int),.int .i64 ((R.w k).r 0),.int .i64 ((R.w k).r 1),.int .i64 ((R.w k).r 2),.int .i64 ((R.w k).r 3),.int .i64 (wrap64 ((R.w k).steps+1))] 92)).alloc (.cells #[.int .i64 9,.int .i64 ia,.int .i64 ib,.int .i64 (ic:Int)] 44)).heap[w1.heap.size]? = some (.cells #[.slice (some ⟨cb,co,none⟩) (codeOf N k).length cc,.int .i64 (ic:Int),.int .i64 ((R.w k).r 0),.int .i64 ((R.w k).r 1),.int .i64 ((R.w k).r 2),.int .i64 ((R.w k).r 3),.int .i64 (wrap64 ((R.w k).steps+1))] 92 (0,0)):=heapOld (by simp) (heapNew rfl)
 have hbl:Below w1.heap.size w1 ((w1.alloc (.cells #[.slice (some ⟨cb,co,none⟩) (codeOf N k).length cc,.int .i64 (ic:Int),.int .i64 ((R.w k).r 0),.int .i64 ((R.w k).r 1),.int .i64 ((R.w k).r 2),.int .i64 ((R.w k).r 3),.int .i64 (wrap64 ((R.w k).steps+1))] 92)).alloc (.cells #[.int .i64 9,.int .i64 ia,.int .i64 ib,.int .i64 (ic:Int)] 44)):=((Below.refl _ _).alloc (Nat.le_refl _) _).alloc (by simp) _
 have hR5:=HR.out.below hbl
 generalize (w1.alloc (.cells #[.slice (some ⟨cb,co,none⟩) (codeOf N k).length cc,.int .i64 (ic:Int),.int .i64 ((R.w k).r 0),.int .i64 ((R.w k).r 1),.int .i64 ((R.w k).r 2),.int .i64 ((R.w k).r 3),.int .i64 (wrap64 ((R.w k).steps+1))] 92)).alloc (.cells #[.int .i64 9,.int .i64 ia,.int .i64 ib,.int .i64 (ic:Int)] 44)=w5 at *
 have HSx:Hid (w.heap.size≤w1.heap.size):=HB.out.size
 generalize w1.heap.size=xb at *
 clear p0 p1 x0 x1 x2 x3 x4 x5 x6 d0 d1 d2 d3 z0 z1
 obtain ⟨p1, -⟩:=blk_cell (l:=[_,_]) hR5.blk 1 _ rfl
 obtain ⟨y0, -⟩:=blk_cell (l:=[_,_,_,_,_,_,_]) hbx 0 _ rfl
 obtain ⟨y1, -⟩:=blk_cell (l:=[_,_,_,_,_,_,_]) hbx 1 _ rfl
 obtain ⟨y2, -⟩:=blk_cell (l:=[_,_,_,_,_,_,_]) hbx 2 _ rfl
 obtain ⟨y3, -⟩:=blk_cell (l:=[_,_,_,_,_,_,_]) hbx 3 _ rfl
 obtain ⟨y4, -⟩:=blk_cell (l:=[_,_,_,_,_,_,_]) hbx 4 _ rfl
 obtain ⟨y5, -⟩:=blk_cell (l:=[_,_,_,_,_,_,_]) hbx 5 _ rfl
 obtain ⟨y6, -⟩:=blk_cell (l:=[_,_,_,_,_,_,_]) hbx 6 _ rfl
 have x0:w5.cell? ⟨L.gW,k*7,none⟩=some (L.VC k):=hR5.wc hk 0 _ (by decide) rfl
 have x1:=hR5.wc hk 1 _ (by decide) rfl
 have x2:=hR5.wc hk 2 _ (by decide) rfl
 have x3:=hR5.wc hk 3 _ (by decide) rfl
 have x4:=hR5.wc hk 4 _ (by decide) rfl
 have x5:=hR5.wc hk 5 _ (by decide) rfl
 have x6:=hR5.wc hk 6 _ (by decide) rfl
 obtain ⟨cs,hbW, -⟩:=hR5.rowW
 have f0:w5.frozen? ⟨L.gW,k*7,none⟩=false:=row_frozen hbW _
 have f1:=row_frozen hbW (k*7+1)
 have f2:=row_frozen hbW (k*7+2)
 have f3:=row_frozen hbW (k*7+3)
 have f4:=row_frozen hbW (k*7+4)
 have f5:=row_frozen hbW (k*7+5)
 have f6:=row_frozen hbW (k*7+6)
 have H5:=hide hR5
 have HX5:=hide hbx
 have HL5:=hide hbl
 clear hbW hR5 hbx hbl
 refine wp_region_still_tail 7 Tryz.mixed (by kernel_rfl) ?_
 simp only [List.take_succ_cons,List.take_zero,List.drop_succ_cons,List.drop_zero]
 iterate 7 still_step
 refine wpStill_nil ?_
 show wpList _ _ _ _ _ w5.drew
 go_wp2
 go_ret
 refine ⟨rfl,?_⟩
 have:=HPut.out w5 (HB.out.trans (HL5.out.mono HSx.out))
 rw [HV.out] at this
 exact this
end Go.Proofs.YthfdgdfnflilfaaGreatDoor

/- Part 13: Workers8, Race1, Make1, Make2, Lent2, Race2. -/
import Derived.StillTailTactics
import Derived.Test.YthfdgdfnflilfaaGreatDoorPart5
import Derived.Test.YthfdgdfnflilfaaGreatDoorPart10
import Derived.Test.YthfdgdfnflilfaaGreatDoorPart11
namespace Go.Proofs.YthfdgdfnflilfaaGreatDoor
open Go.RowKit Go.Conc
def StepWrite (w:World) (b:Nat) (vc:Value) (code:List Ins) (x:Wk) (i:Ins) (st:Nat→Nat) (VW:Nat→Value) (CH:Nat→Option Nat) (M:Nat→Sm) (e:Ending) (w':World):Prop:=
 (e=.returned (.int .i64 3)∧CH i.b.toNat≠none∧(M i.b.toNat).room≤(M i.b.toNat).words.length-(M i.b.toNat).read∧Below w.heap.size w w') ∨
 (e=.returned (.int .i64 1)∧¬ (CH i.b.toNat≠none∧(M i.b.toNat).room≤(M i.b.toNat).words.length-(M i.b.toNat).read)∧WkAt w' b vc code (nextW x i none) ∧
  ∃ vw',(∀ g,vw'.ownBlock=some g→(VW i.b.toNat).ownBlock=some g∨w.heap.size≤g) ∧
  StAt w' (st i.b.toNat) vw' (CH i.b.toNat) false { M i.b.toNat with words:=(M i.b.toNat).words++[x.r i.a.toNat]} ∧
  Fr (fun k=>k=b∨k=st i.b.toNat∨(VW i.b.toNat).ownBlock=some k∨CH i.b.toNat=some k) w w')
theorem put_calls {w:World} {b:Nat} {vw:Value} {ch:Option Nat} {m:Sm} (x:Int) (h:StAt w b vw ch false m) (hsm:m.words.length<4398046511104) :
  Calls Tryz.prog 79 #[.pointer (some ⟨b,0,none⟩),.int .i64 x] w fun e w'=>Puts w b vw ch m x e w':=by
 cases ch with
 | none=>exact put_none x h hsm
 | some c=>exact put_some x h hsm
set_option maxRecDepth 100000 in
set_option maxHeartbeats 2000000 in
theorem wstep_write_no {w:World} {b:Nat} {vc va:Value} {code:List Ins} {x:Wk} {n:Nat} {st:Nat→Nat} (hw:WkAt w b vc code x) {VW:Nat→Value} {CH:Nat→Option Nat} {SRC:Nat→Bool} {M:Nat→Sm} (he:Env w va n st VW CH SRC M) (i:Ins) (hi:code[x.place]? = some i) (hok:opsValid i code.length n=true) (ho:i.op=2) (hsrc:SRC i.b.toNat=false) (hsm2:(M i.b.toNat).words.length<4398046511104) (hcs:CH i.b.toNat≠none∧(M i.b.toNat).room≤(M i.b.toNat).words.length-(M i.b.toNat).read) :
  Calls Tryz.prog 48 #[.pointer (some ⟨b,0,none⟩),va] w fun e w'=>StepWrite w b vc code x i st VW CH M e w':=by
 obtain ⟨c0,c1, -, -, -, -, -, -⟩:=hw.cells
 obtain ⟨a,cap,hvc,hcap,hcode⟩:=code_form hw.own
 have hle:=hw.le
 have hsm:=hw.small
 have hlt:x.place<code.length:=(List.getElem?_eq_some_iff.1 hi).1
 have hie:code[x.place]=i:=(List.getElem?_eq_some_iff.1 hi).2
 obtain ⟨g,ha',d0,d1,d2,d3⟩:=hcode x.place hlt
 rw [hie] at d0 d1 d2 d3
 have HE:=hide he
 obtain ⟨ga,gcap,rfl,hgl,hal⟩:=along_at he.along
 have HAL:=hide hal
 clear hal
 have HOK:=hide hok
 obtain ⟨op,ia,ib,ic⟩:=i
 dsimp only at *
 have hrg:=valid_reg hok (by dsimp only;omega)
 have hstm:=valid_stream hok (by dsimp only;omega)
 dsimp only at hrg hstm
 subst ho
 obtain ⟨hr0,hr1⟩:=hrg
 obtain ⟨ka,rfl⟩:=Int.eq_ofNat_of_zero_le hr0
 obtain ⟨hb0,hb1⟩:=hstm
 obtain ⟨kb,rfl⟩:=Int.eq_ofNat_of_zero_le hb0
 have hka:ka<4:=by omega
 have hkb:kb<n:=by omega
 simp only [Int.toNat_natCast] at hsrc hsm2 hcs
 have HCS:=hide hcs
 clear hcs
 have HW:=hide hw
 have hd0:decide ((code.length:Int)≤(x.place:Int))=false:=by simp;omega
 have hp0:(0:Int)≤(x.place:Int):=by omega
 have hp1:(x.place:Int)<(code.length:Int):=by omega
 rw [hvc,ha'] at c0
 have wrp:IntKind.i64.wrap ((x.place:Int)+1)=(x.place:Int)+1:=by rw [IntKind.wrap_i64];omega
 have HLT:=hide hlt
 clear hcode hok hi hie hle hw he
 go_enter Tryz.func48,Tryz.ntmps48
 go_wp2
 refine wp_scope_ahead 3 ?_
 generalize hJ:jumpQ Tryz.prog _ _ 3=J
 have HJ:=hide hJ
 clear hJ
 go_wp2
 go_quiet (fail)
 go_wp2
 obtain ⟨w1,hw1⟩:∃ w1,w1=w.drewN nq:=⟨_,rfl⟩
 rw [← hw1]
 have hcell:∀ p,w1.cell? p=w.cell? p:=fun p=>by rw [hw1];rfl
 rw [← hcell] at c0 c1 d0 d1 d2 d3
 clear hcell
 have hbl:Below w.heap.size w w1:=by rw [hw1];exact below_drewN (Below.refl _ _) _
 clear hw1
 have n0:=World.new_ne w1 _ c0
 have n2:=World.new_ne w1 _ d0
 go_region_held3 (fun w'=>w'.cell? ⟨b,0,none⟩=some (.slice (some ⟨g,0,none⟩) code.length cap)∧w'.cell? ⟨b,1,none⟩=some (.int .i64 x.place)∧w'.cell? ⟨g,x.place*4,none⟩=some (.int .i64 2)∧w'.cell? ⟨g,x.place*4+1,none⟩=some (.int .i64 ka)∧w'.cell? ⟨g,x.place*4+2,none⟩=some (.int .i64 kb)∧w'.cell? ⟨g,x.place*4+3,none⟩=some (.int .i64 ic)) (go_keep) (fail)
 clear wrp
 have hbl2:Below w.heap.size w (w1.alloc (.cells #[.int .i64 2,.int .i64 ka,.int .i64 kb,.int .i64 ic] 44)).drew:=(hbl.alloc hbl.size _).drew
 have a0:(w1.alloc (.cells #[.int .i64 2,.int .i64 ka,.int .i64 kb,.int .i64 ic] 44)).drew.cell? ⟨w1.heap.size,0,none⟩=some (.int .i64 2):=by simp [go_sem]
 have a1:(w1.alloc (.cells #[.int .i64 2,.int .i64 ka,.int .i64 kb,.int .i64 ic] 44)).drew.cell? ⟨w1.heap.size,1,none⟩=some (.int .i64 ka):=by simp [go_sem]
 have a2:(w1.alloc (.cells #[.int .i64 2,.int .i64 ka,.int .i64 kb,.int .i64 ic] 44)).drew.cell? ⟨w1.heap.size,2,none⟩=some (.int .i64 kb):=by simp [go_sem]
 have a3:(w1.alloc (.cells #[.int .i64 2,.int .i64 ka,.int .i64 kb,.int .i64 ic] 44)).drew.cell? ⟨w1.heap.size,3,none⟩=some (.int .i64 ic):=by simp [go_sem]
 have HNE:Hid (b≠w1.heap.size):=fun e=>n0 e.symm
 have HAB:Hid ((w1.alloc (.cells #[.int .i64 2,.int .i64 ka,.int .i64 kb,.int .i64 ic] 44)).drew.heap[w1.heap.size]? = some (.cells #[.int .i64 2,.int .i64 ka,.int .i64 kb,.int .i64 ic] 44 (0,0))):=heap_alloc_new _ _
 have HS12:Hid (w1.heap.size<(w1.alloc (.cells #[.int .i64 2,.int .i64 ka,.int .i64 kb,.int .i64 ic] 44)).drew.heap.size):=by unfold Hid;simp
 generalize (w1.alloc (.cells #[.int .i64 2,.int .i64 ka,.int .i64 kb,.int .i64 ic] 44)).drew=w2 at *
 clear c0 c1 d0 d1 d2 d3 n0 n2
 have hw2:=HW.out.below hbl2
 obtain ⟨c0,c1,c2,c3,c4,c5,c6,cf⟩:=hw2.cells
 have f1:=cf 1
 have f6:=cf 6
 have HCF:=hide cf
 have HF2:Hid (Fr (fun k=>k=b) w w2):=Fr.of_below hbl2
 have HW2:=hide hw2
 clear cf hw2
 go_wp2
 refine wp_goto ?_
 show J (.goto 1) _ _
 rw [← HJ.out]
 refine ⟨_,rfl,?_⟩
 clear HJ
 generalize hJ1:jumpQ Tryz.prog _ _ 2=J1
 have HJ1:=hide hJ1
 clear hJ1
 have da:=HAL.out w2 hbl2 kb hkb
 have HT:=hide (((unhide HE).at' kb hkb).below hbl2)
 rw [hsrc] at HT
 have cr:=HW2.out.regCell ka hka
 have hk0:(0:Int)≤(ka:Int):=by omega
 have hk1:(ka:Int)<4:=by omega
 have hkb0:(0:Int)≤(kb:Int):=by omega
 have hkb1:(kb:Int)<(n:Int):=by omega
 obtain ⟨v,hv⟩:∃ v,v=x.r ka:=⟨_,rfl⟩
 rw [← hv] at cr
 have HVV:=hide hv
 clear hv
 have HP:Hid (∀ wx,Below w2.heap.size w2 wx→Calls Tryz.prog 79 #[.pointer (some ⟨st kb,0,none⟩),.int .i64 v] wx fun e w'=>e=.returned (.bool false)∧w'=wx):=fun wx hx=>
  (put_calls v (HT.out.below hx) hsm2).mono fun e w' h=>by
   rcases h with ⟨_,h1,_⟩ | ⟨h1,_,_,h2⟩
   ·exact absurd (h1 HCS.out.1) (by have:=HCS.out.2;omega)
   ·exact ⟨h1,h2⟩
 go_wp2
 go_region_held3 (fun w'=>w'.cell? ⟨w1.heap.size,1,none⟩=some (.int .i64 ka)∧w'.cell? ⟨w1.heap.size,2,none⟩=some (.int .i64 kb)∧w'.cell? ⟨ga,kb,none⟩=some (.pointer (some ⟨st kb,0,none⟩))∧w'.cell? ⟨b,2+ka,none⟩=some (.int .i64 v)) (go_keep) ((go_at_call 79;refine (unhide HP _ ?_).mono ?_; (repeat (first | exact Below.refl _ _ | apply Below.drew | apply below_drewN));rintro e w3 ⟨rfl,rfl⟩))
 go_wp2
 rw [← HJ1.out]
 refine jumpQ_ret ?_
 go_ret
 refine Or.inl ⟨rfl,?_,?_,hbl2.drew⟩
 ·simpa using HCS.out.1
 ·simpa using HCS.out.2
set_option maxRecDepth 100000 in
set_option maxHeartbeats 2000000 in
theorem wstep_write_yes {w:World} {b:Nat} {vc va:Value} {code:List Ins} {x:Wk} {n:Nat} {st:Nat→Nat} (hw:WkAt w b vc code x) {VW:Nat→Value} {CH:Nat→Option Nat} {SRC:Nat→Bool} {M:Nat→Sm} (he:Env w va n st VW CH SRC M) (i:Ins) (hi:code[x.place]? = some i) (hok:opsValid i code.length n=true) (ho:i.op=2) (hsrc:SRC i.b.toNat=false) (hsm2:(M i.b.toNat).words.length<4398046511104) (hcs:¬ (CH i.b.toNat≠none∧(M i.b.toNat).room≤(M i.b.toNat).words.length-(M i.b.toNat).read)) :
  Calls Tryz.prog 48 #[.pointer (some ⟨b,0,none⟩),va] w fun e w'=>StepWrite w b vc code x i st VW CH M e w':=by
 obtain ⟨c0,c1, -, -, -, -, -, -⟩:=hw.cells
 obtain ⟨a,cap,hvc,hcap,hcode⟩:=code_form hw.own
 have hle:=hw.le
 have hsm:=hw.small
 have hlt:x.place<code.length:=(List.getElem?_eq_some_iff.1 hi).1
 have hie:code[x.place]=i:=(List.getElem?_eq_some_iff.1 hi).2
 obtain ⟨g,ha',d0,d1,d2,d3⟩:=hcode x.place hlt
 rw [hie] at d0 d1 d2 d3
 have HE:=hide he
 obtain ⟨ga,gcap,rfl,hgl,hal⟩:=along_at he.along
 have HAL:=hide hal
 clear hal
 have HOK:=hide hok
 obtain ⟨op,ia,ib,ic⟩:=i
 dsimp only at *
 have hrg:=valid_reg hok (by dsimp only;omega)
 have hstm:=valid_stream hok (by dsimp only;omega)
 dsimp only at hrg hstm
 subst ho
 obtain ⟨hr0,hr1⟩:=hrg
 obtain ⟨ka,rfl⟩:=Int.eq_ofNat_of_zero_le hr0
 obtain ⟨hb0,hb1⟩:=hstm
 obtain ⟨kb,rfl⟩:=Int.eq_ofNat_of_zero_le hb0
 have hka:ka<4:=by omega
 have hkb:kb<n:=by omega
 simp only [Int.toNat_natCast] at hsrc hsm2 hcs
 have HCS:=hide hcs
 clear hcs
 have HW:=hide hw
 have hd0:decide ((code.length:Int)≤(x.place:Int))=false:=by simp;omega
 have hp0:(0:Int)≤(x.place:Int):=by omega
 have hp1:(x.place:Int)<(code.length:Int):=by omega
 rw [hvc,ha'] at c0
 have wrp:IntKind.i64.wrap ((x.place:Int)+1)=(x.place:Int)+1:=by rw [IntKind.wrap_i64];omega
 have HLT:=hide hlt
 clear hcode hok hi hie hle hw he
 go_enter Tryz.func48,Tryz.ntmps48
 go_wp2
 refine wp_scope_ahead 3 ?_
 generalize hJ:jumpQ Tryz.prog _ _ 3=J
 have HJ:=hide hJ
 clear hJ
 go_wp2
 go_quiet (fail)
 go_wp2
 obtain ⟨w1,hw1⟩:∃ w1,w1=w.drewN nq:=⟨_,rfl⟩
 rw [← hw1]
 have hcell:∀ p,w1.cell? p=w.cell? p:=fun p=>by rw [hw1];rfl
 rw [← hcell] at c0 c1 d0 d1 d2 d3
 clear hcell
 have hbl:Below w.heap.size w w1:=by rw [hw1];exact below_drewN (Below.refl _ _) _
 clear hw1
 have n0:=World.new_ne w1 _ c0
 have n2:=World.new_ne w1 _ d0
 go_region_held3 (fun w'=>w'.cell? ⟨b,0,none⟩=some (.slice (some ⟨g,0,none⟩) code.length cap)∧w'.cell? ⟨b,1,none⟩=some (.int .i64 x.place)∧w'.cell? ⟨g,x.place*4,none⟩=some (.int .i64 2)∧w'.cell? ⟨g,x.place*4+1,none⟩=some (.int .i64 ka)∧w'.cell? ⟨g,x.place*4+2,none⟩=some (.int .i64 kb)∧w'.cell? ⟨g,x.place*4+3,none⟩=some (.int .i64 ic)) (go_keep) (fail)
 clear wrp
 have hbl2:Below w.heap.size w (w1.alloc (.cells #[.int .i64 2,.int .i64 ka,.int .i64 kb,.int .i64 ic] 44)).drew:=(hbl.alloc hbl.size _).drew
 have a0:(w1.alloc (.cells #[.int .i64 2,.int .i64 ka,.int .i64 kb,.int .i64 ic] 44)).drew.cell? ⟨w1.heap.size,0,none⟩=some (.int .i64 2):=by simp [go_sem]
 have a1:(w1.alloc (.cells #[.int .i64 2,.int .i64 ka,.int .i64 kb,.int .i64 ic] 44)).drew.cell? ⟨w1.heap.size,1,none⟩=some (.int .i64 ka):=by simp [go_sem]
 have a2:(w1.alloc (.cells #[.int .i64 2,.int .i64 ka,.int .i64 kb,.int .i64 ic] 44)).drew.cell? ⟨w1.heap.size,2,none⟩=some (.int .i64 kb):=by simp [go_sem]
 have a3:(w1.alloc (.cells #[.int .i64 2,.int .i64 ka,.int .i64 kb,.int .i64 ic] 44)).drew.cell? ⟨w1.heap.size,3,none⟩=some (.int .i64 ic):=by simp [go_sem]
 have HNE:Hid (b≠w1.heap.size):=fun e=>n0 e.symm
 have HAB:Hid ((w1.alloc (.cells #[.int .i64 2,.int .i64 ka,.int .i64 kb,.int .i64 ic] 44)).drew.heap[w1.heap.size]? = some (.cells #[.int .i64 2,.int .i64 ka,.int .i64 kb,.int .i64 ic] 44 (0,0))):=heap_alloc_new _ _
 have HS12:Hid (w1.heap.size<(w1.alloc (.cells #[.int .i64 2,.int .i64 ka,.int .i64 kb,.int .i64 ic] 44)).drew.heap.size):=by unfold Hid;simp
 generalize (w1.alloc (.cells #[.int .i64 2,.int .i64 ka,.int .i64 kb,.int .i64 ic] 44)).drew=w2 at *
 clear c0 c1 d0 d1 d2 d3 n0 n2
 have hw2:=HW.out.below hbl2
 obtain ⟨c0,c1,c2,c3,c4,c5,c6,cf⟩:=hw2.cells
 have f1:=cf 1
 have f6:=cf 6
 have HCF:=hide cf
 have HF2:Hid (Fr (fun k=>k=b) w w2):=Fr.of_below hbl2
 have HW2:=hide hw2
 clear cf hw2
 go_wp2
 refine wp_goto ?_
 show J (.goto 1) _ _
 rw [← HJ.out]
 refine ⟨_,rfl,?_⟩
 clear HJ
 generalize hJ1:jumpQ Tryz.prog _ _ 2=J1
 have HJ1:=hide hJ1
 clear hJ1
 have da:=HAL.out w2 hbl2 kb hkb
 have HT:=hide (((unhide HE).at' kb hkb).below hbl2)
 rw [hsrc] at HT
 have cr:=HW2.out.regCell ka hka
 have hk0:(0:Int)≤(ka:Int):=by omega
 have hk1:(ka:Int)<4:=by omega
 have hkb0:(0:Int)≤(kb:Int):=by omega
 have hkb1:(kb:Int)<(n:Int):=by omega
 obtain ⟨v,hv⟩:∃ v,v=x.r ka:=⟨_,rfl⟩
 rw [← hv] at cr
 have HVV:=hide hv
 clear hv
 have hsb:=HT.out.blk
 have nb1:b≠st kb:=ne_of_types HW2.out.blk hsb (by decide)
 have nb2:∀ c,CH kb=some c→b≠c:=fun c hc=>by
  obtain ⟨⟨s,r,h1⟩,_⟩:=HT.out.chan c hc
  exact ne_of_chan HW2.out.blk h1
 have nb3:∀ c,(VW kb).ownBlock=some c→b≠c:=fun c hc=>by
  obtain ⟨cur,h1⟩:=own_block HT.out.own hc
  exact ne_of_types HW2.out.blk h1 (by decide)
 have na1:w1.heap.size≠st kb:=ne_of_types HAB.out hsb (by decide)
 have na2:∀ c,CH kb=some c→w1.heap.size≠c:=fun c hc=>by
  obtain ⟨⟨s,r,h1⟩,_⟩:=HT.out.chan c hc
  exact ne_of_chan HAB.out h1
 have na3:∀ c,(VW kb).ownBlock=some c→w1.heap.size≠c:=fun c hc=>by
  obtain ⟨cur,h1⟩:=own_block HT.out.own hc
  exact ne_of_types HAB.out h1 (by decide)
 have no1:∀ y,vc.ownBlock=some y→y≠st kb:=fun y hy=>by
  obtain ⟨cur,h1⟩:=own_block HW2.out.own hy
  exact ne_of_types h1 hsb (by decide)
 have no2:∀ y,vc.ownBlock=some y→∀ c,CH kb=some c→y≠c:=fun y hy c hc=>by
  obtain ⟨cur,h1⟩:=own_block HW2.out.own hy
  obtain ⟨⟨s,r,h2⟩,_⟩:=HT.out.chan c hc
  exact ne_of_chan h1 h2
 have no3:∀ y,vc.ownBlock=some y→∀ c,(VW kb).ownBlock=some c→y≠c:=fun y hy c hc=>by
  obtain ⟨cur,h1⟩:=own_block HW2.out.own hy
  obtain ⟨cur',h2⟩:=own_block HT.out.own hc
  exact ne_of_types h1 h2 (by decide)
 have hga:∃ cs:List Value,w2.heap[ga]? = some (.cells cs.toArray 70 (0,0))∧cs[kb]? = some (.pointer (some ⟨st kb,0,none⟩)):=by
  obtain ⟨⟨g',cap',hv',cs,hg',hcs'⟩, -⟩:=((unhide HE).below hbl2).along
  cases hv'
  exact ⟨cs,hg',hcs' kb hkb⟩
 obtain ⟨gcs,hgb,hgk⟩:=hga
 have ng1:ga≠st kb:=ne_of_types hgb hsb (by decide)
 have ng2:∀ c,CH kb=some c→ga≠c:=fun c hc=>by
  obtain ⟨⟨s,r,h1⟩,_⟩:=HT.out.chan c hc
  exact ne_of_chan hgb h1
 have ng3:∀ c,(VW kb).ownBlock=some c→ga≠c:=fun c hc=>by
  obtain ⟨cur,h1⟩:=own_block HT.out.own hc
  exact ne_of_types hgb h1 (by decide)
 have HN:=hide (And.intro (And.intro nb1 (And.intro nb2 nb3)) (And.intro na1 (And.intro na2 na3)))
 have HP:Hid (∀ wx,(∃ q,wx=w2.drewN q)→Calls Tryz.prog 79 #[.pointer (some ⟨st kb,0,none⟩),.int .i64 v] wx fun e w'=>e=.returned (.bool true) ∧
   (w'.cell? ⟨w1.heap.size,1,none⟩=some (.int .i64 ka)∧w'.cell? ⟨w1.heap.size,2,none⟩=some (.int .i64 kb)∧w'.cell? ⟨ga,kb,none⟩=some (.pointer (some ⟨st kb,0,none⟩))∧w'.cell? ⟨b,2+ka,none⟩=some (.int .i64 v)) ∧
   WkAt w' b vc code x∧∃ vw',(∀ g,vw'.ownBlock=some g→(VW kb).ownBlock=some g∨w.heap.size≤g)∧StAt w' (st kb) vw' (CH kb) false { M kb with words:=(M kb).words++[v]} ∧
   (∀ y,vw'.ownBlock=some y∨y=st kb∨CH kb=some y→y≠b) ∧
   Fr (fun k=>k=b∨k=st kb∨(VW kb).ownBlock=some k∨CH kb=some k) w w'):=by
  rintro wx ⟨q,rfl⟩
  have hx:Below w2.heap.size w2 (w2.drewN q):=below_drewN (Below.refl _ _) q
  refine (put_calls v (HT.out.below hx) hsm2).mono fun e w' h=>?_
  rcases h with ⟨h1,h2,vw',h3,h4,h5⟩ | ⟨_,h1,h2,_⟩
  ·have keep:∀ k,k<w2.heap.size→k≠st kb→(∀ c,(VW kb).ownBlock=some c→k≠c)→(∀ c,CH kb=some c→k≠c)→w'.heap[k]? = w2.heap[k]? := fun k hk e1 e2 e3=>
    h5.block k hk (fun h=>h.elim e1 (fun h=>h.elim (fun h=>e2 k h rfl) (fun h=>e3 k h rfl)))
   have kb':=keep b (lt_of_blk HW2.out.blk) nb1 nb3 nb2
   have ka':=keep w1.heap.size (lt_of_blk HAB.out) na1 na3 na2
   have kg':=keep ga (lt_of_blk hgb) ng1 ng3 ng2
   have hw':WkAt w' b vc code x:=HW2.out.stays fun y hy=>by
    rcases hy with rfl | hy
    ·exact kb'
    ·obtain ⟨cur,h6⟩:=own_block HW2.out.own hy
     exact keep y (lt_of_blk h6) (no1 y hy) (no3 y hy) (no2 y hy)
   refine ⟨h1,⟨row_cell (ka'.trans HAB.out) rfl,row_cell (ka'.trans HAB.out) rfl,row_cell (kg'.trans hgb) hgk,?_⟩,hw',vw',fun g hg=>?_,h4,?_,?_⟩
   ·rw [HVV.out];exact hw'.regCell ka hka
   ·rcases h3 g hg with h6 | h6
    ·exact Or.inl h6
    ·exact Or.inr (Nat.le_trans hbl2.size h6)
   ·intro y hy
    rcases hy with hy | rfl | hy
    ·obtain ⟨cur,h6⟩:=own_block h4.own hy
     exact ne_of_types h6 hw'.blk (by decide)
    ·exact fun e=>nb1 e.symm
    ·exact fun e=>nb2 y hy e.symm
   ·exact (Fr.of_below (hbl2.trans (hx.mono hbl2.size))).trans h5 (fun y _ h=>Or.inr h)
  ·exact absurd ⟨h1,h2⟩ HCS.out
 clear nb1 nb2 nb3 na1 na2 na3 no1 no2 no3 ng1 ng2 ng3 hgb hgk hsb
 go_wp2
 go_region_held3 (fun w'=>w'.cell? ⟨w1.heap.size,1,none⟩=some (.int .i64 ka)∧w'.cell? ⟨w1.heap.size,2,none⟩=some (.int .i64 kb)∧w'.cell? ⟨ga,kb,none⟩=some (.pointer (some ⟨st kb,0,none⟩))∧w'.cell? ⟨b,2+ka,none⟩=some (.int .i64 v)) (go_keep) ((go_at_call 79;refine (unhide HP _ ⟨1,rfl⟩).mono ?_;rintro e w3 ⟨rfl,⟨s1,s2,s3,s4⟩,hw3,vw',hvw,hst3,hyb,hfr3⟩))
 have HW3:=hide hw3
 have HREST:=hide (And.intro hvw (And.intro hst3 (And.intro hyb hfr3)))
 clear hvw hst3 hyb hfr3 s1 s2 s3 s4 hw3 c0 c1 c2 c3 c4 c5 c6 f1 f6 a0 a1 a2 a3 cr da
 obtain ⟨c0,c1,c2,c3,c4,c5,c6,cf⟩:=HW3.out.cells
 have f1:=cf 1
 have f6:=cf 6
 clear cf
 go_wp2
 refine wp_goto ?_
 show J1 (.goto 6) _ _
 rw [← HJ1.out]
 refine ⟨_,rfl,?_⟩
 clear HJ1
 generalize hJ2:jumpQ Tryz.prog _ _ 1=J2
 have HJ2:=hide hJ2
 clear hJ2
 go_wp2
 rw [← HJ2.out]
 refine jumpQ_ret ?_
 go_ret
 obtain ⟨hvw,hst3,hyb,hfr3⟩:=HREST.out
 obtain ⟨q1,q2,q3⟩:=alone_end (w:=w3) (y:=nextW x ⟨2,ka,kb,ic⟩ none) (Fr.refl _ _) HW3.out ((x.place:Int)+1) (by simp [nextW]) (by have:=HLT.out;simp [nextW];omega) (by simp [nextW]) (by simp [nextW])
 refine Or.inr ⟨rfl,?_,q2,vw',?_,?_,?_⟩
 ·simpa using HCS.out
 ·simpa using hvw
 ·simp only [Int.toNat_natCast]
  rw [← HVV.out]
  refine hst3.stays fun y hy=>?_
  have hne:y≠b:=hyb y (by rcases hy with h | h | h;exact Or.inr (Or.inl h);exact Or.inl h;exact Or.inr (Or.inr h))
  rw [Below.heap_setCell _ _ _ _ hne,Below.heap_setCell _ _ _ _ hne]
 ·simp only [Int.toNat_natCast]
  exact Fr.setCell (S:=fun k=>k=b∨k=st kb∨(VW kb).ownBlock=some k∨CH kb=some k) (Fr.setCell (S:=fun k=>k=b∨k=st kb∨(VW kb).ownBlock=some k∨CH kb=some k) hfr3 (p:=⟨b,1,none⟩) (Or.inr (Or.inl rfl)) _) (p:=⟨b,6,none⟩) (Or.inr (Or.inl rfl)) _
theorem valid_code {N:Net} (h:validB N=true) {k:Nat} (hk:k<N.workers.length):validCodeB (codeOf N k) N.streams.length=true:=by
 simp only [validB,validWorkersB,Bool.and_eq_true] at h
 have:=List.all_eq_true.1 h.1.2.2 (codeOf N k) (by unfold codeOf;rw [getD_eq _ _ _ hk];exact List.getElem_mem hk)
 exact this
theorem valid_ins {N:Net} (h:validB N=true) {k:Nat} (hk:k<N.workers.length) {i:Ins} (hi:i∈codeOf N k):opsValid i (codeOf N k).length N.streams.length=true:=by
 have h1:=valid_code h hk
 simp only [validCodeB,Bool.and_eq_true] at h1
 exact List.all_eq_true.1 h1.2 i hi
theorem valid_ends {N:Net} (h:validB N=true) {s:Nat} (hs:s<N.streams.length):usersN N.workers 2 s+(if hasSourceB N.sources s then 1 else 0)≤1∧usersN N.workers 1 s≤1:=by
 simp only [validB,validEndsB,Bool.and_eq_true] at h
 have:=List.all_eq_true.1 h.2 s (List.mem_range.2 hs)
 simpa using this
theorem valid_counts {N:Net} (h:validB N=true):1≤N.streams.length∧N.streams.length≤8∧1≤N.workers.length∧N.workers.length≤6:=by
 simp only [validB,validStreamsB,validWorkersB,Bool.and_eq_true,decide_eq_true_eq] at h
 exact ⟨h.1.1.1.1.1,h.1.1.1.1.2,h.1.2.1.1,h.1.2.1.2⟩
theorem codeOf_out {N:Net} {k:Nat} (h:¬ k<N.workers.length):codeOf N k=[]:=by
 simp only [codeOf,List.getD];rw [List.getElem?_eq_none (by omega)];rfl
theorem two_users (l:List (List Ins)) (op s:Int):∀ (j k:Nat) (hj:j<l.length) (hk:k<l.length),j<k→usesB l[j] op s=true→usesB l[k] op s=true→2≤usersN l op s:=by
 induction l with
 | nil=>intro j k hj;simp at hj
 | cons c l ih=>
  intro j k hj hk hjk h1 h2
  cases k with
  | zero=>omega
  | succ k=>
   have hk':k<l.length:=by simpa using hk
   have h2':usesB l[k] op s=true:=by simpa using h2
   cases j with
   | zero=>
    have h1':usesB c op s=true:=by simpa using h1
    have:0<usersN l op s:=List.countP_pos_iff.2 ⟨l[k],List.getElem_mem hk',h2'⟩
    simp only [usersN,List.countP_cons,h1',if_true] at this ⊢
    omega
   | succ j=>
    have:=ih j k (by simpa using hj) hk' (by omega) (by simpa using h1) h2'
    simp only [usersN,List.countP_cons] at this ⊢
    omega
theorem user_unique {N:Net} {op:Int} {s:Nat} (hu:usersN N.workers op s≤1) {k k':Nat} (h1:usesB (codeOf N k) op s=true) (h2:usesB (codeOf N k') op s=true):k=k':=by
 have hk:k<N.workers.length:=by
  rcases Nat.lt_or_ge k N.workers.length with h | h
  ·exact h
  ·rw [codeOf_out (by omega)] at h1;cases h1
 have hk':k'<N.workers.length:=by
  rcases Nat.lt_or_ge k' N.workers.length with h | h
  ·exact h
  ·rw [codeOf_out (by omega)] at h2;cases h2
 unfold codeOf at h1 h2
 rw [getD_eq _ _ _ hk] at h1
 rw [getD_eq _ _ _ hk'] at h2
 rcases Nat.lt_trichotomy k k' with h | h | h
 ·have:=two_users N.workers op s k k' hk hk' h h1 h2;omega
 ·exact h
 ·have:=two_users N.workers op s k' k hk' hk h h2 h1;omega
theorem uses_pos {N:Net} {op:Int} {s:Nat} {k:Nat} (h1:usesB (codeOf N k) op s=true):0<usersN N.workers op s:=by
 have hk:k<N.workers.length:=by
  rcases Nat.lt_or_ge k N.workers.length with h | h
  ·exact h
  ·rw [codeOf_out (by omega)] at h1;cases h1
 unfold codeOf at h1
 rw [getD_eq _ _ _ hk] at h1
 exact List.countP_pos_iff.2 ⟨N.workers[k],List.getElem_mem hk,h1⟩
theorem stream_of_uses {N:Net} (h:validB N=true) {k:Nat} {op:Int} (ho:op=1∨op=2) {s:Nat} (h1:usesB (codeOf N k) op s=true):s<N.streams.length:=by
 have hk:k<N.workers.length:=by
  rcases Nat.lt_or_ge k N.workers.length with h | h
  ·exact h
  ·rw [codeOf_out (by omega)] at h1;cases h1
 obtain ⟨i,hi,hp⟩:=List.any_eq_true.1 h1
 simp only [Bool.and_eq_true,beq_iff_eq] at hp
 have:=valid_stream (valid_ins h hk hi) (by rw [hp.1];exact ho)
 rw [hp.2] at this
 omega
theorem uses_nat {N:Net} (h:validB N=true) {k:Nat} {op:Int} (ho:op=1∨op=2) {s:Int} (h1:usesB (codeOf N k) op s=true):∃ s':Nat,s=s':=by
 have hk:k<N.workers.length:=by
  rcases Nat.lt_or_ge k N.workers.length with h | h
  ·exact h
  ·rw [codeOf_out (by omega)] at h1;cases h1
 obtain ⟨i,hi,hp⟩:=List.any_eq_true.1 h1
 simp only [Bool.and_eq_true,beq_iff_eq] at hp
 have:=valid_stream (valid_ins h hk hi) (by rw [hp.1];exact ho)
 rw [hp.2] at this
 exact Int.eq_ofNat_of_zero_le this.1
theorem valid_ok {N:Net} (h:validB N=true):Ok N:=by
 refine ⟨fun k hk i hi=>?_,fun s k k' h1 h2=>?_,fun s k k' h1 h2=>?_,fun s k hq=>?_⟩
 ·have hv:=valid_ins h hk hi
  exact ⟨(valid_op hv).1,(valid_op hv).2,fun ho=>valid_stream hv ho⟩
 ·obtain ⟨s',rfl⟩:=uses_nat h (Or.inr rfl) h1
  have hs:=stream_of_uses h (Or.inr rfl) h1
  exact user_unique (by have:=(valid_ends h hs).1;omega) h1 h2
 ·obtain ⟨s',rfl⟩:=uses_nat h (Or.inl rfl) h1
  have hs:=stream_of_uses h (Or.inl rfl) h1
  exact user_unique (valid_ends h hs).2 h1 h2
 ·cases hu:usesB (codeOf N k) 2 s
  ·rfl
  ·have hs:=stream_of_uses h (Or.inr rfl) hu
   have h1:=(valid_ends h hs).1
   have h2:=uses_pos hu
   have hq':hasSourceB N.sources s=true:=hq
   rw [hq'] at h1
   simp at h1
   omega
structure Lay where
 p:Nat
 vS:Value
 vW:Value
 st:Nat→Nat
 VW:Nat→Value
 CH:Nat→Option Nat
 wb:Nat→Nat
 VC:Nat→Value
structure RaceAt (L:Lay) (w:World) (N:Net) (R:Rc):Prop where
 blk:w.heap[L.p]? = some (.cells #[L.vS,L.vW] 74 (0,0))
 env:Env w L.vS N.streams.length L.st L.VW L.CH (srcd N) R.s
 rowW:∃ g cap,L.vW=.slice (some ⟨g,0,none⟩) N.workers.length cap∧∃ cs:List Value,w.heap[g]? = some (.cells cs.toArray 107 (0,0))∧∀ i,i<N.workers.length→cs[i]? = some (.pointer (some ⟨L.wb i,0,none⟩))
 wk:∀ k,k<N.workers.length→WkAt w (L.wb k) (L.VC k) (codeOf N k) (R.w k)
 ch:∀ s,s<N.streams.length→srcd N s=false→((L.CH s).isSome=true↔used N s=true)
 injS:∀ s t,s<N.streams.length→t<N.streams.length→s≠t→L.st s≠L.st t∧(∀ g,(L.VW s).ownBlock=some g→(L.VW t).ownBlock≠some g)∧(∀ c,L.CH s=some c→L.CH t≠some c)
 injW:∀ j k,j<N.workers.length→k<N.workers.length→j≠k→L.wb j≠L.wb k
 lenW:R.W.length=N.workers.length
 lenS:R.S.length=N.streams.length
 ok:validB N=true
def Foot (L:Lay) (N:Net) (k:Nat):Prop:=
 k=L.p∨L.vS.ownBlock=some k∨L.vW.ownBlock=some k∨(∃ s,s<N.streams.length∧(k=L.st s∨(L.VW s).ownBlock=some k∨L.CH s=some k))∨(∃ j,j<N.workers.length∧(k=L.wb j∨(L.VC j).ownBlock=some k))
theorem RaceAt.codeOk {L:Lay} {w:World} {N:Net} {R:Rc} (h:RaceAt L w N R) {k:Nat} (hk:k<N.workers.length):CodeOk (codeOf N k) N.streams.length L.CH (srcd N):=by
 refine ⟨fun i hi=>valid_ins h.ok hk hi,fun i hi ho=>?_,fun i hi ho=>?_⟩
 ·have hv:=valid_stream (valid_ins h.ok hk hi) (Or.inl ho)
  have hs:i.b.toNat<N.streams.length:=by omega
  cases hq:srcd N i.b.toNat
  ·refine Or.inr fun hn=>?_
   have hu:used N i.b.toNat=true:=by
    have:usesB (codeOf N k) 1 (i.b.toNat:Nat)=true:=List.any_eq_true.2 ⟨i,hi,by simp [ho];omega⟩
    simp only [used,decide_eq_true_eq];exact uses_pos this
   have:=(h.ch _ hs hq).2 hu
   rw [hn] at this;cases this
  ·exact Or.inl rfl
 ·have hv:=valid_stream (valid_ins h.ok hk hi) (Or.inr ho)
  have hu:usesB (codeOf N k) 2 (i.b.toNat:Nat)=true:=List.any_eq_true.2 ⟨i,hi,by simp [ho];omega⟩
  cases hq:srcd N i.b.toNat
  ·rfl
  ·rw [(valid_ok h.ok).src _ k hq] at hu;cases hu
theorem RaceAt.state {L:Lay} {w:World} {N:Net} {R:Rc} (h:RaceAt L w N R) {k:Nat} (hk:k<N.workers.length):stateL (codeOf N k) (R.w k) L.CH (srcd N) R.s=stateOf N R k:=by
 simp only [stateL,stateOf,insAt]
 cases hi:(codeOf N k)[(R.w k).place]? with
 | none=>rfl
 | some i=>
  dsimp only
  have hm:i∈codeOf N k:=List.mem_of_getElem? hi
  by_cases ho:i.op=2
  ·have hq:=(h.codeOk hk).wr i hm ho
   have hv:=valid_stream (valid_ins h.ok hk hm) (Or.inr ho)
   have e:=h.ch i.b.toNat (by omega) hq
   by_cases hu:used N i.b.toNat=true
   ·simp only [e.2 hu,hu]
   ·have:¬ (L.CH i.b.toNat).isSome=true:=fun hc=>hu (e.1 hc)
    simp only [this,hu]
  ·simp only [ho,false_and]
theorem RaceAt.cells {L:Lay} {w:World} {N:Net} {R:Rc} (h:RaceAt L w N R):w.cell? ⟨L.p,0,none⟩=some L.vS∧w.cell? ⟨L.p,1,none⟩=some L.vW:=⟨row_cell h.blk rfl,row_cell h.blk rfl⟩
def NewSt (w:World) (src:Bool) (m:Sm) (some':Bool) (e:Ending) (w':World):Prop:=
 ∃ b vw ch,e=.returned (.pointer (some ⟨b,0,none⟩))∧StAt w' b vw ch src m∧Below w.heap.size w w'∧w.heap.size≤b∧(∀ g,vw.ownBlock=some g→w.heap.size≤g)∧(∀ c,ch=some c→w.heap.size≤c)∧ch.isSome=some'
set_option maxHeartbeats 1000000 in
theorem unread_calls (w:World) (r:Nat):Calls Tryz.prog 55 #[.int .i64 r] w fun e w'=>NewSt w false ⟨[],0,r⟩ false e w':=by
 go_enter Tryz.func55,Tryz.ntmps55
 go_wp2
 go_ret
 refine ⟨w.heap.size,.slice none 0 0,none,rfl,⟨heap_alloc_new _ _,⟨rfl,Or.inl ⟨rfl,rfl⟩⟩,Nat.le_refl _,by simp,fun c hc=>(by cases hc),fun c hc=>(by cases hc)⟩,(Below.refl _ _).alloc (Nat.le_refl _) _,Nat.le_refl _,fun g hg=>(by cases hg),fun c hc=>(by cases hc),rfl⟩
set_option maxHeartbeats 1000000 in
theorem withRoom_calls (w:World) (r:Nat) (hr:r≤1000):Calls Tryz.prog 54 #[.int .i64 r] w fun e w'=>NewSt w false ⟨[],0,r⟩ true e w':=by
 obtain ⟨i0,hi,hi8⟩:=Tryz.infoInt
 have hmk:=fun (wx:World)=>run_makeChan (P:=Tryz.prog) (w:=wx) (t:=109) Tryz.underlying109 hi .i64 r (by omega) (by rw [hi8];omega)
 go_enter Tryz.func54,Tryz.ntmps54
 go_wp2
 go_ret
 have hb1:Below w.heap.size w (w.alloc (.chan r #[] false 0 0 false)):=(Below.refl _ _).alloc (Nat.le_refl _) _
 refine ⟨w.heap.size+1,.slice none 0 0,some w.heap.size,rfl,⟨?_,⟨rfl,Or.inl ⟨rfl,rfl⟩⟩,Nat.le_refl _,by simp,fun c hc=>?_,fun c hc=>rfl⟩,hb1.alloc hb1.size _,Nat.le_succ _,fun g hg=>(by cases hg),fun c hc=>(by cases hc;exact Nat.le_refl _),rfl⟩
 ·have:=heap_alloc_new (w.alloc (.chan r #[] false 0 0 false)) (.cells #[.bool false,.slice none 0 0,.int .i64 0,.chan (some w.heap.size),.int .i64 0] 111)
  simpa using this
 ·cases hc
  refine ⟨⟨0,0,?_⟩,by simp,hr⟩
  rw [Below.heap_alloc _ _ _ (by simp)]
  exact heap_alloc_new _ _
set_option maxHeartbeats 1000000 in
theorem fromSource_calls {w:World} {v:Value} {l:List Int} (hv:IntsAt w v l) (hl:l.length≤1048576) (r:Nat):Calls Tryz.prog 56 #[v] w fun e w'=>NewSt w true ⟨l,0,r⟩ false e w':=by
 obtain ⟨i0,hi,hz0,hz1,hz2⟩:=info_parts Tryz.info3
 obtain ⟨a,cap,rfl, -, -, -⟩:=hv.openD
 have HN:Hid (0<l.length→∃ ad:Addr,a=some ad∧∀ j u,(intRow l)[j]? = some u→w.cell? (ad.add j)=some u):=fun h0=>by
  obtain ⟨ad,hg, -,hx⟩:=ints_cells hv h0
  exact ⟨ad,hg,fun j u hj=>hx w (Below.refl _ _) j u hj⟩
 have HL:Hid ((intRow l).length=l.length*1):=by rw [intRow_length];simp [Hid]
 have h1:=intRow_one l
 have h63:l.length≤maxLen:=by unfold maxLen;omega
 have hby:l.length*8≤140737488355328:=by omega
 have HF:Hid (∀ (a':Option Addr) (c':Nat) (w1:World),w1.ownsRow w.heap.size 3 1 (.slice a' l.length c') l.length (intRow l)→Below w.heap.size w w1→NewSt w true ⟨l,0,r⟩ false (.returned (.pointer (some ⟨w1.heap.size,0,none⟩))) (w1.alloc (.cells #[.bool true,.slice a' l.length c',.int .i64 0,.chan none,.int .i64 0] 111))):=fun a' c' w1 ho hb=>by
  refine ⟨w1.heap.size,.slice a' l.length c',none,rfl,⟨heap_alloc_new _ _,?_,Nat.zero_le _,by dsimp only;omega,fun c hc=>(by cases hc),fun c hc=>(by cases hc)⟩,hb.alloc hb.size _,hb.size,fun g hg=>?_,fun c hc=>(by cases hc),rfl⟩
  ·have ho0:w1.ownsRow 0 3 1 (.slice a' l.length c') l.length (intRow l):=by
    rcases ho with ⟨q1,q2 | ⟨g,cap,cur,q2,q3,q4⟩⟩
    ·exact ⟨q1,Or.inl q2⟩
    ·exact ⟨q1,Or.inr ⟨g,cap,cur,q2,Nat.zero_le _,q4⟩⟩
   exact ho0.alloc _
  ·rcases ho with ⟨q1,q2 | ⟨g',cap,cur,q2,q3,q4⟩⟩
   ·rw [q2.1] at hg;cases hg
   ·rw [q2] at hg;cases hg;exact q3
 clear hv
 generalize l.length=n at *
 generalize intRow l=ws at *
 go_enter Tryz.func56,Tryz.ntmps56
 go_wp2_with (at_builtin;refine wpList_append_fresh rfl _ (.tmp 3) 22 rfl 3 i0 (.int .i64 0) 1 8 Tryz.underlying22 hi hz0 hz1 hz2 rfl (by decide) a n cap ws rfl rfl HL.out HN.out h1 h63 hby ?_)
 intro a' c' w1 hown hb
 have HR:=hide (HF.out _ _ _ hown hb)
 clear hown hb
 go_wp2
 go_ret
 exact HR.out
theorem Tryz.infoIns:(Tryz.prog.info? 44).map (fun i=>(i.zero,i.size,i.bytes))=some (some (.agg #[.int .i64 0,.int .i64 0,.int .i64 0,.int .i64 0]),4,32):=by kernel_rfl
theorem codeRow_one (l:List Ins):∀ u∈codeRow l,u.oneCell'=true:=by
 intro u hu
 simp only [codeRow,List.mem_flatMap] at hu
 obtain ⟨x, -,hx⟩:=hu
 simp only [List.mem_cons,List.not_mem_nil,or_false] at hx
 rcases hx with rfl | rfl | rfl | rfl<;>rfl
theorem code_cells {w:World} {a:Option Addr} {l:List Ins} {n cap:Nat} (h:CodeAt w (.slice a n cap) l) (h0:0<l.length):∃ ad:Addr,a=some ad∧ad.spot=none∧∀ j u,(codeRow l)[j]? = some u→w.cell? (ad.add j)=some u:=by
 obtain ⟨a',cap',hv,hn,hcap,hc⟩:=h
 cases hv
 rcases hc with hz | ⟨b,off,ha,hc⟩
 ·omega
 ·refine ⟨⟨b,off,none⟩,ha,rfl,fun j u hj=>?_⟩
  have hjl:j<l.length*4:=by
   have:=(List.getElem?_eq_some_iff.1 hj).1
   rw [codeRow_length] at this;exact this
  have hd:j / 4<l.length:=by omega
  have e:=codeRow_get l (j / 4) hd (j%4) (by omega)
  have ej:j / 4*4+j%4=j:=by omega
  rw [ej,hj] at e
  have:=hc (j / 4) hd (j%4) (by omega)
  rw [addr_add]
  rw [Nat.add_assoc,ej] at this
  rw [this,e];dsimp only;rw [getD_eq _ _ _ hd]
def NewWk (w:World) (code:List Ins) (e:Ending) (w':World):Prop:=
 ∃ b vc,e=.returned (.pointer (some ⟨b,0,none⟩))∧WkAt w' b vc code ⟨0,fun _=>0,0⟩∧Below w.heap.size w w'∧w.heap.size≤b∧(∀ g,vc.ownBlock=some g→w.heap.size≤g)
set_option maxHeartbeats 1000000 in
theorem wnew_calls {w:World} {v:Value} {code:List Ins} (hv:CodeAt w v code) (hl:code.length≤20):Calls Tryz.prog 57 #[v] w fun e w'=>NewWk w code e w':=by
 obtain ⟨i0,hi,hz0,hz1,hz2⟩:=info_parts Tryz.infoIns
 obtain ⟨a,cap,rfl⟩:=hv.form
 have HN:Hid (0<code.length→∃ ad:Addr,a=some ad∧∀ j u,(codeRow code)[j]? = some u→w.cell? (ad.add j)=some u):=fun h0=>by
  obtain ⟨ad,hg, -,hx⟩:=code_cells hv h0
  exact ⟨ad,hg,hx⟩
 have HL:Hid ((codeRow code).length=code.length*4):=codeRow_length code
 have h1:=codeRow_one code
 have h63:code.length≤maxLen:=by unfold maxLen;omega
 have hby:code.length*32≤140737488355328:=by omega
 have HF:Hid (∀ (a':Option Addr) (c':Nat) (w1:World),w1.ownsRow w.heap.size 44 4 (.slice a' code.length c') code.length (codeRow code)→Below w.heap.size w w1→NewWk w code (.returned (.pointer (some ⟨w1.heap.size,0,none⟩))) (w1.alloc (.cells #[.slice a' code.length c',.int .i64 0,.int .i64 0,.int .i64 0,.int .i64 0,.int .i64 0,.int .i64 0] 139))):=fun a' c' w1 ho hb=>by
  refine ⟨w1.heap.size,.slice a' code.length c',rfl,⟨heap_alloc_new _ _,?_,Nat.zero_le _,hl⟩,hb.alloc hb.size _,hb.size,fun g hg=>?_⟩
  ·have ho0:w1.ownsRow 0 44 4 (.slice a' code.length c') code.length (codeRow code):=by
    rcases ho with ⟨q1,q2 | ⟨g,cap,cur,q2,q3,q4⟩⟩
    ·exact ⟨q1,Or.inl q2⟩
    ·exact ⟨q1,Or.inr ⟨g,cap,cur,q2,Nat.zero_le _,q4⟩⟩
   exact ho0.alloc _
  ·rcases ho with ⟨q1,q2 | ⟨g',cap,cur,q2,q3,q4⟩⟩
   ·rw [q2.1] at hg;cases hg
   ·rw [q2] at hg;cases hg;exact q3
 clear hv hl
 generalize code.length=n at *
 generalize codeRow code=ws at *
 go_enter Tryz.func57,Tryz.ntmps57
 go_wp2_with (at_builtin;refine wpList_append_fresh rfl _ (.tmp 3) 45 rfl 44 i0 (.agg #[.int .i64 0,.int .i64 0,.int .i64 0,.int .i64 0]) 4 32 Tryz.underlying45 hi hz0 hz1 hz2 rfl (by decide) a n cap ws rfl rfl HL.out HN.out h1 h63 hby ?_)
 intro a' c' w1 hown hb
 have HR:=hide (HF.out _ _ _ hown hb)
 clear hown hb
 go_wp2
 go_ret
 exact HR.out
def ownV (g len:Nat):Value:=.slice (some ⟨g,0,none⟩) (len+1) (len+1)
structure Lentd (w:World) (g:Nat) (u:Value) (l:List Int):Prop where
 blk:w.heap[g]? = some (.cells (intRow (l++[78])).toArray 3 (0,0))
 val:u=.slice (some ⟨g,0,none⟩) l.length (l.length+1)∨l=[]∧u=.slice none 0 0
theorem Lentd.frame {w w':World} {g:Nat} {u:Value} {l:List Int} (h:Lentd w g u l) (hk:w'.heap[g]? = w.heap[g]?):Lentd w' g u l:=⟨hk.trans h.blk,h.val⟩
theorem Lentd.ints {w:World} {g:Nat} {u:Value} {l:List Int} (h:Lentd w g u l) (hl:l.length≤1048576):IntsAt w u l:=by
 rcases h.val with hu | ⟨rfl,rfl⟩
 ·refine ⟨_,_,hu,by omega,by omega,?_⟩
  rcases Nat.eq_zero_or_pos l.length with h0 | h0
  ·exact Or.inl h0
  ·refine Or.inr ⟨g,0,rfl,fun i hi j hj=>?_⟩
   have:j=0:=by omega
   subst this
   refine row_cell h.blk ?_
   dsimp only
   rw [getD_eq _ _ _ hi]
   simp only [Nat.zero_add,Nat.mul_one,Nat.add_zero,intRow,List.map_append]
   rw [List.getElem?_append_left (by simpa using hi)]
   simp [hi]
 ·exact ⟨none,0,rfl,by simp,by simp,Or.inl rfl⟩
theorem lent_ints {l:List Int} {v:Value} {w:World} (hv:IntsAt w v l) (hl:l.length≤1048576) :
  Calls Tryz.prog 22 #[v] w fun e w'=>∃ ia ic,e=.returned (.tuple #[ownV w.heap.size l.length,.slice ia l.length ic])∧Lentd w' w.heap.size (.slice ia l.length ic) l∧Below w.heap.size w w':=by
 refine (lentInts_calls hv hl).mono fun e w' ⟨h1,h2,h3⟩=>?_
 rcases h1 with h1 | ⟨rfl,h1⟩
 ·exact ⟨_,_,h1,⟨h2,Or.inl rfl⟩,h3⟩
 ·exact ⟨none,0,h1,⟨h2,Or.inr ⟨rfl,rfl⟩⟩,h3⟩
structure SrcRow (w:World) (g:Nat) (ss:List Src) (IA:Nat→Option Addr) (IC:Nat→Nat) (i:Nat):Prop where
 ex:∃ cs:List Value,w.heap[g]? = some (.cells cs.toArray 42 (0,0))∧cs.length=(ss.length+1)*2 ∧
  (∀ t,t<i→cs[t*2]? = some (.int .i64 (ss.getD t ⟨0,[]⟩).stream)∧cs[t*2+1]? = some (.slice (IA t) (ss.getD t ⟨0,[]⟩).words.length (IC t))) ∧
  (∀ t,i≤t→t<ss.length→∃ x:Int,cs[t*2]? = some (.int .i64 x)∧cs[t*2+1]? = some (.slice none 0 0))∧cs[ss.length*2]? = some (.int .i64 79)∧cs[ss.length*2+1]? = some (.slice none 0 0)
theorem SrcRow.frame {w w':World} {g:Nat} {ss:List Src} {IA:Nat→Option Addr} {IC:Nat→Nat} {i:Nat} (h:SrcRow w g ss IA IC i) (hk:w'.heap[g]? = w.heap[g]?):SrcRow w' g ss IA IC i:=by
 obtain ⟨cs,h1,h2⟩:=h.ex
 exact ⟨cs,hk.trans h1,h2⟩
theorem SrcRow.next {w:World} {g:Nat} {ss:List Src} {IA:Nat→Option Addr} {IC:Nat→Nat} {i:Nat} (h:SrcRow w g ss IA IC i) (hi:i<ss.length) (ia:Option Addr) (ic:Nat) :
  SrcRow ((w.setCell ⟨g,i*2,none⟩ (.int .i64 (ss.getD i ⟨0,[]⟩).stream)).setCell ⟨g,i*2+1,none⟩ (.slice ia (ss.getD i ⟨0,[]⟩).words.length ic)) g ss (fun t=>if t=i then ia else IA t) (fun t=>if t=i then ic else IC t) (i+1):=by
 obtain ⟨cs,h1,h2,h3,h4,h5,h6⟩:=h.ex
 refine ⟨_,blk_set (blk_set h1 _ _) _ _,by simp [h2],fun t ht=>?_,fun t ht1 ht2=>?_,?_,?_⟩
 ·by_cases e:t=i
  ·subst e
   simp only [if_true]
   refine ⟨?_,?_⟩
   ·rw [List.getElem?_set_ne (by omega),List.getElem?_set_self (by rw [h2];omega)]
   ·rw [List.getElem?_set_self (by simp;rw [h2];omega)]
  ·simp only [e,if_false]
   rw [List.getElem?_set_ne (by omega),List.getElem?_set_ne (by omega),List.getElem?_set_ne (by omega),List.getElem?_set_ne (by omega)]
   exact h3 t (by omega)
 ·rw [List.getElem?_set_ne (by omega),List.getElem?_set_ne (by omega),List.getElem?_set_ne (by omega),List.getElem?_set_ne (by omega)]
  exact h4 t (by omega) ht2
 ·rw [List.getElem?_set_ne (by omega),List.getElem?_set_ne (by omega)];exact h5
 ·rw [List.getElem?_set_ne (by omega),List.getElem?_set_ne (by omega)];exact h6
structure WkRow (w:World) (g:Nat) (ws:List (List Ins)) (C:Nat→Nat) (i:Nat):Prop where
 ex:∃ cs:List Value,w.heap[g]? = some (.cells cs.toArray 45 (0,0))∧cs.length=ws.length+1 ∧
  (∀ t,t<i→cs[t]? = some (.slice (some ⟨C t,0,none⟩) (ws.getD t []).length ((ws.getD t []).length+1)))∧(∀ t,i≤t→t≤ws.length→cs[t]? = some (.slice none 0 0))
theorem WkRow.frame {w w':World} {g:Nat} {ws:List (List Ins)} {C:Nat→Nat} {i:Nat} (h:WkRow w g ws C i) (hk:w'.heap[g]? = w.heap[g]?):WkRow w' g ws C i:=by
 obtain ⟨cs,h1,h2⟩:=h.ex
 exact ⟨cs,hk.trans h1,h2⟩
theorem WkRow.next {w:World} {g:Nat} {ws:List (List Ins)} {C:Nat→Nat} {i:Nat} (h:WkRow w g ws C i) (hi:i<ws.length) (c:Nat) :
  WkRow (w.setCell ⟨g,i,none⟩ (.slice (some ⟨c,0,none⟩) (ws.getD i []).length ((ws.getD i []).length+1))) g ws (fun t=>if t=i then c else C t) (i+1):=by
 obtain ⟨cs,h1,h2,h3,h4⟩:=h.ex
 refine ⟨_,blk_set h1 _ _,by simp [h2],fun t ht=>?_,fun t ht1 ht2=>?_⟩
 ·by_cases e:t=i
  ·subst e
   simp only [if_true]
   rw [List.getElem?_set_self (by omega)]
  ·simp only [e,if_false]
   rw [List.getElem?_set_ne (by omega)]
   exact h3 t (by omega)
 ·rw [List.getElem?_set_ne (by omega)]
  exact h4 t (by omega) ht2
structure LoanL where
 q:Nat
 gs:Nat
 gr:Nat
 gw:Nat
 rooms:Value
 G:Nat→Nat
 IA:Nat→Option Addr
 IC:Nat→Nat
 vW:Value
 C:Nat→Nat
 vC:Value
def wordsOf (n:Net) (t:Nat):List Int:=(n.sources.getD t ⟨0,[]⟩).words
structure WordsAt (B:Nat) (w:World) (n:Net) (gs:Nat) (G:Nat→Nat) (IA:Nat→Option Addr) (IC:Nat→Nat) (vW:Value) (i:Nat):Prop where
 row:w.ownsRow B 22 1 vW i ((List.range i).map fun t=>ownV (G t) (wordsOf n t).length)
 words:∀ t,t<i→Lentd w (G t) (.slice (IA t) (wordsOf n t).length (IC t)) (wordsOf n t)
 inj:∀ s t,s<t→t<i→G s≠G t
 ne:∀ t,t<i→gs≠G t
 ge:∀ t,t<i→B≤G t
theorem WordsAt.frame {B:Nat} {w w':World} {n:Net} {gs:Nat} {G:Nat→Nat} {IA:Nat→Option Addr} {IC:Nat→Nat} {vW:Value} {i:Nat} (h:WordsAt B w n gs G IA IC vW i) (hr:∀ g,vW.ownBlock=some g→w'.heap[g]? = w.heap[g]?) (hw:∀ t,t<i→w'.heap[G t]? = w.heap[G t]?):WordsAt B w' n gs G IA IC vW i:=
 ⟨own_of_blockB h.row hr,fun t ht=>(h.words t ht).frame (hw t ht),h.inj,h.ne,h.ge⟩
theorem map_range_snoc {α : Type} (f g:Nat → α) (i:Nat) (x : α) (h:∀ t,t<i→g t=f t) (hx:g i=x):(List.range (i+1)).map g=(List.range i).map f++[x]:=by
 rw [List.range_succ,List.map_append]
 congr 1
 ·exact List.map_congr_left fun t ht=>h t (List.mem_range.1 ht)
 ·simp [hx]
structure CodesAt (B:Nat) (w:World) (ws:List (List Ins)) (C:Nat→Nat) (vC:Value) (i:Nat):Prop where
 row:w.ownsRow B 45 1 vC i ((List.range i).map fun t=>ownV (C t) (ws.getD t []).length)
 codes:∀ t,t<i→w.heap[C t]? = some (.cells (codeRow (ws.getD t []++[⟨80,0,0,0⟩])).toArray 44 (0,0))
 inj:∀ s t,s<t→t<i→C s≠C t
 ge:∀ t,t<i→B≤C t
theorem CodesAt.frame {B:Nat} {w w':World} {ws:List (List Ins)} {C:Nat→Nat} {vC:Value} {i:Nat} (h:CodesAt B w ws C vC i) (hr:∀ g,vC.ownBlock=some g→w'.heap[g]? = w.heap[g]?) (hw:∀ t,t<i→w'.heap[C t]? = w.heap[C t]?):CodesAt B w' ws C vC i:=
 ⟨own_of_blockB h.row hr,fun t ht=>(hw t ht).trans (h.codes t ht),h.inj,h.ge⟩
theorem RaceAt.below {L:Lay} {w w':World} {N:Net} {R:Rc} (h:RaceAt L w N R) (hb:Below w.heap.size w w'):RaceAt L w' N R:=by
 obtain ⟨g,cap,hv,cs,hg,hcs⟩:=h.rowW
 exact ⟨by rw [hb.block _ (lt_of_blk h.blk)];exact h.blk,h.env.below hb,⟨g,cap,hv,cs,by rw [hb.block _ (lt_of_blk hg)];exact hg,hcs⟩,fun k hk=>(h.wk k hk).below hb,h.ch,h.injS,h.injW,h.lenW,h.lenS,h.ok⟩
theorem chan_ne_cells {w:World} {a b:Nat} {c:Array Value} {s:TypeId} {f:Nat×Nat} {cap:Nat} {buf:Array Value} {cl tm:Bool} {x y:Nat} (hb:w.heap[b]? = some (.chan cap buf cl x y tm)) (ha:w.heap[a]? = some (.cells c s f)):b≠a:=fun e=>ne_of_chan ha hb e.symm
theorem RaceAt.upd {L:Lay} {w w':World} {N:Net} {R:Rc} (h:RaceAt L w N R) {k s:Nat} (hk:k<N.workers.length) (hs:s<N.streams.length) {vw':Value} {y:Wk} {m':Sm}
  (hw':WkAt w' (L.wb k) (L.VC k) (codeOf N k) y) (hst:StAt w' (L.st s) vw' (L.CH s) (srcd N s) m')
  (hvw:∀ g,vw'.ownBlock=some g→(L.VW s).ownBlock=some g∨w.heap.size≤g)
  (hf:Fr (fun x=>x=L.wb k∨x=L.st s∨(L.VW s).ownBlock=some x∨L.CH s=some x) w w') :
  RaceAt { L with VW:=fun t=>if t=s then vw' else L.VW t} w' N ⟨R.W.set k y,R.S.set s m'⟩:=by
 have hwb:=(h.wk k hk).blk
 have hsA:=h.env.at' s hs
 have hsb:=hsA.blk
 have kept:∀ z,z<w.heap.size→z≠L.wb k→z≠L.st s→(∀ g,(L.VW s).ownBlock=some g→z≠g)→(∀ c,L.CH s=some c→z≠c)→w'.heap[z]? = w.heap[z]? := fun z hz e1 e2 e3 e4=>
  hf.block z hz (fun hh=>hh.elim e1 (fun hh=>hh.elim e2 (fun hh=>hh.elim (fun hh=>e3 z hh rfl) (fun hh=>e4 z hh rfl))))
 have keptC:∀ (z:Nat) (c:Array Value) (t:TypeId) (f:Nat×Nat),w.heap[z]? = some (.cells c t f)→t≠139→t≠111→t≠3→w'.heap[z]? = w.heap[z]? := fun z c t f hz e1 e2 e3=>
  kept z (lt_of_blk hz) (ne_of_types hz hwb e1) (ne_of_types hz hsb e2)
   (fun g hg=>by obtain ⟨cur,hc⟩:=own_block hsA.own hg;exact ne_of_types hz hc e3)
   (fun c' hc'=>by obtain ⟨⟨a,r,h1⟩,_⟩:=hsA.chan c' hc';exact ne_of_chan hz h1)
 obtain ⟨⟨ga,gcap,hva,csa,hga,hcsa⟩,hsm⟩:=h.env.along
 obtain ⟨gw,wcap,hvw',csw,hgw,hcsw⟩:=h.rowW
 have other:∀ t,t<N.streams.length→t≠s→StAt w' (L.st t) (L.VW t) (L.CH t) (srcd N t) (R.s t):=fun t ht hne=>by
  have hT:=h.env.at' t ht
  obtain ⟨i1,i2,i3⟩:=h.injS t s ht hs hne
  refine hT.stays fun z hz=>?_
  rcases hz with rfl | hz | hz
  ·exact kept _ (lt_of_blk hT.blk) (ne_of_types hT.blk hwb (by decide)) i1
    (fun g hg=>by obtain ⟨cur,hc⟩:=own_block hsA.own hg;exact ne_of_types hT.blk hc (by decide))
    (fun c hc=>by obtain ⟨⟨a,r,h1⟩,_⟩:=hsA.chan c hc;exact ne_of_chan hT.blk h1)
  ·obtain ⟨cur,hcur⟩:=own_block hT.own hz
   exact kept _ (lt_of_blk hcur) (ne_of_types hcur hwb (by decide)) (ne_of_types hcur hsb (by decide))
    (fun g hg e=>by subst e;exact i2 z hz hg)
    (fun c hc=>by obtain ⟨⟨a,r,h1⟩,_⟩:=hsA.chan c hc;exact ne_of_chan hcur h1)
  ·obtain ⟨⟨a,r,h1⟩,_⟩:=hT.chan z hz
   exact kept _ (lt_of_blk h1) (chan_ne_cells h1 hwb) (chan_ne_cells h1 hsb)
    (fun g hg=>by obtain ⟨cur,hc⟩:=own_block hsA.own hg;exact chan_ne_cells h1 hc)
    (fun c hc e=>by subst e;exact i3 z hz hc)
 have hls:s<R.S.length:=by rw [h.lenS];exact hs
 have hlk:k<R.W.length:=by rw [h.lenW];exact hk
 refine ⟨?_,⟨⟨⟨ga,gcap,hva,csa,?_,hcsa⟩,hsm⟩,fun t ht=>?_⟩,⟨gw,wcap,hvw',csw,?_,hcsw⟩,fun j hj=>?_,h.ch,fun t u ht hu hne=>?_,h.injW,by simp [h.lenW],by simp [h.lenS],h.ok⟩
 ·rw [keptC _ _ _ _ h.blk (by decide) (by decide) (by decide)];exact h.blk
 ·rw [keptC _ _ _ _ hga (by decide) (by decide) (by decide)];exact hga
 ·dsimp only
  by_cases e:t=s
  ·subst e
   rw [if_pos rfl]
   have:(⟨R.W.set k y,R.S.set t m'⟩:Rc).s t=m':=getD_set_self _ _ _ _ hls
   rw [this];exact hst
  ·rw [if_neg e]
   have:(⟨R.W.set k y,R.S.set s m'⟩:Rc).s t=R.s t:=getD_set_ne _ _ _ _ _ (fun e'=>e e'.symm)
   rw [this];exact other t ht e
 ·rw [keptC _ _ _ _ hgw (by decide) (by decide) (by decide)];exact hgw
 ·by_cases e:j=k
  ·subst e
   have:(⟨R.W.set j y,R.S.set s m'⟩:Rc).w j=y:=getD_set_self _ _ _ _ hlk
   rw [this];exact hw'
  ·have:(⟨R.W.set k y,R.S.set s m'⟩:Rc).w j=R.w j:=getD_set_ne _ _ _ _ _ (fun e'=>e e'.symm)
   rw [this]
   have hJ:=h.wk j hj
   refine hJ.stays fun z hz=>?_
   rcases hz with rfl | hz
   ·exact kept _ (lt_of_blk hJ.blk) (h.injW j k hj hk e) (ne_of_types hJ.blk hsb (by decide))
     (fun g hg=>by obtain ⟨cur,hc⟩:=own_block hsA.own hg;exact ne_of_types hJ.blk hc (by decide))
     (fun c hc=>by obtain ⟨⟨a,r,h1⟩,_⟩:=hsA.chan c hc;exact ne_of_chan hJ.blk h1)
   ·obtain ⟨cur,hcur⟩:=own_block hJ.own hz
    exact keptC _ _ _ _ hcur (by decide) (by decide) (by decide)
 ·obtain ⟨i1,i2,i3⟩:=h.injS t u ht hu hne
  refine ⟨i1,fun g hg hg'=>?_,i3⟩
  dsimp only at hg hg'
  by_cases e:t=s
  ·subst e
   rw [if_pos rfl] at hg
   rw [if_neg (fun e'=>hne e'.symm)] at hg'
   rcases hvw g hg with h1 | h1
   ·exact i2 g h1 hg'
   ·obtain ⟨cur,hc⟩:=own_block (h.env.at' u hu).own hg'
    have:=lt_of_blk hc;omega
  ·rw [if_neg e] at hg
   by_cases e2:u=s
   ·subst e2
    rw [if_pos rfl] at hg'
    rcases hvw g hg' with h1 | h1
    ·exact i2 g hg h1
    ·obtain ⟨cur,hc⟩:=own_block (h.env.at' t ht).own hg
     have:=lt_of_blk hc;omega
   ·rw [if_neg e2] at hg'
    exact i2 g hg hg'
theorem RaceAt.alone {L:Lay} {w w':World} {N:Net} {R:Rc} (h:RaceAt L w N R) {k:Nat} (hk:k<N.workers.length) {y:Wk}
  (hw':WkAt w' (L.wb k) (L.VC k) (codeOf N k) y) (hf:Fr (fun x=>x=L.wb k) w w'):RaceAt L w' N ⟨R.W.set k y,R.S⟩:=by
 have hs:0<N.streams.length:=(valid_counts h.ok).1
 have hwb:=(h.wk k hk).blk
 have hS:=h.env.at' 0 hs
 have hst:StAt w' (L.st 0) (L.VW 0) (L.CH 0) (srcd N 0) (R.s 0):=hS.stays fun z hz=>by
  refine hf.block z ?_ ?_
  ·rcases hz with rfl | hz | hz
   ·exact lt_of_blk hS.blk
   ·obtain ⟨cur,hc⟩:=own_block hS.own hz;exact lt_of_blk hc
   ·obtain ⟨⟨a,r,h1⟩,_⟩:=hS.chan z hz;exact lt_of_blk h1
  ·rcases hz with rfl | hz | hz
   ·exact ne_of_types hS.blk hwb (by decide)
   ·obtain ⟨cur,hc⟩:=own_block hS.own hz;exact ne_of_types hc hwb (by decide)
   ·obtain ⟨⟨a,r,h1⟩,_⟩:=hS.chan z hz;exact chan_ne_cells h1 hwb
 have:=h.upd hk hs hw' hst (fun g hg=>Or.inl hg) (hf.mono fun x _ hx=>Or.inl hx)
 have e1:(fun t=>if t=0 then L.VW 0 else L.VW t)=L.VW:=by funext t;split<;>simp_all
 have e2:R.S.set 0 (R.s 0)=R.S:=by
  have hl:0<R.S.length:=by rw [h.lenS];exact hs
  have:R.s 0=R.S[0]:=getD_eq _ _ _ hl
  rw [this];exact List.set_getElem_self hl
 rw [e1,e2] at this
 exact this
end Go.Proofs.YthfdgdfnflilfaaGreatDoor

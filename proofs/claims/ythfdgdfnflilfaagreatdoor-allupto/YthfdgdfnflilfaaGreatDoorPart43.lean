/- Part 43: RefV2. -/
import Derived.Laws.BytesArg
import Derived.Test.YthfdgdfnflilfaaGreatDoorPart11
import Derived.Test.YthfdgdfnflilfaaGreatDoorPart16
import Derived.Test.YthfdgdfnflilfaaGreatDoorPart22
import Derived.Test.YthfdgdfnflilfaaGreatDoorPart36
namespace Go.Proofs.YthfdgdfnflilfaaGreatDoor
open Go.RowKit Go.Conc
structure Sav (w wr:World) (v:Value) (l:List Int):Prop where
 at':SvAt w.heap.size wr v (bytesOf l)
 below:Below w.heap.size w wr
theorem Sav.eight {w wr wx:World} {v:Value} {l:List Int} (h:Sav w wr v l) (hx:Below wr.heap.size wr wx) (x:Int) (hlen:l.length+1≤4398046511104) :
  Calls Tryz.prog 74 #[v,.int .i64 x] wx fun e w'=>∃ v',e=.returned v'∧Sav w w' v' (l++[x])∧wx.heap.size≤w'.heap.size∧∀ (b:Nat) (cs:Array Value) (t:TypeId),5≠t→wx.heap[b]? = some (.cells cs t (0,0))→w'.heap[b]? = some (.cells cs t (0,0)):=by
 have hsz:=h.below.size
 have hsx:=hx.size
 have hsv:SvAt w.heap.size wx v (bytesOf l):=own_of_blockB h.at' fun g hg=>hx.block g (h.at'.lt hg).1
 refine (refEight_calls x (by omega) hsv (by rw [bytesOf_length];omega)).mono fun e w' ⟨v',q1,q2⟩=>⟨v',q1,⟨?_,?_⟩,q2.fr.size,fun b cs t ht hb=>?_⟩
 ·have e1:bytesOf (l++[x])=bytesOf l++eightB x:=by rw [bytesOf_append];simp [bytesOf]
  rw [e1];exact q2.at'
 ·refine (h.below.trans (hx.mono hsz)).trans ⟨q2.fr.os,q2.fr.tape,q2.fr.output,q2.fr.size,fun b hb=>q2.fr.block b (by omega) (fun e=>?_)⟩
  have:=(hsv.lt e).2
  omega
 ·rw [q2.fr.block b (lt_of_blk hb) (own_ne_type hsv hb ht),hb]
theorem saveS_le (N:Net) (R:Rc) {t:Nat} (h:t≤N.streams.length):(saveS N R t).length≤(saveS N R N.streams.length).length:=by
 obtain ⟨m,hm⟩:∃ m,N.streams.length=t+m:=⟨N.streams.length-t,by omega⟩
 rw [hm]
 clear hm h
 induction m with
 | zero=>exact Nat.le_refl _
 | succ m ih=>rw [← Nat.add_assoc,saveS_succ,List.length_append];omega
theorem sv_conv {B:Nat} {w:World} {a:Option Addr} {n c:Nat} {l:List Int} (h:SvAt B w (.slice a n c) l) (_:l.length≤70368744177664) (h0:0<l.length):(convert 100 9 (.slice a n c)).run Tryz.prog w=.ok (.string (strOfNums l)) w:=by
 have h':w.ownsRow B 5 1 (.slice a n c) l.length (byteRow l):=h
 obtain ⟨a',cap,hv, -,hg⟩:=own_row_get h'
 cases hv
 obtain ⟨g,rfl, -⟩:=hg 0 (by simpa [byteRow] using h0)
 refine run_convert_bytes_arg w 100 5 Tryz.underlying100 Tryz.underlying5 g 0 l.length c l rfl (fun i hi=>?_) 9 Tryz.underlying9
 obtain ⟨g',e,hc⟩:=hg i (by simpa [byteRow] using hi)
 cases e
 simpa [byteRow,hi] using hc
set_option maxRecDepth 100000 in
set_option maxHeartbeats 4000000 in
theorem refSave_calls {L:RLay} {w:World} {N:Net} {R:Rc} (h:RefAt L w N R) (hlen:(saveNums N R).length≤4398046511104) :
  Calls Tryz.prog 41 #[.pointer (some ⟨L.p,0,none⟩)] w fun e w'=>e=.returned (.string (strOfNums (bytesOf (saveNums N R))))∧Below w.heap.size w w':=by
 obtain ⟨-,hs8,hw1,hw6⟩:=valid_counts h.ok
 have HH:Hid (∀ wx,Below w.heap.size w wx→RefAt L wx N R):=fun wx hx=>h.below hx
 have HS0:Hid (Sav w w (.slice none 0 0) (saveW R 0)):=⟨⟨by simp [saveW,bytesOf,byteRow],Or.inl ⟨rfl,by simp [saveW,bytesOf]⟩⟩,Below.refl _ _⟩
 clear h
 go_enter Tryz.func41,Tryz.ntmps41
 go_wp2
 go_loopw [3,4,5,6] (fun st i _ _ wr=>∃ k:Nat,k≤N.workers.length∧i=.int .i64 k∧Sav w wr st (saveW R k)) (fun _ i _ _ _=>N.workers.length-(intOf i).toNat)
 case atStart=>exact ⟨0,Nat.zero_le _,rfl,HS0.out⟩
 case round=>
  clear HS0
  obtain ⟨k,hk,rfl,hsv⟩:=hrel
  have hR:=HH.out wr hsv.below
  obtain ⟨p0, -⟩:=blk_cell (l:=[_,_]) hR.blk 0 _ rfl
  obtain ⟨p1, -⟩:=blk_cell (l:=[_,_]) hR.blk 1 _ rfl
  by_cases hlt:k<N.workers.length
  ·have x0:wr.cell? ⟨L.gW,k*7,none⟩=some (L.VC k):=hR.wc hlt 0 _ (by decide) rfl
   have x1:=hR.wc hlt 1 _ (by decide) rfl
   have x2:=hR.wc hlt 2 _ (by decide) rfl
   have x3:=hR.wc hlt 3 _ (by decide) rfl
   have x4:=hR.wc hlt 4 _ (by decide) rfl
   have x5:=hR.wc hlt 5 _ (by decide) rfl
   have x6:=hR.wc hlt 6 _ (by decide) rfl
   obtain ⟨ca,cc,hvc, -, -, -⟩:=(hR.code k hlt).openD
   rw [hvc] at x0
   have hk0:(0:Int)≤(k:Int):=by omega
   have hk1:(k:Int)<(N.workers.length:Int):=by omega
   have hwl:(saveW R k).length=6*k:=saveW_length R k
   have HE1:=hide (hsv.eight (wx:=wr.alloc (.cells #[.slice ca (codeOf N k).length cc,.int .i64 ((R.w k).place:Int),.int .i64 ((R.w k).r 0),.int .i64 ((R.w k).r 1),.int .i64 ((R.w k).r 2),.int .i64 ((R.w k).r 3),.int .i64 ((R.w k).steps)] 92)) ((Below.refl _ _).alloc (Nat.le_refl _) _) ((R.w k).place:Int) (by omega))
   have HX0:Hid ((wr.alloc (.cells #[.slice ca (codeOf N k).length cc,.int .i64 ((R.w k).place:Int),.int .i64 ((R.w k).r 0),.int .i64 ((R.w k).r 1),.int .i64 ((R.w k).r 2),.int .i64 ((R.w k).r 3),.int .i64 ((R.w k).steps)] 92)).heap[wr.heap.size]? = some (.cells #[.slice ca (codeOf N k).length cc,.int .i64 ((R.w k).place:Int),.int .i64 ((R.w k).r 0),.int .i64 ((R.w k).r 1),.int .i64 ((R.w k).r 2),.int .i64 ((R.w k).r 3),.int .i64 ((R.w k).steps)] 92 (0,0))):=heapNew rfl
   obtain ⟨vn,hvn⟩:∃ vn:Nat,vn=(bytesOf (saveW R k)).length:=⟨_,rfl⟩
   have HW6:Hid (saveW R (k+1)=saveW R k++[((R.w k).place:Int)]++[(R.w k).r 0,(R.w k).r 1,(R.w k).r 2,(R.w k).r 3]++[(R.w k).steps]):=by
    show saveW R (k+1)=_
    rw [saveW_succ];simp [wkNums]
   clear hR hsv hvc hvn
   go_wp2_with fail
   refine (unhide HE1).mono ?_
   rintro e w1 ⟨v1,rfl,hs1,hz1,hk1'⟩
   have hx1:=hk1' _ _ _ (by decide) HX0.out
   have HS1:=hide hs1
   clear hs1 hk1' HE1 HX0 x0 x1 x2 x3 x4 x5 x6 p0 p1 hz1
   generalize wr.heap.size=xb at *
   have HX1:=hide hx1
   clear hx1
   go_wp2
   go_loopw [3,6] (fun st i wq=>∃ j:Nat,j≤4∧i=.int .i64 j∧Sav w wq st (saveW R k++[((R.w k).place:Int)]++[(R.w k).r 0,(R.w k).r 1,(R.w k).r 2,(R.w k).r 3].take j)∧wq.heap[xb]? = some (.cells #[.slice ca (codeOf N k).length cc,.int .i64 ((R.w k).place:Int),.int .i64 ((R.w k).r 0),.int .i64 ((R.w k).r 1),.int .i64 ((R.w k).r 2),.int .i64 ((R.w k).r 3),.int .i64 ((R.w k).steps)] 92 (0,0))) (fun _ i _=>4-(intOf i).toNat)
   case atStart=>exact ⟨0,Nat.zero_le _,rfl,by simpa using HS1.out,HX1.out⟩
   case round=>
    clear HS1 HX1
    obtain ⟨j,hj,rfl,hsv,hx⟩:=hrel
    by_cases hj4:j<4
    ·have hre:wr.cell? ⟨xb,2+j,none⟩=some (.int .i64 ((R.w k).r j)):=by
      rcases (show j=0∨j=1∨j=2∨j=3 by omega) with rfl | rfl | rfl | rfl
      ·exact row_cell hx rfl
      ·exact row_cell hx rfl
      ·exact row_cell hx rfl
      ·exact row_cell hx rfl
     have htk:([(R.w k).r 0,(R.w k).r 1,(R.w k).r 2,(R.w k).r 3]:List Int).take (j+1)=([(R.w k).r 0,(R.w k).r 1,(R.w k).r 2,(R.w k).r 3]:List Int).take j++[(R.w k).r j]:=by
      rcases (show j=0∨j=1∨j=2∨j=3 by omega) with rfl | rfl | rfl | rfl<;>rfl
     have HE2:=hide (hsv.eight (Below.refl _ _) ((R.w k).r j) (by simp [hwl];omega))
     have HX2:=hide hx
     have HTk:=hide htk
     have hj0:(0:Int)≤(j:Int):=by omega
     have hj1:(j:Int)<4:=by omega
     clear hsv hx htk
     go_wp2_with fail
     refine (unhide HE2).mono ?_
     rintro e w2 ⟨v2,rfl,hs2,hz2,hk2⟩
     have HX3:=hide (hk2 _ _ _ (by decide) HX2.out)
     have HS2:Hid (Sav w w2 v2 (saveW R k++[((R.w k).place:Int)]++[(R.w k).r 0,(R.w k).r 1,(R.w k).r 2,(R.w k).r 3].take (j+1))):=by
      rw [HTk.out, ← List.append_assoc];exact hs2
     clear hs2 hk2 HE2 hre hz2
     go_wp2
     go_roundw
     case rel=>exact ⟨j+1,by omega,by go_num,HS2.out,HX3.out⟩
     case measure=>simp [intOf];omega
    ·have hje:j=4:=by omega
     subst hje
     have y6:=(blk_cell (l:=[_,_,_,_,_,_,_]) hx 6 _ rfl).1
     have HE3:=hide (hsv.eight (Below.refl _ _) ((R.w k).steps) (by simp [hwl];omega))
     clear hsv hx
     go_wp2_with fail
     refine (unhide HE3).mono ?_
     rintro e w3 ⟨v3,rfl,hs3, -, -⟩
     have HS3:Hid (Sav w w3 v3 (saveW R (k+1))):=by
      rw [HW6.out];exact hs3
     clear hs3 HE3 y6
     go_wp2
     go_roundw
     case rel=>exact ⟨k+1,by omega,by go_num,HS3.out⟩
     case measure=>simp [intOf];omega
  ·have hke:k=N.workers.length:=by omega
   have hk1:¬ (k:Int)<(N.workers.length:Int):=by omega
   subst hke
   have e0:saveW R N.workers.length=saveW R N.workers.length++saveS N R 0:=by simp [saveS]
   rw [e0] at hsv
   have HS1:=hide hsv
   clear e0
   clear hsv hR
   go_wp2
   go_loopw [3,7,8,9] (fun st i _ _ wr=>∃ t:Nat,t≤N.streams.length∧i=.int .i64 t∧Sav w wr st (saveW R N.workers.length++saveS N R t)) (fun _ i _ _ _=>N.streams.length-(intOf i).toNat)
   case atStart=>exact ⟨0,Nat.zero_le _,rfl,HS1.out⟩
   case round=>
    clear HS1 p0 p1
    obtain ⟨t,ht,rfl,hsv⟩:=hrel
    have hR:=HH.out wr hsv.below
    obtain ⟨p0, -⟩:=blk_cell (l:=[_,_]) hR.blk 0 _ rfl
    by_cases hlt:t<N.streams.length
    ·have c0:wr.cell? ⟨L.gS,t*5,none⟩=some (.bool (srcd N t)):=hR.sc hlt 0 _ (by decide) rfl
     have c1:=hR.sc hlt 1 _ (by decide) rfl
     have c2:=hR.sc hlt 2 _ (by decide) rfl
     have c3:=hR.sc hlt 3 _ (by decide) rfl
     have c4:=hR.sc hlt 4 _ (by decide) rfl
     obtain ⟨va,vc,hv⟩:=own_slice (hR.words t hlt)
     have HWd:Hid (wr.ownsRow 0 3 1 (.slice va (R.s t).words.length vc) (R.s t).words.length (intRow (R.s t).words)):=by
      have:=hR.words t hlt
      rw [hv] at this
      exact this
     rw [hv] at c2
     have ht0:(0:Int)≤(t:Int):=by omega
     have ht1:(t:Int)<(N.streams.length:Int):=by omega
     have hpre:(saveW R N.workers.length++saveS N R t).length+(stNums (srcd N t) (R.s t)).length≤4398046511104:=by
      have:=saveS_le N R (t:=t+1) (by omega)
      rw [saveS_succ,List.length_append] at this
      rw [List.length_append]
      have hl2:=hlen
      rw [saveNums,List.length_append] at hl2
      omega
     have HSs:Hid (saveW R N.workers.length++saveS N R (t+1)=saveW R N.workers.length++saveS N R t++stNums (srcd N t) (R.s t)):=by
      show saveW R N.workers.length++saveS N R (t+1)=_
      rw [saveS_succ,List.append_assoc]
     clear hR hv
     cases hsr:srcd N t
     ·rw [hsr] at c0 HSs hpre
      have hp2:(saveW R N.workers.length++saveS N R t).length+3+(R.s t).words.length≤4398046511104:=by
       simp [stNums] at hpre ⊢;omega
      have hbs:(wr.alloc (.cells #[.bool false,.bool (used N t),.slice va (R.s t).words.length vc,.int .i64 ((R.s t).read:Int),.int .i64 ((R.s t).room:Int)] 88)).heap[wr.heap.size]? = some (.cells #[.bool false,.bool (used N t),.slice va (R.s t).words.length vc,.int .i64 ((R.s t).read:Int),.int .i64 ((R.s t).room:Int)] 88 (0,0)):=heapNew rfl
      have HB0:=hide hbs
      have HE:=hide (hsv.eight (wx:=wr.alloc (.cells #[.bool false,.bool (used N t),.slice va (R.s t).words.length vc,.int .i64 ((R.s t).read:Int),.int .i64 ((R.s t).room:Int)] 88)) ((Below.refl _ _).alloc (Nat.le_refl _) _) ((R.s t).room:Int) (by omega))
      have HWd0:Hid (∀ g,va=some ⟨g,0,none⟩→∃ cs,(wr.alloc (.cells #[.bool false,.bool (used N t),.slice va (R.s t).words.length vc,.int .i64 ((R.s t).read:Int),.int .i64 ((R.s t).room:Int)] 88)).heap[g]? = some (.cells cs 3 (0,0))∧∀ i (hi:i<(R.s t).words.length),cs.toList[i]? = some (.int .i64 (R.s t).words[i])):=fun g hg=>by
       subst hg
       rcases HWd.out.2 with ⟨hv, -⟩ | ⟨g',cap',cur,hv, -,hh, -, -, -,htk⟩
       ·cases hv
       ·cases hv
        refine ⟨cur,heapOld (lt_of_blk hh) hh,fun i hi=>?_⟩
        have e:(cur.toList.take ((R.s t).words.length*1))[i]? = (intRow (R.s t).words)[i]? := by rw [htk]
        rw [List.getElem?_take_of_lt (by omega),intRow_get _ _ hi] at e
        exact e
      have HNil:Hid (0<(R.s t).words.length→∃ g,va=some ⟨g,0,none⟩):=fun h0=>by
       obtain ⟨a',c',hv, -,hg⟩:=own_row_get HWd.out
       cases hv
       obtain ⟨g,e, -⟩:=hg 0 (by rw [intRow_length];exact h0)
       exact ⟨g,e⟩
      clear hsv hsr hbs HWd
      go_wp2_with fail
      refine (unhide HE).mono ?_
      rintro e w1 ⟨v1,rfl,hs1, -,hk1'⟩
      have HB1:=hide (hk1' _ _ _ (by decide) HB0.out)
      have HWd1:Hid (∀ g,va=some ⟨g,0,none⟩→∃ cs,w1.heap[g]? = some (.cells cs 3 (0,0))∧∀ i (hi:i<(R.s t).words.length),cs.toList[i]? = some (.int .i64 (R.s t).words[i])):=fun g hg=>by
       obtain ⟨cs,q1,q2⟩:=HWd0.out g hg
       exact ⟨cs,hk1' _ _ _ (by decide) q1,q2⟩
      have HE1:=hide (hs1.eight (Below.refl _ _) ((R.s t).read:Int) (by rw [List.length_append];simp only [List.length_singleton];omega))
      clear hs1 hk1' HE HB0 HWd0 c0 c1 c2 c3 c4 p0
      generalize wr.heap.size=sb at *
      have y3:=(blk_cell (l:=[_,_,_,_,_]) HB1.out 3 _ rfl).1
      go_wp2_with fail
      refine (unhide HE1).mono ?_
      rintro e w2 ⟨v2,rfl,hs2, -,hk2'⟩
      have HB2:=hide (hk2' _ _ _ (by decide) HB1.out)
      have HWd2:Hid (∀ g,va=some ⟨g,0,none⟩→∃ cs,w2.heap[g]? = some (.cells cs 3 (0,0))∧∀ i (hi:i<(R.s t).words.length),cs.toList[i]? = some (.int .i64 (R.s t).words[i])):=fun g hg=>by
       obtain ⟨cs,q1,q2⟩:=HWd1.out g hg
       exact ⟨cs,hk2' _ _ _ (by decide) q1,q2⟩
      have HE2:=hide (hs2.eight (Below.refl _ _) ((R.s t).words.length:Int) (by rw [List.length_append,List.length_append];simp only [List.length_singleton];omega))
      clear hs2 hk2' HE1 HB1 HWd1 y3
      have y2:=(blk_cell (l:=[_,_,_,_,_]) HB2.out 2 _ rfl).1
      go_wp2_with fail
      refine (unhide HE2).mono ?_
      rintro e w3 ⟨v3,rfl,hs3, -,hk3'⟩
      have HB3:=hide (hk3' _ _ _ (by decide) HB2.out)
      have HWd3:Hid (∀ g,va=some ⟨g,0,none⟩→∃ cs,w3.heap[g]? = some (.cells cs 3 (0,0))∧∀ i (hi:i<(R.s t).words.length),cs.toList[i]? = some (.int .i64 (R.s t).words[i])):=fun g hg=>by
       obtain ⟨cs,q1,q2⟩:=HWd2.out g hg
       exact ⟨cs,hk3' _ _ _ (by decide) q1,q2⟩
      have HS3:=hide hs3
      clear hs3 hk3' HE2 HB2 HWd2 y2
      go_wp2
      go_loopw [3,9] (fun st i wq=>∃ j:Nat,j≤(R.s t).words.length∧i=.int .i64 j∧Sav w wq st (saveW R N.workers.length++saveS N R t++[((R.s t).room:Int)]++[((R.s t).read:Int)]++[((R.s t).words.length:Int)]++(R.s t).words.take j)∧wq.heap[sb]? = some (.cells #[.bool false,.bool (used N t),.slice va (R.s t).words.length vc,.int .i64 ((R.s t).read:Int),.int .i64 ((R.s t).room:Int)] 88 (0,0))∧∀ g,va=some ⟨g,0,none⟩→∃ cs,wq.heap[g]? = some (.cells cs 3 (0,0))∧∀ i (hi:i<(R.s t).words.length),cs.toList[i]? = some (.int .i64 (R.s t).words[i])) (fun _ i _=>(R.s t).words.length-(intOf i).toNat)
      case atStart=>exact ⟨0,Nat.zero_le _,rfl,by simpa using HS3.out,HB3.out,HWd3.out⟩
      case round=>
       clear HS3 HB3 HWd3
       obtain ⟨j,hj,rfl,hsv,hbk,hwd⟩:=hrel
       have y2:=(blk_cell (l:=[_,_,_,_,_]) hbk 2 _ rfl).1
       by_cases hjl:j<(R.s t).words.length
       ·obtain ⟨g,rfl⟩:=HNil.out (by omega)
        obtain ⟨cs,q1,q2⟩:=hwd g rfl
        have q1':wr.heap[g]? = some (.cells cs.toList.toArray 3 (0,0)):=by simpa using q1
        have d0:=row_cell q1' (q2 j hjl)
        have hj0:(0:Int)≤(j:Int):=by omega
        have hj1:(j:Int)<((R.s t).words.length:Int):=by omega
        have HE4:=hide (hsv.eight (Below.refl _ _) ((R.s t).words[j]) (by rw [List.length_append,List.length_append,List.length_append,List.length_append,List.length_take];simp only [List.length_singleton];omega))
        have HTk:Hid ((R.s t).words.take (j+1)=(R.s t).words.take j++[(R.s t).words[j]]):=List.take_succ_eq_append_getElem hjl
        have HBk:=hide hbk
        have HWk:=hide hwd
        clear hsv hbk hwd q1 q2 q1'
        generalize (R.s t).words[j]=xj at *
        go_wp2_with fail
        refine (unhide HE4).mono ?_
        rintro e w4 ⟨v4,rfl,hs4, -,hk4⟩
        have HS4:Hid (Sav w w4 v4 (saveW R N.workers.length++saveS N R t++[((R.s t).room:Int)]++[((R.s t).read:Int)]++[((R.s t).words.length:Int)]++(R.s t).words.take (j+1))):=by
         rw [HTk.out, ← List.append_assoc];exact hs4
        have HB4:=hide (hk4 _ _ _ (by decide) HBk.out)
        have HW4:Hid (∀ g2,(some ⟨g,0,none⟩:Option Addr)=some ⟨g2,0,none⟩→∃ cs,w4.heap[g2]? = some (.cells cs 3 (0,0))∧∀ i (hi:i<(R.s t).words.length),cs.toList[i]? = some (.int .i64 (R.s t).words[i])):=fun g2 hg=>by
         obtain ⟨cs,q1,q2⟩:=HWk.out g2 hg
         exact ⟨cs,hk4 _ _ _ (by decide) q1,q2⟩
        clear hs4 hk4 HE4 HTk HBk HWk d0 y2
        go_wp2
        go_roundw
        case rel=>exact ⟨j+1,by omega,by go_num,HS4.out,HB4.out,HW4.out⟩
        case measure=>simp [intOf];omega
       ·have hje:j=(R.s t).words.length:=by omega
        have hj1:¬ (j:Int)<((R.s t).words.length:Int):=by omega
        have HS5:=hide hsv
        clear hsv hbk hwd
        go_wp2
        go_roundw
        case rel=>
         refine ⟨t+1,by omega,by go_num,?_⟩
         rw [HSs.out]
         have:=HS5.out
         rw [hje,List.take_length] at this
         simpa [stNums] using this
        case measure=>simp [intOf];omega
     ·rw [hsr] at c0 HSs hpre
      have HE:=hide (hsv.eight (wx:=wr.alloc (.cells #[.bool true,.bool (used N t),.slice va (R.s t).words.length vc,.int .i64 ((R.s t).read:Int),.int .i64 ((R.s t).room:Int)] 88)) ((Below.refl _ _).alloc (Nat.le_refl _) _) ((R.s t).read:Int) (by simp [stNums] at hpre;simp;omega))
      clear hsv hsr
      go_wp2_with fail
      refine (unhide HE).mono ?_
      rintro e w1 ⟨v1,rfl,hs1, -, -⟩
      have HS2:Hid (Sav w w1 v1 (saveW R N.workers.length++saveS N R (t+1))):=by
       rw [HSs.out];exact hs1
      clear hs1 HE c0 c1 c2 c3 c4 p0
      go_wp2
      go_roundw
      case rel=>exact ⟨t+1,by omega,by go_num,HS2.out⟩
      case measure=>simp [intOf];omega
    ·have hte:t=N.streams.length:=by omega
     have ht1:¬ (t:Int)<(N.streams.length:Int):=by omega
     subst hte
     have hpos:0<(bytesOf (saveNums N R)).length:=by
      rw [bytesOf_length,saveNums,List.length_append,saveW_length];omega
     have hat:SvAt w.heap.size wr _ (bytesOf (saveNums N R)):=hsv.at'
     obtain ⟨sa,sc,hsl⟩:=own_slice hat
     rw [hsl] at hat
     have hcv:=sv_conv hat (by rw [bytesOf_length];omega) hpos
     have HB:=hide hsv.below
     clear hsv hR hat
     subst hsl
     go_wp2
     go_ret
     exact ⟨rfl,HB.out⟩
theorem rhas_save {wz:World} {A:Nat→Prop} {p:Nat} {N:Net} {R:Rc} {w:World} (h:RHas wz A p N R w) (hlen:(saveNums N R).length≤4398046511104) :
  Calls Tryz.prog 41 #[.pointer (some ⟨p,0,none⟩)] w fun e w'=>e=.returned (.string (strOfNums (bytesOf (saveNums N R))))∧Below w.heap.size w w':=by
 obtain ⟨L,rfl,h2,h3,h4⟩:=h.ex
 exact refSave_calls h2 hlen
end Go.Proofs.YthfdgdfnflilfaaGreatDoor

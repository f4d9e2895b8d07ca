/- Part 25: RefV2, Play6, RefL1, RefL2, RefL3, Parse, RefL4. -/
import Derived.Laws.BytesArg
import Derived.Test.YthfdgdfnflilfaaGreatDoorPart24
namespace Go.Proofs.YthfdgdfnflilfaaGreatDoor
open Go.RowKit Go.Conc
structure Sav (w wr:World) (v:Value) (l:List Int):Prop where
 at':SvAt w.heap.size wr v (bytesOf l)
 below:Below w.heap.size w wr
theorem Sav.eight {w wr wx:World} {v:Value} {l:List Int} (h:Sav w wr v l) (hx:Below wr.heap.size wr wx) (x:Int) (hlen:l.length+1≤4398046511104) :
  Calls Tryz.prog 74 #[v,.int .i64 x] wx fun e w'=>∃ v',e=.returned v'∧Sav w w' v' (l++[x])∧wx.heap.size≤w'.heap.size∧∀ (b:Nat) (cs:Array Value) (t:TypeId),5≠t→wx.heap[b]? = some (.cells cs t (0,0))→w'.heap[b]? = some (.cells cs t (0,0)):=by
 have hsz:=h.below.size
 have hsx:=hx.size
 have hsv:SvAt w.heap.size wx v (bytesOf l):=own_of_blockB h.at' fun g hg=>hx.block g (h.at'.lt hg).1
 refine (refEight_calls x (by omega) hsv (by rw [bytesOf_length];omega)).mono fun e w' ⟨v',q1,q2⟩=>⟨v',q1,⟨?_,?_⟩,q2.fr.size,fun b cs t ht hb=>?_⟩
 ·have e1:bytesOf (l++[x])=bytesOf l++eightB x:=by rw [bytesOf_append];simp [bytesOf]
  rw [e1];exact q2.at'
 ·refine (h.below.trans (hx.mono hsz)).trans ⟨q2.fr.os,q2.fr.tape,q2.fr.output,q2.fr.size,fun b hb=>q2.fr.block b (by omega) (fun e=>?_)⟩
  have:=(hsv.lt e).2
  omega
 ·rw [q2.fr.block b (lt_of_blk hb) (own_ne_type hsv hb ht),hb]
theorem saveS_le (N:Net) (R:Rc) {t:Nat} (h:t≤N.streams.length):(saveS N R t).length≤(saveS N R N.streams.length).length:=by
 obtain ⟨m,hm⟩:∃ m,N.streams.length=t+m:=⟨N.streams.length-t,by omega⟩
 rw [hm]
 clear hm h
 induction m with
 | zero=>exact Nat.le_refl _
 | succ m ih=>rw [← Nat.add_assoc,saveS_succ,List.length_append];omega
theorem sv_conv {B:Nat} {w:World} {a:Option Addr} {n c:Nat} {l:List Int} (h:SvAt B w (.slice a n c) l) (_:l.length≤70368744177664) (h0:0<l.length):(convert 100 9 (.slice a n c)).run Tryz.prog w=.ok (.string (strOfNums l)) w:=by
 have h':w.ownsRow B 5 1 (.slice a n c) l.length (byteRow l):=h
 obtain ⟨a',cap,hv, -,hg⟩:=own_row_get h'
 cases hv
 obtain ⟨g,rfl, -⟩:=hg 0 (by simpa [byteRow] using h0)
 refine run_convert_bytes_arg w 100 5 Tryz.underlying100 Tryz.underlying5 g 0 l.length c l rfl (fun i hi=>?_) 9 Tryz.underlying9
 obtain ⟨g',e,hc⟩:=hg i (by simpa [byteRow] using hi)
 cases e
 simpa [byteRow,hi] using hc
set_option maxRecDepth 100000 in
set_option maxHeartbeats 4000000 in
theorem refSave_calls {L:RLay} {w:World} {N:Net} {R:Rc} (h:RefAt L w N R) (hlen:(saveNums N R).length≤4398046511104) :
  Calls Tryz.prog 41 #[.pointer (some ⟨L.p,0,none⟩)] w fun e w'=>e=.returned (.string (strOfNums (bytesOf (saveNums N R))))∧Below w.heap.size w w':=by
 obtain ⟨-,hs8,hw1,hw6⟩:=valid_counts h.ok
 have HH:Hid (∀ wx,Below w.heap.size w wx→RefAt L wx N R):=fun wx hx=>h.below hx
 have HS0:Hid (Sav w w (.slice none 0 0) (saveW R 0)):=⟨⟨by simp [saveW,bytesOf,byteRow],Or.inl ⟨rfl,by simp [saveW,bytesOf]⟩⟩,Below.refl _ _⟩
 clear h
 go_enter Tryz.func41,Tryz.ntmps41
 go_wp2
 go_loopw [3,4,5,6] (fun st i _ _ wr=>∃ k:Nat,k≤N.workers.length∧i=.int .i64 k∧Sav w wr st (saveW R k)) (fun _ i _ _ _=>N.workers.length-(intOf i).toNat)
 case atStart=>exact ⟨0,Nat.zero_le _,rfl,HS0.out⟩
 case round=>
  clear HS0
  obtain ⟨k,hk,rfl,hsv⟩:=hrel
  have hR:=HH.out wr hsv.below
  obtain ⟨p0, -⟩:=blk_cell (l:=[_,_]) hR.blk 0 _ rfl
  obtain ⟨p1, -⟩:=blk_cell (l:=[_,_]) hR.blk 1 _ rfl
  by_cases hlt:k<N.workers.length
  ·have x0:wr.cell? ⟨L.gW,k*7,none⟩=some (L.VC k):=hR.wc hlt 0 _ (by decide) rfl
   have x1:=hR.wc hlt 1 _ (by decide) rfl
   have x2:=hR.wc hlt 2 _ (by decide) rfl
   have x3:=hR.wc hlt 3 _ (by decide) rfl
   have x4:=hR.wc hlt 4 _ (by decide) rfl
   have x5:=hR.wc hlt 5 _ (by decide) rfl
   have x6:=hR.wc hlt 6 _ (by decide) rfl
   obtain ⟨ca,cc,hvc, -, -, -⟩:=(hR.code k hlt).openD
   rw [hvc] at x0
   have hk0:(0:Int)≤(k:Int):=by omega
   have hk1:(k:Int)<(N.workers.length:Int):=by omega
   have hwl:(saveW R k).length=6*k:=saveW_length R k
   have HE1:=hide (hsv.eight (wx:=wr.alloc (.cells #[.slice ca (codeOf N k).length cc,.int .i64 ((R.w k).place:Int),.int .i64 ((R.w k).r 0),.int .i64 ((R.w k).r 1),.int .i64 ((R.w k).r 2),.int .i64 ((R.w k).r 3),.int .i64 ((R.w k).steps)] 92)) ((Below.refl _ _).alloc (Nat.le_refl _) _) ((R.w k).place:Int) (by omega))
   have HX0:Hid ((wr.alloc (.cells #[.slice ca (codeOf N k).length cc,.int .i64 ((R.w k).place:Int),.int .i64 ((R.w k).r 0),.int .i64 ((R.w k).r 1),.int .i64 ((R.w k).r 2),.int .i64 ((R.w k).r 3),.int .i64 ((R.w k).steps)] 92)).heap[wr.heap.size]? = some (.cells #[.slice ca (codeOf N k).length cc,.int .i64 ((R.w k).place:Int),.int .i64 ((R.w k).r 0),.int .i64 ((R.w k).r 1),.int .i64 ((R.w k).r 2),.int .i64 ((R.w k).r 3),.int .i64 ((R.w k).steps)] 92 (0,0))):=heapNew rfl
   obtain ⟨vn,hvn⟩:∃ vn:Nat,vn=(bytesOf (saveW R k)).length:=⟨_,rfl⟩
   have HW6:Hid (saveW R (k+1)=saveW R k++[((R.w k).place:Int)]++[(R.w k).r 0,(R.w k).r 1,(R.w k).r 2,(R.w k).r 3]++[(R.w k).steps]):=by
    show saveW R (k+1)=_
    rw [saveW_succ];simp [wkNums]
   clear hR hsv hvc hvn
   go_wp2_with fail
   refine (unhide HE1).mono ?_
   rintro e w1 ⟨v1,rfl,hs1,hz1,hk1'⟩
   have hx1:=hk1' _ _ _ (by decide) HX0.out
   have HS1:=hide hs1
   clear hs1 hk1' HE1 HX0 x0 x1 x2 x3 x4 x5 x6 p0 p1 hz1
   generalize wr.heap.size=xb at *
   have HX1:=hide hx1
   clear hx1
   go_wp2
   go_loopw [3,6] (fun st i wq=>∃ j:Nat,j≤4∧i=.int .i64 j∧Sav w wq st (saveW R k++[((R.w k).place:Int)]++[(R.w k).r 0,(R.w k).r 1,(R.w k).r 2,(R.w k).r 3].take j)∧wq.heap[xb]? = some (.cells #[.slice ca (codeOf N k).length cc,.int .i64 ((R.w k).place:Int),.int .i64 ((R.w k).r 0),.int .i64 ((R.w k).r 1),.int .i64 ((R.w k).r 2),.int .i64 ((R.w k).r 3),.int .i64 ((R.w k).steps)] 92 (0,0))) (fun _ i _=>4-(intOf i).toNat)
   case atStart=>exact ⟨0,Nat.zero_le _,rfl,by simpa using HS1.out,HX1.out⟩
   case round=>
    clear HS1 HX1
    obtain ⟨j,hj,rfl,hsv,hx⟩:=hrel
    by_cases hj4:j<4
    ·have hre:wr.cell? ⟨xb,2+j,none⟩=some (.int .i64 ((R.w k).r j)):=by
      rcases (show j=0∨j=1∨j=2∨j=3 by omega) with rfl | rfl | rfl | rfl
      ·exact row_cell hx rfl
      ·exact row_cell hx rfl
      ·exact row_cell hx rfl
      ·exact row_cell hx rfl
     have htk:([(R.w k).r 0,(R.w k).r 1,(R.w k).r 2,(R.w k).r 3]:List Int).take (j+1)=([(R.w k).r 0,(R.w k).r 1,(R.w k).r 2,(R.w k).r 3]:List Int).take j++[(R.w k).r j]:=by
      rcases (show j=0∨j=1∨j=2∨j=3 by omega) with rfl | rfl | rfl | rfl<;>rfl
     have HE2:=hide (hsv.eight (Below.refl _ _) ((R.w k).r j) (by simp [hwl];omega))
     have HX2:=hide hx
     have HTk:=hide htk
     have hj0:(0:Int)≤(j:Int):=by omega
     have hj1:(j:Int)<4:=by omega
     clear hsv hx htk
     go_wp2_with fail
     refine (unhide HE2).mono ?_
     rintro e w2 ⟨v2,rfl,hs2,hz2,hk2⟩
     have HX3:=hide (hk2 _ _ _ (by decide) HX2.out)
     have HS2:Hid (Sav w w2 v2 (saveW R k++[((R.w k).place:Int)]++[(R.w k).r 0,(R.w k).r 1,(R.w k).r 2,(R.w k).r 3].take (j+1))):=by
      rw [HTk.out, ← List.append_assoc];exact hs2
     clear hs2 hk2 HE2 hre hz2
     go_wp2
     go_roundw
     case rel=>exact ⟨j+1,by omega,by go_num,HS2.out,HX3.out⟩
     case measure=>simp [intOf];omega
    ·have hje:j=4:=by omega
     subst hje
     have y6:=(blk_cell (l:=[_,_,_,_,_,_,_]) hx 6 _ rfl).1
     have HE3:=hide (hsv.eight (Below.refl _ _) ((R.w k).steps) (by simp [hwl];omega))
     clear hsv hx
     go_wp2_with fail
     refine (unhide HE3).mono ?_
     rintro e w3 ⟨v3,rfl,hs3, -, -⟩
     have HS3:Hid (Sav w w3 v3 (saveW R (k+1))):=by
      rw [HW6.out];exact hs3
     clear hs3 HE3 y6
     go_wp2
     go_roundw
     case rel=>exact ⟨k+1,by omega,by go_num,HS3.out⟩
     case measure=>simp [intOf];omega
  ·have hke:k=N.workers.length:=by omega
   have hk1:¬ (k:Int)<(N.workers.length:Int):=by omega
   subst hke
   have e0:saveW R N.workers.length=saveW R N.workers.length++saveS N R 0:=by simp [saveS]
   rw [e0] at hsv
   have HS1:=hide hsv
   clear e0
   clear hsv hR
   go_wp2
   go_loopw [3,7,8,9] (fun st i _ _ wr=>∃ t:Nat,t≤N.streams.length∧i=.int .i64 t∧Sav w wr st (saveW R N.workers.length++saveS N R t)) (fun _ i _ _ _=>N.streams.length-(intOf i).toNat)
   case atStart=>exact ⟨0,Nat.zero_le _,rfl,HS1.out⟩
   case round=>
    clear HS1 p0 p1
    obtain ⟨t,ht,rfl,hsv⟩:=hrel
    have hR:=HH.out wr hsv.below
    obtain ⟨p0, -⟩:=blk_cell (l:=[_,_]) hR.blk 0 _ rfl
    by_cases hlt:t<N.streams.length
    ·have c0:wr.cell? ⟨L.gS,t*5,none⟩=some (.bool (srcd N t)):=hR.sc hlt 0 _ (by decide) rfl
     have c1:=hR.sc hlt 1 _ (by decide) rfl
     have c2:=hR.sc hlt 2 _ (by decide) rfl
     have c3:=hR.sc hlt 3 _ (by decide) rfl
     have c4:=hR.sc hlt 4 _ (by decide) rfl
     obtain ⟨va,vc,hv⟩:=own_slice (hR.words t hlt)
     have HWd:Hid (wr.ownsRow 0 3 1 (.slice va (R.s t).words.length vc) (R.s t).words.length (intRow (R.s t).words)):=by
      have:=hR.words t hlt
      rw [hv] at this
      exact this
     rw [hv] at c2
     have ht0:(0:Int)≤(t:Int):=by omega
     have ht1:(t:Int)<(N.streams.length:Int):=by omega
     have hpre:(saveW R N.workers.length++saveS N R t).length+(stNums (srcd N t) (R.s t)).length≤4398046511104:=by
      have:=saveS_le N R (t:=t+1) (by omega)
      rw [saveS_succ,List.length_append] at this
      rw [List.length_append]
      have hl2:=hlen
      rw [saveNums,List.length_append] at hl2
      omega
     have HSs:Hid (saveW R N.workers.length++saveS N R (t+1)=saveW R N.workers.length++saveS N R t++stNums (srcd N t) (R.s t)):=by
      show saveW R N.workers.length++saveS N R (t+1)=_
      rw [saveS_succ,List.append_assoc]
     clear hR hv
     cases hsr:srcd N t
     ·rw [hsr] at c0 HSs hpre
      have hp2:(saveW R N.workers.length++saveS N R t).length+3+(R.s t).words.length≤4398046511104:=by
       simp [stNums] at hpre ⊢;omega
      have hbs:(wr.alloc (.cells #[.bool false,.bool (used N t),.slice va (R.s t).words.length vc,.int .i64 ((R.s t).read:Int),.int .i64 ((R.s t).room:Int)] 88)).heap[wr.heap.size]? = some (.cells #[.bool false,.bool (used N t),.slice va (R.s t).words.length vc,.int .i64 ((R.s t).read:Int),.int .i64 ((R.s t).room:Int)] 88 (0,0)):=heapNew rfl
      have HB0:=hide hbs
      have HE:=hide (hsv.eight (wx:=wr.alloc (.cells #[.bool false,.bool (used N t),.slice va (R.s t).words.length vc,.int .i64 ((R.s t).read:Int),.int .i64 ((R.s t).room:Int)] 88)) ((Below.refl _ _).alloc (Nat.le_refl _) _) ((R.s t).room:Int) (by omega))
      have HWd0:Hid (∀ g,va=some ⟨g,0,none⟩→∃ cs,(wr.alloc (.cells #[.bool false,.bool (used N t),.slice va (R.s t).words.length vc,.int .i64 ((R.s t).read:Int),.int .i64 ((R.s t).room:Int)] 88)).heap[g]? = some (.cells cs 3 (0,0))∧∀ i (hi:i<(R.s t).words.length),cs.toList[i]? = some (.int .i64 (R.s t).words[i])):=fun g hg=>by
       subst hg
       rcases HWd.out.2 with ⟨hv, -⟩ | ⟨g',cap',cur,hv, -,hh, -, -, -,htk⟩
       ·cases hv
       ·cases hv
        refine ⟨cur,heapOld (lt_of_blk hh) hh,fun i hi=>?_⟩
        have e:(cur.toList.take ((R.s t).words.length*1))[i]? = (intRow (R.s t).words)[i]? := by rw [htk]
        rw [List.getElem?_take_of_lt (by omega),intRow_get _ _ hi] at e
        exact e
      have HNil:Hid (0<(R.s t).words.length→∃ g,va=some ⟨g,0,none⟩):=fun h0=>by
       obtain ⟨a',c',hv, -,hg⟩:=own_row_get HWd.out
       cases hv
       obtain ⟨g,e, -⟩:=hg 0 (by rw [intRow_length];exact h0)
       exact ⟨g,e⟩
      clear hsv hsr hbs HWd
      go_wp2_with fail
      refine (unhide HE).mono ?_
      rintro e w1 ⟨v1,rfl,hs1, -,hk1'⟩
      have HB1:=hide (hk1' _ _ _ (by decide) HB0.out)
      have HWd1:Hid (∀ g,va=some ⟨g,0,none⟩→∃ cs,w1.heap[g]? = some (.cells cs 3 (0,0))∧∀ i (hi:i<(R.s t).words.length),cs.toList[i]? = some (.int .i64 (R.s t).words[i])):=fun g hg=>by
       obtain ⟨cs,q1,q2⟩:=HWd0.out g hg
       exact ⟨cs,hk1' _ _ _ (by decide) q1,q2⟩
      have HE1:=hide (hs1.eight (Below.refl _ _) ((R.s t).read:Int) (by rw [List.length_append];simp only [List.length_singleton];omega))
      clear hs1 hk1' HE HB0 HWd0 c0 c1 c2 c3 c4 p0
      generalize wr.heap.size=sb at *
      have y3:=(blk_cell (l:=[_,_,_,_,_]) HB1.out 3 _ rfl).1
      go_wp2_with fail
      refine (unhide HE1).mono ?_
      rintro e w2 ⟨v2,rfl,hs2, -,hk2'⟩
      have HB2:=hide (hk2' _ _ _ (by decide) HB1.out)
      have HWd2:Hid (∀ g,va=some ⟨g,0,none⟩→∃ cs,w2.heap[g]? = some (.cells cs 3 (0,0))∧∀ i (hi:i<(R.s t).words.length),cs.toList[i]? = some (.int .i64 (R.s t).words[i])):=fun g hg=>by
       obtain ⟨cs,q1,q2⟩:=HWd1.out g hg
       exact ⟨cs,hk2' _ _ _ (by decide) q1,q2⟩
      have HE2:=hide (hs2.eight (Below.refl _ _) ((R.s t).words.length:Int) (by rw [List.length_append,List.length_append];simp only [List.length_singleton];omega))
      clear hs2 hk2' HE1 HB1 HWd1 y3
      have y2:=(blk_cell (l:=[_,_,_,_,_]) HB2.out 2 _ rfl).1
      go_wp2_with fail
      refine (unhide HE2).mono ?_
      rintro e w3 ⟨v3,rfl,hs3, -,hk3'⟩
      have HB3:=hide (hk3' _ _ _ (by decide) HB2.out)
      have HWd3:Hid (∀ g,va=some ⟨g,0,none⟩→∃ cs,w3.heap[g]? = some (.cells cs 3 (0,0))∧∀ i (hi:i<(R.s t).words.length),cs.toList[i]? = some (.int .i64 (R.s t).words[i])):=fun g hg=>by
       obtain ⟨cs,q1,q2⟩:=HWd2.out g hg
       exact ⟨cs,hk3' _ _ _ (by decide) q1,q2⟩
      have HS3:=hide hs3
      clear hs3 hk3' HE2 HB2 HWd2 y2
      go_wp2
      go_loopw [3,9] (fun st i wq=>∃ j:Nat,j≤(R.s t).words.length∧i=.int .i64 j∧Sav w wq st (saveW R N.workers.length++saveS N R t++[((R.s t).room:Int)]++[((R.s t).read:Int)]++[((R.s t).words.length:Int)]++(R.s t).words.take j)∧wq.heap[sb]? = some (.cells #[.bool false,.bool (used N t),.slice va (R.s t).words.length vc,.int .i64 ((R.s t).read:Int),.int .i64 ((R.s t).room:Int)] 88 (0,0))∧∀ g,va=some ⟨g,0,none⟩→∃ cs,wq.heap[g]? = some (.cells cs 3 (0,0))∧∀ i (hi:i<(R.s t).words.length),cs.toList[i]? = some (.int .i64 (R.s t).words[i])) (fun _ i _=>(R.s t).words.length-(intOf i).toNat)
      case atStart=>exact ⟨0,Nat.zero_le _,rfl,by simpa using HS3.out,HB3.out,HWd3.out⟩
      case round=>
       clear HS3 HB3 HWd3
       obtain ⟨j,hj,rfl,hsv,hbk,hwd⟩:=hrel
       have y2:=(blk_cell (l:=[_,_,_,_,_]) hbk 2 _ rfl).1
       by_cases hjl:j<(R.s t).words.length
       ·obtain ⟨g,rfl⟩:=HNil.out (by omega)
        obtain ⟨cs,q1,q2⟩:=hwd g rfl
        have q1':wr.heap[g]? = some (.cells cs.toList.toArray 3 (0,0)):=by simpa using q1
        have d0:=row_cell q1' (q2 j hjl)
        have hj0:(0:Int)≤(j:Int):=by omega
        have hj1:(j:Int)<((R.s t).words.length:Int):=by omega
        have HE4:=hide (hsv.eight (Below.refl _ _) ((R.s t).words[j]) (by rw [List.length_append,List.length_append,List.length_append,List.length_append,List.length_take];simp only [List.length_singleton];omega))
        have HTk:Hid ((R.s t).words.take (j+1)=(R.s t).words.take j++[(R.s t).words[j]]):=List.take_succ_eq_append_getElem hjl
        have HBk:=hide hbk
        have HWk:=hide hwd
        clear hsv hbk hwd q1 q2 q1'
        generalize (R.s t).words[j]=xj at *
        go_wp2_with fail
        refine (unhide HE4).mono ?_
        rintro e w4 ⟨v4,rfl,hs4, -,hk4⟩
        have HS4:Hid (Sav w w4 v4 (saveW R N.workers.length++saveS N R t++[((R.s t).room:Int)]++[((R.s t).read:Int)]++[((R.s t).words.length:Int)]++(R.s t).words.take (j+1))):=by
         rw [HTk.out, ← List.append_assoc];exact hs4
        have HB4:=hide (hk4 _ _ _ (by decide) HBk.out)
        have HW4:Hid (∀ g2,(some ⟨g,0,none⟩:Option Addr)=some ⟨g2,0,none⟩→∃ cs,w4.heap[g2]? = some (.cells cs 3 (0,0))∧∀ i (hi:i<(R.s t).words.length),cs.toList[i]? = some (.int .i64 (R.s t).words[i])):=fun g2 hg=>by
         obtain ⟨cs,q1,q2⟩:=HWk.out g2 hg
         exact ⟨cs,hk4 _ _ _ (by decide) q1,q2⟩
        clear hs4 hk4 HE4 HTk HBk HWk d0 y2
        go_wp2
        go_roundw
        case rel=>exact ⟨j+1,by omega,by go_num,HS4.out,HB4.out,HW4.out⟩
        case measure=>simp [intOf];omega
       ·have hje:j=(R.s t).words.length:=by omega
        have hj1:¬ (j:Int)<((R.s t).words.length:Int):=by omega
        have HS5:=hide hsv
        clear hsv hbk hwd
        go_wp2
        go_roundw
        case rel=>
         refine ⟨t+1,by omega,by go_num,?_⟩
         rw [HSs.out]
         have:=HS5.out
         rw [hje,List.take_length] at this
         simpa [stNums] using this
        case measure=>simp [intOf];omega
     ·rw [hsr] at c0 HSs hpre
      have HE:=hide (hsv.eight (wx:=wr.alloc (.cells #[.bool true,.bool (used N t),.slice va (R.s t).words.length vc,.int .i64 ((R.s t).read:Int),.int .i64 ((R.s t).room:Int)] 88)) ((Below.refl _ _).alloc (Nat.le_refl _) _) ((R.s t).read:Int) (by simp [stNums] at hpre;simp;omega))
      clear hsv hsr
      go_wp2_with fail
      refine (unhide HE).mono ?_
      rintro e w1 ⟨v1,rfl,hs1, -, -⟩
      have HS2:Hid (Sav w w1 v1 (saveW R N.workers.length++saveS N R (t+1))):=by
       rw [HSs.out];exact hs1
      clear hs1 HE c0 c1 c2 c3 c4 p0
      go_wp2
      go_roundw
      case rel=>exact ⟨t+1,by omega,by go_num,HS2.out⟩
      case measure=>simp [intOf];omega
    ·have hte:t=N.streams.length:=by omega
     have ht1:¬ (t:Int)<(N.streams.length:Int):=by omega
     subst hte
     have hpos:0<(bytesOf (saveNums N R)).length:=by
      rw [bytesOf_length,saveNums,List.length_append,saveW_length];omega
     have hat:SvAt w.heap.size wr _ (bytesOf (saveNums N R)):=hsv.at'
     obtain ⟨sa,sc,hsl⟩:=own_slice hat
     rw [hsl] at hat
     have hcv:=sv_conv hat (by rw [bytesOf_length];omega) hpos
     have HB:=hide hsv.below
     clear hsv hR hat
     subst hsl
     go_wp2
     go_ret
     exact ⟨rfl,HB.out⟩
theorem rhas_save {wz:World} {A:Nat→Prop} {p:Nat} {N:Net} {R:Rc} {w:World} (h:RHas wz A p N R w) (hlen:(saveNums N R).length≤4398046511104) :
  Calls Tryz.prog 41 #[.pointer (some ⟨p,0,none⟩)] w fun e w'=>e=.returned (.string (strOfNums (bytesOf (saveNums N R))))∧Below w.heap.size w w':=by
 obtain ⟨L,rfl,h2,h3,h4⟩:=h.ex
 exact refSave_calls h2 hlen
section
variable {wz:World} {base p:Nat} {v0:Value} {c d sd cx cy x y:Nat} {n:Net} {vs vr vw:Value} {col:Nat→Nat} {w:World} {R Rx Ry:Rc}
theorem Sd.byts (h:Sd wz base p v0 c sd cx cy x y n vs vr vw col w Rx Ry) {g0:Option Nat} {w':World} (hg0:∀ g,g0=some g→base≤g∧col g=22) (hk:KeptB base col w p v0 c g0 w'):∃ col',Sd wz base p v0 (c+4) sd cx cy x y n vs vr vw col' w' Rx Ry∧Fr (fun b=>g0=some b∨(base≤b∧col b≤8)) w w'∧∀ b,b<w.heap.size→g0≠some b→col' b=col b:=by
 obtain ⟨col',h1,h2,h3⟩:=hk.ex
 have hz:Below wz.heap.size wz w':=h.wzm.trans ⟨hk.fr.os,hk.fr.tape,hk.fr.output,hk.fr.size,fun b hb=>hk.fr.block b (by have:=h.wzm.size;omega) (fun e=>by
  have h9:=h.bk.low b (by have:=h.wzb;omega)
  rcases e with e | e
  ·have:=(hg0 b e).2;omega
  ·omega)⟩
 have hx:=h.x0
 have hy:=h.y0
 refine ⟨col',⟨h.at'.frame (fun b hb e=>?_) hz,h1,hz,h.wzb,h.x0,h.x9,h.y0,h.y9,h.ne,h.fits,h.net,h.short⟩,hk.fr,h2⟩
 have hn:g0≠some b:=fun e'=>by have:=(hg0 b e').2;omega
 exact ⟨hk.fr.block b hb (fun e'=>by rcases e' with e' | e';exact hn e';omega),h2 b hb hn⟩
theorem Fine.saves {N:Net} {R:Rc} {d:Nat} (h:Fine N R d) (hd:d+500≤274877906944):Saves N R:=⟨fun s hs hu hq=>h.nord s hs hu hq,fun s hs=>by have:=h.words s hs;omega⟩
set_option maxRecDepth 100000 in
set_option maxHeartbeats 4000000 in
theorem step_k9 (h:Sd wz base p v0 c sd cx cy x y n vs vr vw col w R R) (hf:Fine n R d) (hd:d+1048576≤274877906944) (hc:c+4194304≤1099511627776) (num:Int) (sched:List Int) (sa:Option Addr) (sc:Nat) (net:Net) (a0:Option Addr) (c0:Nat) (a1:Option Addr) (c1:Nat) (a2:Option Addr) (c2:Nat) (str:ByteArray) (which:Bool) :
  Calls Tryz.prog 16 #[.pointer (some ⟨p,0,none⟩),.pointer (some ⟨sd,0,none⟩),.agg #[.int .i64 9,.int .i64 num,.slice sa sched.length sc,.slice a0 net.streams.length c0,.slice a1 net.sources.length c1,.slice a2 net.workers.length c2,.string str,.bool which]] w fun e w'=>e=.returned (.bool true)∧Went2 wz base p v0 c d sd cx cy n vs vr vw col w w':=by
 have hbx:=h.box (.cells #[.int .i64 9,.int .i64 num,.slice sa sched.length sc,.slice a0 net.streams.length c0,.slice a1 net.sources.length c1,.slice a2 net.workers.length c2,.string str,.bool which] 65)
 obtain ⟨W,hW⟩:∃ W,W=w.alloc (.cells #[.int .i64 9,.int .i64 num,.slice sa sched.length sc,.slice a0 net.streams.length c0,.slice a1 net.sources.length c1,.slice a2 net.workers.length c2,.string str,.bool which] 65):=⟨_,rfl⟩
 have s0:=hbx.1.cells.1
 rw [← hW] at hbx
 have HW:=hide hW
 clear hW
 obtain ⟨h1,hdid⟩:=hbx
 have hlen:=hf.len
 have hbl:(bytesOf (saveNums n R)).length≤4398046511104:=by rw [bytesOf_length];omega
 have hb0:0<(bytesOf (saveNums n R)).length:=by
  rw [bytesOf_length,saveNums,List.length_append,saveW_length]
  have:=(valid_counts h.ok).2.2.1
  omega
 have HX:=hide (has_save h1.at'.hx (hf.saves (by omega)))
 have HCv:Hid (∀ w1 a m cap,SvAt W.heap.size w1 (.slice a m cap) (bytesOf (saveNums n R))→(convert 100 9 (.slice a m cap)).run Tryz.prog w1=.ok (.string (strOfNums (bytesOf (saveNums n R)))) w1):=fun w1 a m cap hv=>sv_conv hv (by omega) hb0
 have HY:Hid (∀ w1 a m cap,Below W.heap.size W w1→SvAt W.heap.size w1 (.slice a m cap) (bytesOf (saveNums n R))→(w1.drew.cell? ⟨sd,1,none⟩=some (.pointer (some ⟨y,0,none⟩))∧(convert 100 9 (.slice a m cap)).run Tryz.prog w1.drew=.ok (.string (strOfNums (bytesOf (saveNums n R)))) w1.drew)∧Calls Tryz.prog 41 #[.pointer (some ⟨y,0,none⟩)] w1.drew fun e w'=>e=.returned (.string (strOfNums (bytesOf (saveNums n R))))∧(w'.cell? ⟨sd,1,none⟩=some (.pointer (some ⟨y,0,none⟩))∧(convert 100 9 (.slice a m cap)).run Tryz.prog w'=.ok (.string (strOfNums (bytesOf (saveNums n R)))) w')∧Below W.heap.size W w'∧SvAt W.heap.size w' (.slice a m cap) (bytesOf (saveNums n R))):=fun w1 a m cap hb hv=>by
  have hbd:Below W.heap.size W w1.drew:=below_drewN hb 1
  have hvd:SvAt W.heap.size w1.drew (.slice a m cap) (bytesOf (saveNums n R)):=hv
  have h2:=h1.belowQ 22 hbd
  refine ⟨⟨h2.cells.2.1,HCv.out _ _ _ _ hvd⟩,(rhas_save h2.at'.hy (by omega)).mono fun e w' ⟨r1,r2⟩=>?_⟩
  have hb':=hbd.trans (r2.mono hbd.size)
  have hv':SvAt W.heap.size w' (.slice a m cap) (bytesOf (saveNums n R)):=own_of_blockB hvd fun g hg=>r2.block g (hvd.lt hg).1
  exact ⟨r1,⟨(h1.belowQ 22 hb').cells.2.1,HCv.out _ _ _ _ hv'⟩,hb',hv'⟩
 have HKp:Hid (∀ w1,Below W.heap.size W w1→Calls Tryz.prog 17 #[.pointer (some ⟨p,0,none⟩)] w1 fun e w'=>e=.returned (.bool true)∧∃ q,w'=w1.drewN q):=fun w1 hb=>(h1.belowQ 22 hb).bk.kept (by omega)
 have HKn:Hid (∀ w1 v,Below W.heap.size W w1→SvAt W.heap.size w1 v (bytesOf (saveNums n R))→Calls Tryz.prog 42 #[.pointer (some ⟨p,0,none⟩),v] w1 fun e w'=>e=.returned (.tuple #[])∧Went2 wz base p v0 c d sd cx cy n vs vr vw col w w'):=fun w1 v hb hv=>by
  have h2:=h1.belowQ 22 hb
  have hbl':=h1.base_le
  have hgv:∀ g,v.ownBlock=some g→base≤g∧newcol (newcol col w.heap.size 22) W.heap.size 22 g=22:=fun g hg=>⟨by have:=(hv.lt hg).2;omega,newcol_new (hv.lt hg).2⟩
  refine (keep_calls h2.bk hv hb.size (fun g hg=>⟨(hgv g hg).1,by rw [(hgv g hg).2];omega⟩) hbl (by omega)).mono fun e w' ⟨q1,q2⟩=>⟨q1,?_⟩
  obtain ⟨col',k1,k2,k3⟩:=h2.byts hgv q2
  refine Went2.of hdid ⟨col',k1,⟨(Fr.of_below (S:=fun b=>base≤b∧(newcol col w.heap.size 22 b≤20∨newcol col w.heap.size 22 b=cx∨newcol col w.heap.size 22 b=cy∨b=sd)) hb).trans k2 (fun b hb' e=>?_),fun b hb' h20=>?_⟩⟩ (by omega) (hf.mono (by omega))
  ·rcases e with e | e
   ·have:=(hv.lt e).2;omega
   ·rw [newcol_old hb'] at e
    exact ⟨e.1,Or.inl (by omega)⟩
  ·rw [k3 b (by have:=hb.size;omega) (fun e=>by have:=(hv.lt e).2;omega),newcol_old hb']
 clear h hf hd hc h1 hdid hlen hbl
 generalize strOfNums (bytesOf (saveNums n R))=st at *
 generalize bytesOf (saveNums n R)=bs at *
 go_enter Tryz.func16,Tryz.ntmps16
 go_wp2_with fail
 rw [← HW.out]
 refine (unhide HX).mono ?_
 rintro e w1 ⟨v,rfl,hsv,hb1⟩
 obtain ⟨a,cap,rfl⟩:=own_slice hsv
 obtain ⟨⟨s1,hcv⟩,hY⟩:=HY.out w1 _ _ _ hb1 hsv
 have HY1:=hide hY
 clear hY hsv HX HY HCv s0 hb1
 go_wp2
 go_region_held3 (fun w'=>w'.cell? ⟨sd,1,none⟩=some (.pointer (some ⟨y,0,none⟩))∧(convert 100 9 (.slice a bs.length cap)).run Tryz.prog w'=.ok (.string st) w') (simp [*])
  ((go_at_call 41;refine (unhide HY1).mono ?_;rintro e w2 ⟨rfl,⟨s1,hcv2⟩,hb2,hsv2⟩;have HSv2:=hide hsv2;have HB2:=hide hb2;have HK1:=hide (HKp.out w2 hb2);clear hb2 hsv2))
 clear HY1 HKp hcv s1
 go_wp2_with fail
 refine (unhide HK1).mono ?_
 rintro e w3 ⟨rfl,q,rfl⟩
 have HN1:=hide (HKn.out (w2.drewN q) _ (below_drewN HB2.out q) HSv2.out)
 clear HK1 HKn HSv2 HB2
 go_wp2_with fail
 refine (unhide HN1).mono ?_
 rintro e w4 ⟨rfl,ht⟩
 have HT:=hide ht
 clear ht HN1
 go_wp2
 go_ret
 exact ⟨rfl,HT.out⟩
end
set_option maxRecDepth 100000 in
theorem refNumber_out (s:ByteArray) (k:Int) (w:World) (h:k<0∨(0≤k∧(s.size:Int)<k+8)) (hk:k≤1099511627776000) :
  Calls Tryz.prog 91 #[.string s,.int .i64 k] w fun e w'=>e=.returned (.tuple #[.int .i64 0,.int .i64 (-1)])∧w'=w:=by
 rcases h with h | ⟨h0,h1⟩
 ·have q:decide (k<0)=true:=by simpa using h
  go_enter Tryz.func91,Tryz.ntmps91
  go_wp2
  go_ret2
  exact ⟨rfl,rfl⟩
 ·have q:decide (k<0)=false:=by simpa using h0
  have wr1:wrap64 (k+8)=k+8:=by unfold wrap64;omega
  go_enter Tryz.func91,Tryz.ntmps91
  go_wp2
  go_ret2
  exact ⟨rfl,rfl⟩
theorem ofInt_wrap (z:Int):BitVec.ofInt 64 (wrap64 z)=BitVec.ofInt 64 z:=by
 apply BitVec.eq_of_toNat_eq
 simp only [BitVec.toNat_ofInt]
 unfold wrap64
 congr 1
 omega
theorem or_low_i (a b:Int) (ha:0≤a) (ha1:a<72057594037927936) (hb:0≤b) (hb1:b<256):bits .or .i64 (wrap64 (a*256)) b=wrap64 (a*256+b):=by
 have h:=or_low a b ha ha1 hb hb1
 have e:bits .or .i64 (wrap64 (a*256)) b=IntKind.i64.wrap (((BitVec.ofInt 64 (wrap64 (a*256)) ||| BitVec.ofInt 64 b).toNat:Nat):Int):=rfl
 have e2:bits .or .u64 (a*256) b=IntKind.u64.wrap (((BitVec.ofInt 64 (a*256) ||| BitVec.ofInt 64 b).toNat:Nat):Int):=rfl
 rw [e2,wrap_u64] at h
 have hlt:(BitVec.ofInt 64 (a*256) ||| BitVec.ofInt 64 b).toNat<18446744073709551616:=(BitVec.ofInt 64 (a*256) ||| BitVec.ofInt 64 b).isLt
 rw [e,ofInt_wrap]
 generalize (BitVec.ofInt 64 (a*256) ||| BitVec.ofInt 64 b).toNat=t at *
 have:(t:Int)=a*256+b:=by omega
 rw [this,IntKind.wrap_i64]
 unfold wrap64
 omega
def bytesL (s:ByteArray):List Int:=s.data.toList.map fun x=>(x.toNat:Int)
theorem bytesL_length (s:ByteArray):(bytesL s).length=s.size:=by unfold bytesL;rw [List.length_map,Array.length_toList];rfl
theorem bytesL_bd (s:ByteArray):∀ x∈bytesL s,0≤x∧x<256:=fun x hx=>by
 obtain ⟨y, -,rfl⟩:=List.mem_map.1 hx
 have:=y.toNat_lt
 omega
theorem bytesL_get (s:ByteArray) (i:Nat) (h:i<s.size):((s[i]'h).toNat:Int)=(bytesL s).getD i 0:=by
 have h':i<s.data.toList.length:=by rw [Array.length_toList];exact h
 simp only [bytesL,List.getD,List.getElem?_map,List.getElem?_eq_getElem h',Option.map_some,Option.getD_some]
 rfl
theorem eightB_of (b0 b1 b2 b3 b4 b5 b6 b7:Int) (h0:0≤b0∧b0<256) (h1:0≤b1∧b1<256) (h2:0≤b2∧b2<256) (h3:0≤b3∧b3<256) (h4:0≤b4∧b4<256) (h5:0≤b5∧b5<256) (h6:0≤b6∧b6<256) (h7:0≤b7∧b7<256) :
  ∃ x,Fits64 x∧eightB x=[b0,b1,b2,b3,b4,b5,b6,b7]:=by
 obtain ⟨u,hu⟩:∃ u,u=b0*72057594037927936+b1*281474976710656+b2*1099511627776+b3*4294967296+b4*16777216+b5*65536+b6*256+b7:=⟨_,rfl⟩
 refine ⟨wrap64 u,by unfold Fits64 wrap64;omega,?_⟩
 have e:wrap64 u%18446744073709551616=u:=by unfold wrap64;omega
 simp only [eightB,byteAt,e,List.range,List.range.loop,List.map_cons,List.map_nil,Nat.reduceMul,Nat.reduceSub,Int.reducePow]
 refine List.cons_eq_cons.2 ⟨by omega,List.cons_eq_cons.2 ⟨by omega,List.cons_eq_cons.2 ⟨by omega,List.cons_eq_cons.2 ⟨by omega,List.cons_eq_cons.2 ⟨by omega,List.cons_eq_cons.2 ⟨by omega,List.cons_eq_cons.2 ⟨by omega,List.cons_eq_cons.2 ⟨by omega,rfl⟩⟩⟩⟩⟩⟩⟩⟩
theorem bytes_split:∀ (n:Nat) (b:List Int),b.length≤n→(∀ x∈b,0≤x∧x<256)→∃ l rs,b=bytesOf l++rs∧rs.length<8∧∀ x∈l,Fits64 x
 | 0,b,hn,_=>⟨[],b,rfl,by omega,fun x hx=>by cases hx⟩
 | n+1,b,hn,hb=>by
  match b,hn,hb with
  | b0::b1::b2::b3::b4::b5::b6::b7::b',hn,hb=>
   obtain ⟨l,rs,e,h8,hf⟩:=bytes_split n b' (by simp at hn;omega) fun x hx=>hb x (by simp [hx])
   obtain ⟨x,hx,ex⟩:=eightB_of b0 b1 b2 b3 b4 b5 b6 b7 (hb _ (by simp)) (hb _ (by simp)) (hb _ (by simp)) (hb _ (by simp)) (hb _ (by simp)) (hb _ (by simp)) (hb _ (by simp)) (hb _ (by simp))
   refine ⟨x::l,rs,?_,h8,fun y hy=>?_⟩
   ·rw [bytesOf_cons,ex,e];rfl
   ·rcases List.mem_cons.1 hy with rfl | hy
    ·exact hx
    ·exact hf y hy
  | [],_,_=>exact ⟨[],[],rfl,by decide,fun x hx=>by cases hx⟩
  | [a],_,_=>exact ⟨[],[a],rfl,by simp only [List.length_cons,List.length_nil];omega,fun x hx=>by cases hx⟩
  | [a,b],_,_=>exact ⟨[],[a,b],rfl,by simp only [List.length_cons,List.length_nil];omega,fun x hx=>by cases hx⟩
  | [a,b,c],_,_=>exact ⟨[],[a,b,c],rfl,by simp only [List.length_cons,List.length_nil];omega,fun x hx=>by cases hx⟩
  | [a,b,c,d],_,_=>exact ⟨[],[a,b,c,d],rfl,by simp only [List.length_cons,List.length_nil];omega,fun x hx=>by cases hx⟩
  | [a,b,c,d,e],_,_=>exact ⟨[],[a,b,c,d,e],rfl,by simp only [List.length_cons,List.length_nil];omega,fun x hx=>by cases hx⟩
  | [a,b,c,d,e,f],_,_=>exact ⟨[],[a,b,c,d,e,f],rfl,by simp only [List.length_cons,List.length_nil];omega,fun x hx=>by cases hx⟩
  | [a,b,c,d,e,f,g],_,_=>exact ⟨[],[a,b,c,d,e,f,g],rfl,by simp only [List.length_cons,List.length_nil];omega,fun x hx=>by cases hx⟩
structure StrIs (s:ByteArray) (l rs:List Int):Prop where
 eq:bytesL s=bytesOf l++rs
 short:rs.length<8
 fits:∀ x∈l,Fits64 x
theorem str_is (s:ByteArray):∃ l rs,StrIs s l rs:=by
 obtain ⟨l,rs,h1,h2,h3⟩:=bytes_split _ _ (Nat.le_refl _) (bytesL_bd s)
 exact ⟨l,rs,h1,h2,h3⟩
theorem StrIs.size {s:ByteArray} {l rs:List Int} (h:StrIs s l rs):s.size=8*l.length+rs.length:=by
 rw [← bytesL_length,h.eq,List.length_append,bytesOf_length]
theorem bytesOf_getD (l rs:List Int) (k j:Nat) (hk:k<l.length) (hj:j<8):(bytesOf l++rs).getD (8*k+j) 0=byteAt (l.getD k 0) (56-8*j):=by
 have e:l=l.take k++l[k]::l.drop (k+1):=by rw [← List.drop_eq_getElem_cons hk,List.take_append_drop]
 have e2:bytesOf l=bytesOf (l.take k)++(eightB l[k]++bytesOf (l.drop (k+1))):=by
  conv=>lhs;rw [e,bytesOf_append,bytesOf_cons]
 have hl:(bytesOf (l.take k)).length=8*k:=by rw [bytesOf_length,List.length_take];omega
 rw [e2,List.append_assoc, ← hl,getD_append_right,List.append_assoc,getD_append_left _ _ _ _ (by rw [eightB_length];exact hj),eightB_getD _ _ hj,getD_eq _ _ _ hk]
def atN (L k:Nat):Int:=if k≤L then 8*k else -1
set_option maxRecDepth 100000 in
set_option maxHeartbeats 2000000 in
theorem refNumber_in {s:ByteArray} {l rs:List Int} (h:StrIs s l rs) (k:Nat) (hk:k<l.length) (hl:l.length≤4398046511104) (w:World) :
  Calls Tryz.prog 91 #[.string s,.int .i64 (8*k:Int)] w fun e w'=>e=.returned (.tuple #[.int .i64 (l.getD k 0),.int .i64 (8*k+8:Int)])∧w'=w:=by
 have hsz:=h.size
 have hfx:Fits64 (l.getD k 0):=by rw [getD_eq _ _ _ hk];exact h.fits _ (List.getElem_mem hk)
 have HI:Hid (∀ j (hj:j<8) (hi:8*k+j<s.size),((s[8*k+j]'hi).toNat:Int)=byteAt (l.getD k 0) (56-8*j)):=fun j hj hi=>by
  rw [bytesL_get,h.eq,bytesOf_getD _ _ _ _ hk hj]
 have q0:decide ((8*k:Int)<0)=false:=by simp;omega
 have wr1:wrap64 (8*k+8:Int)=8*k+8:=by unfold wrap64;omega
 have q1:¬ ((s.size:Int)<8*k+8):=by omega
 have hk0:(0:Int)≤8*(k:Int):=by omega
 have hk1:(8*(k:Int))+8≤(s.size:Int):=by omega
 obtain ⟨x,hx⟩:∃ x,x=l.getD k 0:=⟨_,rfl⟩
 rw [← hx] at hfx HI ⊢
 have hu0:(0:Int)≤x%18446744073709551616:=by omega
 have hu1:x%18446744073709551616<18446744073709551616:=by omega
 have HB:Hid (∀ j,byteAt x (56-8*j)=x%18446744073709551616 / 2^(56-8*j)%256):=fun j=>rfl
 have HE:Hid (wrap64 (accN (x%18446744073709551616) 8)=x):=by
  unfold Hid accN wrap64
  simp
  obtain ⟨q1,q2⟩:=hfx
  omega
 have H0:Hid (wrap64 (accN (x%18446744073709551616) 0)=0):=by
  unfold Hid accN wrap64
  simp
  omega
 clear h hfx hx hsz
 generalize x%18446744073709551616=u at *
 go_enter Tryz.func91,Tryz.ntmps91
 go_wp2
 go_loopw [6,7] (fun v i wr=>∃ j:Nat,j≤8∧i=.int .i64 j∧v=.int .i64 (wrap64 (accN u j))∧wr=w) (fun _ i _=>8-(intOf i).toNat)
 case atStart=>exact ⟨0,by omega,rfl,by rw [H0.out],rfl⟩
 case round=>
  obtain ⟨j,hj,rfl,rfl,hwr⟩:=hrel
  subst hwr
  by_cases hlt:j<8
  ·have hi0:8*k+j<s.size:=by omega
   have hb:=HI.out j hlt hi0
   have hst:=accN_step u j hlt
   rw [← HB.out j] at hst
   obtain ⟨ha0,ha1⟩:=accN_bd u j hu0 hu1 hlt
   obtain ⟨hb0,hb1⟩:=byteAt_bd x (56-8*j)
   have hor:=or_low_i (accN u j) (byteAt x (56-8*j)) ha0 ha1 hb0 hb1
   have wr2:wrap64 (8*(k:Int)+j)=((8*k+j:Nat):Int):=by unfold wrap64;omega
   have hsh:wrap64 (wrap64 (accN u j)*256)=wrap64 (accN u j*256):=by unfold wrap64;omega
   have HST:=hide hst
   clear hst HB HI
   generalize byteAt x (56-8*j)=bt at *
   generalize accN u j=ac at *
   go_wp2
   go_roundw
   case rel=>exact ⟨j+1,by omega,by go_num,by rw [HST.out],by first | rfl | trivial⟩
   case measure=>simp [intOf];omega
  ·have hj8:j=8:=by omega
   subst hj8
   rw [HE.out]
   go_wp2
   go_ret2
   exact ⟨rfl,rfl⟩
theorem refNumber_calls {s:ByteArray} {l rs:List Int} (h:StrIs s l rs) (k:Nat) (hl:l.length≤4398046511104) (w:World) :
  Calls Tryz.prog 91 #[.string s,.int .i64 (atN l.length k)] w fun e w'=>e=.returned (.tuple #[.int .i64 (l.getD k 0),.int .i64 (atN l.length (k+1))])∧w'=w:=by
 have hsz:=h.size
 have hsh:=h.short
 rcases Nat.lt_or_ge k l.length with hk | hk
 ·have e1:atN l.length k=8*k:=by unfold atN;rw [if_pos (by omega)]
  have e2:atN l.length (k+1)=8*k+8:=by unfold atN;rw [if_pos (by omega)];omega
  rw [e1,e2]
  exact refNumber_in h k hk hl w
 ·have e2:atN l.length (k+1) = -1:=by unfold atN;rw [if_neg (by omega)]
  have e3:l.getD k 0=0:=by simp [List.getD,List.getElem?_eq_none hk]
  rw [e2,e3]
  refine refNumber_out s _ w ?_ ?_
  ·unfold atN;split<;>omega
  ·unfold atN;split<;>omega
def getW (cl:Nat):List Int→Option (Wk×List Int)
 | a::b::c::d::e::f::l=>if 0≤a∧a≤cl then some (⟨a.toNat,fun i=>if i=0 then b else if i=1 then c else if i=2 then d else if i=3 then e else 0,f⟩,l) else none
 | _=>none
def getS (sourced used:Bool) (m0:Sm) (l:List Int):Option (Sm×List Int):=
 if sourced then
  match l with
  | x::l=>if 0≤x∧x≤m0.words.length then some ({m0 with read:=x.toNat},l) else none
  | _=>none
 else
  match l with
  | a::b::c::l=>if (0≤c∧c≤l.length∧0≤b∧b≤c)∧(m0.room≤a∧a≤40)∧(used=false→a=m0.room∧b=0)∧(used=true→c-b≤a) then some (⟨l.take c.toNat,b.toNat,a.toNat⟩,l.drop c.toNat) else none
  | _=>none
def parseW (N:Net):Nat→Rc→List Int→Option (Rc×List Int)
 | 0,R,l=>some (R,l)
 | k+1,R,l=>(getW (codeOf N (N.workers.length-(k+1))).length l).bind fun p=>parseW N k ⟨R.W.set (N.workers.length-(k+1)) p.1,R.S⟩ p.2
def parseS (N:Net):Nat→Rc→List Int→Option (Rc×List Int)
 | 0,R,l=>some (R,l)
 | k+1,R,l=>(getS (srcd N (N.streams.length-(k+1))) (used N (N.streams.length-(k+1))) (R.s (N.streams.length-(k+1))) l).bind fun p=>parseS N k ⟨R.W,R.S.set (N.streams.length-(k+1)) p.1⟩ p.2
def loadR (N:Net) (l rs:List Int):Option Rc:=
 (parseW N N.workers.length (initR N N.streams) l).bind fun p=>(parseS N N.streams.length p.1 p.2).bind fun q=>if q.2=[]∧rs=[] then some q.1 else none
theorem parseW_at {N:Net} {k:Nat} (h:k<N.workers.length) (R:Rc) (l:List Int):parseW N (N.workers.length-k) R l=(getW (codeOf N k).length l).bind fun p=>parseW N (N.workers.length-(k+1)) ⟨R.W.set k p.1,R.S⟩ p.2:=by
 obtain ⟨m,hm⟩:∃ m,N.workers.length-k=m+1:=⟨N.workers.length-k-1,by omega⟩
 rw [hm,parseW,show N.workers.length-(m+1)=k by omega,show N.workers.length-(k+1)=m by omega]
theorem parseS_at {N:Net} {k:Nat} (h:k<N.streams.length) (R:Rc) (l:List Int):parseS N (N.streams.length-k) R l=(getS (srcd N k) (used N k) (R.s k) l).bind fun p=>parseS N (N.streams.length-(k+1)) ⟨R.W,R.S.set k p.1⟩ p.2:=by
 obtain ⟨m,hm⟩:∃ m,N.streams.length-k=m+1:=⟨N.streams.length-k-1,by omega⟩
 rw [hm,parseS,show N.streams.length-(m+1)=k by omega,show N.streams.length-(k+1)=m by omega]
theorem getW_some {cl:Nat} {l l':List Int} {y:Wk} (h:getW cl l=some (y,l')):l=wkNums y++l'∧y.place≤cl∧((∀ x∈l,Fits64 x)→FitsA y):=by
 unfold getW at h
 split at h
 ·split at h
  ·rename_i a b c d e f l0 hc
   cases h
   refine ⟨by simp [wkNums];omega,by dsimp only;omega,fun hf=>⟨fun i=>?_,hf _ (by simp)⟩⟩
   dsimp only
   split
   ·exact hf _ (by simp)
   ·split
    ·exact hf _ (by simp)
    ·split
     ·exact hf _ (by simp)
     ·split
      ·exact hf _ (by simp)
      ·exact ⟨by decide,by decide⟩
  ·cases h
 ·cases h
theorem getW_none {cl:Nat} {l:List Int} (h:getW cl l=none):l.length<6∨∃ a l1,l=a::l1∧(a<0∨(cl:Int)<a):=by
 unfold getW at h
 split at h
 ·split at h
  ·cases h
  ·exact Or.inr ⟨_,_,rfl,by omega⟩
 ·rename_i hne
  refine Or.inl (Nat.lt_of_not_le fun h6=>?_)
  match l,h6,hne with
  | a::b::c::d::e::f::l0,_,hne=>exact hne a b c d e f l0 rfl
theorem getS_some {sourced used:Bool} {m0 m:Sm} {l l':List Int} (h:getS sourced used m0 l=some (m,l')) :
  l=stNums sourced m++l'∧m.read≤m.words.length∧(sourced=true→m.words=m0.words∧m.room=m0.room)∧(sourced=false→(∀ x∈m.words,x∈l)∧m0.room≤m.room∧m.room≤40∧(used=false→m.room=m0.room∧m.read=0)∧(used=true→m.words.length-m.read≤m.room)):=by
 unfold getS at h
 cases sourced with
 | true=>
  simp only [if_true] at h
  split at h
  ·split at h
   ·cases h
    refine ⟨by simp [stNums];omega,by dsimp only;omega,fun _=>⟨rfl,rfl⟩,fun e=>by cases e⟩
   ·cases h
  ·cases h
 | false=>
  simp only [Bool.false_eq_true,if_false] at h
  split at h
  ·rename_i a b c l0
   split at h
   ·rename_i hc
    obtain ⟨⟨h1,h2,h3,h4⟩,⟨h5,h6⟩,h7,h8⟩:=hc
    cases h
    have hlen:(l0.take c.toNat).length=c.toNat:=by rw [List.length_take];omega
    refine ⟨?_,by dsimp only;rw [hlen];omega,fun e=>(by cases e),fun _=>⟨fun x hx=>?_,by dsimp only;omega,by dsimp only;omega,fun e=>?_,fun e=>?_⟩⟩
    ·simp only [stNums,Bool.false_eq_true,if_false,hlen]
     rw [List.append_assoc,List.take_append_drop]
     simp;omega
    ·exact List.mem_cons_of_mem _ (List.mem_cons_of_mem _ (List.mem_cons_of_mem _ (List.mem_of_mem_take hx)))
    ·have:=h7 e;dsimp only;omega
    ·have:=h8 e;dsimp only;rw [hlen];omega
   ·cases h
  ·cases h
structure Half (N:Net) (R:Rc):Prop where
 lenW:R.W.length=N.workers.length
 lenS:R.S.length=N.streams.length
 room:RoomR N R
 grew:∀ s,s<N.streams.length→if heldB N s=true then (N.streams.getD s 0).toNat≤(R.s s).room else (R.s s).room=(N.streams.getD s 0).toNat
 fitsW:∀ k,k<N.workers.length→FitsA (R.w k)
 fitsS:∀ s,s<N.streams.length→∀ x∈(R.s s).words,Fits64 x
 nord:∀ s,s<N.streams.length→used N s=false→srcd N s=false→(R.s s).read=0
 src:∀ s,s<N.streams.length→srcd N s=true→(R.s s).words=srcWords N s
theorem Fine.half {N:Net} {R:Rc} {c:Nat} (h:Fine N R c):Half N R:=⟨h.lenW,h.lenS,h.room,h.grew,h.fitsW,h.fitsS,h.nord,h.src⟩
theorem set_w {R:Rc} {k:Nat} {y:Wk} (hk:k<R.W.length) (j:Nat):(⟨R.W.set k y,R.S⟩:Rc).w j=if j=k then y else R.w j:=by
 split
 ·rename_i e;subst e;exact getD_set_self _ _ _ _ hk
 ·rename_i e;exact getD_set_ne _ _ _ _ _ (fun e'=>e e'.symm)
theorem set_s {R:Rc} {k:Nat} {m:Sm} (hk:k<R.S.length) (j:Nat):(⟨R.W,R.S.set k m⟩:Rc).s j=if j=k then m else R.s j:=by
 split
 ·rename_i e;subst e;exact getD_set_self _ _ _ _ hk
 ·rename_i e;exact getD_set_ne _ _ _ _ _ (fun e'=>e e'.symm)
theorem Half.setW {N:Net} {R:Rc} (h:Half N R) {k:Nat} (hk:k<N.workers.length) {y:Wk} (hy:FitsA y):Half N ⟨R.W.set k y,R.S⟩:=by
 refine ⟨by simpa using h.lenW,h.lenS,h.room,h.grew,fun j hj=>?_,h.fitsS,h.nord,h.src⟩
 rw [set_w (by rw [h.lenW];exact hk)]
 split
 ·exact hy
 ·exact h.fitsW j hj
theorem Half.setS {N:Net} {R:Rc} (h:Half N R) {k:Nat} (hk:k<N.streams.length) {m:Sm} {l l':List Int} (hf:∀ x∈l,Fits64 x) (hg:getS (srcd N k) (used N k) (R.s k) l=some (m,l')):Half N ⟨R.W,R.S.set k m⟩:=by
 obtain ⟨-, -,h1,h2⟩:=getS_some hg
 have hks:k<R.S.length:=by rw [h.lenS];exact hk
 have hro:=h.room k hk
 have hgr:=h.grew k hk
 refine ⟨h.lenW,by simpa using h.lenS,fun j hj=>?_,fun j hj=>?_,h.fitsW,fun j hj=>?_,fun j hj=>?_,fun j hj=>?_⟩
 all_goals rw [set_s hks]
 all_goals by_cases e:j=k
 all_goals first | rw [if_pos e] | rw [if_neg e]
 ·subst e
  cases hs:srcd N j with
  | true=>rw [(h1 hs).2];exact hro
  | false=>exact (h2 hs).2.2.1
 ·exact h.room j hj
 ·subst e
  cases hs:srcd N j with
  | true=>rw [(h1 hs).2];exact hgr
  | false=>
   obtain ⟨-,q1, -,q3, -⟩:=h2 hs
   cases hu:used N j with
   | true=>
    have hh:heldB N j=true:=by simp [heldB,hu,hs]
    rw [hh] at hgr ⊢
    simp only [if_true] at hgr ⊢
    omega
   | false=>
    have hh:heldB N j=false:=by simp [heldB,hu]
    rw [hh] at hgr ⊢
    simp only [Bool.false_eq_true,if_false] at hgr ⊢
    rw [(q3 hu).1];exact hgr
 ·exact h.grew j hj
 ·subst e
  cases hs:srcd N j with
  | true=>rw [(h1 hs).1];exact h.fitsS j hj
  | false=>exact fun x hx=>hf x ((h2 hs).1 x hx)
 ·exact h.fitsS j hj
 ·subst e
  intro hu hs
  exact ((h2 hs).2.2.2.1 hu).2
 ·exact h.nord j hj
 ·subst e
  intro hs
  rw [(h1 hs).1];exact h.src j hj hs
 ·exact h.src j hj
theorem parseW_half {N:Net}:∀ (k:Nat) {R R':Rc} {l l':List Int},k≤N.workers.length→Half N R→(∀ x∈l,Fits64 x)→parseW N k R l=some (R',l')→Half N R'∧(∀ x∈l',Fits64 x)∧R'.S=R.S∧l.length=6*k+l'.length
 | 0,R,R',l,l',_,h,hf,e=>by
  simp only [parseW,Option.some.injEq,Prod.mk.injEq] at e
  obtain ⟨rfl,rfl⟩:=e
  exact ⟨h,hf,rfl,by omega⟩
 | k+1,R,R',l,l',hk,h,hf,e=>by
  rw [parseW,Option.bind_eq_some_iff] at e
  obtain ⟨⟨y,l1⟩,e1,e2⟩:=e
  obtain ⟨q1,q2,q3⟩:=getW_some e1
  have hf1:∀ x∈l1,Fits64 x:=fun x hx=>hf x (by rw [q1];exact List.mem_append_right _ hx)
  obtain ⟨r1,r2,r3,r4⟩:=parseW_half k (by omega) (h.setW (by omega) (q3 hf)) hf1 e2
  refine ⟨r1,r2,r3,?_⟩
  rw [q1,List.length_append,r4]
  simp [wkNums];omega
theorem saveS_congr {N:Net} {R S:Rc}:∀ t,(∀ s,s<t→S.s s=R.s s)→saveS N S t=saveS N R t
 | 0,_=>rfl
 | t+1,h=>by rw [saveS_succ,saveS_succ,saveS_congr t fun s hs=>h s (by omega),h t (by omega)]
theorem parseS_half {N:Net}:∀ (k:Nat) {R R':Rc} {l l':List Int},k≤N.streams.length→Half N R→(∀ x∈l,Fits64 x)→parseS N k R l=some (R',l')→Half N R'∧R'.W=R.W∧(saveS N R' N.streams.length).length+l'.length=(saveS N R (N.streams.length-k)).length+l.length
 | 0,R,R',l,l',_,h,hf,e=>by
  simp only [parseS,Option.some.injEq,Prod.mk.injEq] at e
  obtain ⟨rfl,rfl⟩:=e
  exact ⟨h,rfl,by simp⟩
 | k+1,R,R',l,l',hk,h,hf,e=>by
  rw [parseS,Option.bind_eq_some_iff] at e
  obtain ⟨⟨m,l1⟩,e1,e2⟩:=e
  obtain ⟨q1, -⟩:=getS_some e1
  have hf1:∀ x∈l1,Fits64 x:=fun x hx=>hf x (by rw [q1];exact List.mem_append_right _ hx)
  obtain ⟨r1,r2,r3⟩:=parseS_half k (by omega) (h.setS (by omega) hf e1) hf1 e2
  refine ⟨r1,r2,?_⟩
  have hks:N.streams.length-(k+1)<R.S.length:=by rw [h.lenS];omega
  rw [r3,show N.streams.length-k=N.streams.length-(k+1)+1 by omega,saveS_succ,List.length_append,set_s hks,if_pos rfl,saveS_congr (R:=R) _ fun s hs=>by rw [set_s hks,if_neg (by omega)]]
  have:=congrArg List.length q1
  rw [List.length_append] at this
  omega
theorem srcWords_le {N:Net} (hv:validB N=true) {s:Nat} (hs:s<N.streams.length) (hq:srcd N s=true):(srcWords N s).length≤50:=by
 have:=init_words hv s hs
 rw [initG_s _ _ hs] at this
 simpa [hq] using this
theorem saveS_le' (N:Net) (R:Rc) {t:Nat} (h:t≤N.streams.length):(saveS N R t).length≤(saveS N R N.streams.length).length:=by
 obtain ⟨m,hm⟩:∃ m,N.streams.length=t+m:=⟨N.streams.length-t,by omega⟩
 rw [hm]
 clear hm h
 induction m with
 | zero=>exact Nat.le_refl _
 | succ m ih=>rw [← Nat.add_assoc,saveS_succ,List.length_append];omega
theorem loadR_fine {N:Net} {R:Rc} {l rs:List Int} {c:Nat} (hv:validB N=true) (hf:NetFits N) (hl:∀ x∈l,Fits64 x) (hc:l.length≤500+c) (h:loadR N l rs=some R):Fine N R c:=by
 unfold loadR at h
 rw [Option.bind_eq_some_iff] at h
 obtain ⟨⟨R1,l1⟩,e1,e2⟩:=h
 rw [Option.bind_eq_some_iff] at e2
 obtain ⟨⟨R2,l2⟩,e2,e3⟩:=e2
 dsimp only at e2 e3
 split at e3
 ·rename_i hq
  cases e3
  obtain ⟨h1,h2,h3,h4⟩:=parseW_half _ (Nat.le_refl _) (Fine.init hv hf).half hl e1
  obtain ⟨k1,k2,k3⟩:=parseS_half _ (Nat.le_refl _) h1 h2 e2
  have hlen:(saveNums N R).length=l.length:=by
   rw [saveNums,List.length_append,saveW_length]
   rw [hq.1,Nat.sub_self] at k3
   simp only [saveS,List.range_zero,List.flatMap_nil,List.length_nil] at k3 ⊢
   omega
  refine ⟨k1.lenW,k1.lenS,k1.room,k1.grew,fun s hs=>?_,by omega,k1.fitsW,k1.fitsS,k1.nord,k1.src⟩
  cases hs':srcd N s with
  | true=>have:=srcWords_le hv hs hs';rw [k1.src s hs hs'];omega
  | false=>
   have h5:=saveS_le' N R (t:=s+1) (by omega)
   rw [saveS_succ,List.length_append] at h5
   have h6:(R.s s).words.length≤(stNums (srcd N s) (R.s s)).length:=by rw [hs'];simp [stNums];omega
   rw [saveNums,List.length_append] at hlen
   omega
 ·cases e3
def firstL (f:Nat→Int) (n i:Nat):List Value:=(List.range n).map fun j=>.int .i64 (if j<i then f j else 0)
theorem firstL_get (f:Nat→Int) (n i j:Nat) (h:j<n):(firstL f n i)[j]? = some (.int .i64 (if j<i then f j else 0)):=by simp [firstL,h]
theorem firstL_set (f:Nat→Int) (n i:Nat):(firstL f n i).set i (.int .i64 (f i))=firstL f n (i+1):=by
 refine List.ext_getElem? fun j=>?_
 rcases Nat.lt_or_ge j n with hj | hj
 ·rw [firstL_get _ _ _ _ hj]
  by_cases e:i=j
  ·subst e
   rw [List.getElem?_set_self (by simp [firstL];exact hj),if_pos (by omega)]
  ·rw [List.getElem?_set_ne e,firstL_get _ _ _ _ hj]
   by_cases h1:j<i
   ·rw [if_pos h1,if_pos (by omega)]
   ·rw [if_neg h1,if_neg (by omega)]
 ·rw [List.getElem?_eq_none (by simp [firstL];exact hj),List.getElem?_eq_none (by simp [firstL];exact hj)]
structure LdW (L:RLay) (W0:World) (N:Net) (R:Rc) (k sb:Nat) (f:Nat→Int) (i j:Nat) (wr:World):Prop where
 six:wr.heap[sb]? = some (.cells (firstL f 6 i).toArray 148 (0,0))
 row:∃ cs:List Value,wr.heap[L.gW]? = some (.cells cs.toArray 92 (0,0))∧∀ a,a<N.workers.length→∀ b,b<7→cs[a*7+b]? = if a=k∧1≤b∧b≤j then some (.int .i64 (f (b-1))) else (wCells (L.VC a) (R.w a))[b]?
 fr:Fr (fun b=>b=L.gW) W0 wr
 sbn:W0.heap.size≤sb
section
variable {L:RLay} {W0 wr:World} {N:Net} {R:Rc} {k sb i j:Nat} {f:Nat→Int}
theorem LdW.start (h:RefAt L W0 N R):LdW L W0 N R k W0.heap.size f 0 0 (W0.alloc (.cells (firstL f 6 0).toArray 148)):=by
 obtain ⟨cs,h1,h2⟩:=h.rowW
 refine ⟨heap_alloc_new _ _,⟨cs,(Below.heap_alloc _ _ _ (lt_of_blk h1)).trans h1,fun a ha b hb=>?_⟩,(Fr.refl _ _).alloc _,Nat.le_refl _⟩
 rw [if_neg (by omega)];exact h2 a ha b hb
theorem LdW.ne (h:LdW L W0 N R k sb f i j wr) (hr:RefAt L W0 N R):sb≠L.gW∧sb≠L.p∧L.gW≠L.p:=by
 obtain ⟨cs,h1, -⟩:=hr.rowW
 have h2:=lt_of_blk h1
 have h3:=lt_of_blk hr.blk
 have h4:=h.sbn
 exact ⟨by omega,by omega,ne_of_types h1 hr.blk (by decide)⟩
theorem LdW.cells (h:LdW L W0 N R k sb f i j wr) (hr:RefAt L W0 N R) (hk:k<N.workers.length):wr.cell? ⟨L.p,0,none⟩=some (.slice (some ⟨L.gS,0,none⟩) N.streams.length L.cS)∧wr.cell? ⟨L.p,1,none⟩=some (.slice (some ⟨L.gW,0,none⟩) N.workers.length L.cW) ∧
  (∀ a,a<6→wr.cell? ⟨sb,a,none⟩=some (.int .i64 (if a<i then f a else 0))∧wr.frozen? ⟨sb,a,none⟩=false)∧(∀ b,b<7→∃ u,wr.cell? ⟨L.gW,k*7+b,none⟩=some u∧wr.frozen? ⟨L.gW,k*7+b,none⟩=false)∧wr.cell? ⟨L.gW,k*7,none⟩=some (L.VC k)∧(1≤j→wr.cell? ⟨L.gW,k*7+1,none⟩=some (.int .i64 (f 0))):=by
 obtain ⟨cs,h1,h2⟩:=h.row
 have hp:=(h.fr.block L.p (lt_of_blk hr.blk) (h.ne hr).2.2.symm).trans hr.blk
 refine ⟨(blk_cell (l:=[_,_]) hp 0 _ rfl).1,(blk_cell (l:=[_,_]) hp 1 _ rfl).1,fun a ha=>⟨row_cell h.six (firstL_get _ _ _ _ ha),row_frozen h.six a⟩,fun b hb=>?_,?_,fun hj=>?_⟩
 ·have e:=h2 k hk b hb
  have:∃ u,cs[k*7+b]? = some u:=by
   rw [e]
   split
   ·exact ⟨_,rfl⟩
   ·rcases (show b=0∨b=1∨b=2∨b=3∨b=4∨b=5∨b=6 by omega) with rfl | rfl | rfl | rfl | rfl | rfl | rfl<;>exact ⟨_,rfl⟩
  obtain ⟨u,hu⟩:=this
  exact ⟨u,row_cell h1 hu,row_frozen h1 _⟩
 ·have e:=h2 k hk 0 (by decide)
  rw [if_neg (by omega),Nat.add_zero] at e
  exact row_cell h1 (e.trans rfl)
 ·have e:=h2 k hk 1 (by decide)
  rw [if_pos ⟨rfl,by omega,hj⟩] at e
  exact row_cell h1 e
theorem LdW.six_set (h:LdW L W0 N R k sb f i j wr) (hr:RefAt L W0 N R):LdW L W0 N R k sb f (i+1) j (wr.setCell ⟨sb,i,none⟩ (.int .i64 (f i))):=by
 obtain ⟨cs,h1,h2⟩:=h.row
 have hne:=h.ne hr
 refine ⟨?_,⟨cs,(heap_setCell_other _ _ _ _ hne.1.symm).trans h1,h2⟩,h.fr.setCell (p:=⟨sb,i,none⟩) (Or.inl h.sbn) _,h.sbn⟩
 rw [blk_set h.six,firstL_set]
theorem LdW.put (h:LdW L W0 N R k sb f 6 j wr) (hr:RefAt L W0 N R) (hk:k<N.workers.length) (hj:j<6):LdW L W0 N R k sb f 6 (j+1) (wr.setCell ⟨L.gW,k*7+(j+1),none⟩ (.int .i64 (f j))):=by
 obtain ⟨cs,h1,h2⟩:=h.row
 have hne:=h.ne hr
 have hl:k*7+(j+1)<cs.length:=by
  have e:=h2 k hk (j+1) (by omega)
  rw [if_neg (by omega)] at e
  have:∃ u,cs[k*7+(j+1)]? = some u:=by
   rw [e]
   rcases (show j=0∨j=1∨j=2∨j=3∨j=4∨j=5 by omega) with rfl | rfl | rfl | rfl | rfl | rfl<;>exact ⟨_,rfl⟩
  obtain ⟨u,hu⟩:=this
  exact (List.getElem?_eq_some_iff.1 hu).1
 refine ⟨(heap_setCell_other _ _ _ _ hne.1).trans h.six,⟨cs.set (k*7+(j+1)) (.int .i64 (f j)),blk_set h1 _ _,fun a ha b hb=>?_⟩,h.fr.setCell (p:=⟨L.gW,k*7+(j+1),none⟩) (Or.inr rfl) _,h.sbn⟩
 by_cases e:k*7+(j+1)=a*7+b
 ·have e1:a=k:=by omega
  have e2:b=j+1:=by omega
  subst e1 e2
  rw [List.getElem?_set_self hl,if_pos ⟨rfl,by omega,by omega⟩]
  rfl
 ·rw [List.getElem?_set_ne e,h2 a ha b hb]
  by_cases e1:a=k∧1≤b∧b≤j
  ·rw [if_pos e1,if_pos ⟨e1.1,e1.2.1,by omega⟩]
  ·rw [if_neg e1,if_neg (fun e2=>e1 ⟨e2.1,e2.2.1,by
    rcases Nat.lt_or_ge j b with h3 | h3
    ·exfalso
     have:b=j+1:=by omega
     exact e (by rw [e2.1,this])
    ·exact h3⟩)]
theorem LdW.drewN (h:LdW L W0 N R k sb f i j wr) (q:Nat):LdW L W0 N R k sb f i j (wr.drewN q):=⟨h.six,h.row,h.fr.drewN q,h.sbn⟩
theorem LdW.done (h:LdW L W0 N R k sb f 6 6 wr) (hr:RefAt L W0 N R) (hk:k<N.workers.length) (hcode:∀ a,a<N.workers.length→CodeAt wr (L.VC a) (codeOf N a)) {y:Wk} (hpl:y.place≤(codeOf N k).length) (hy:wkNums y=[f 0,f 1,f 2,f 3,f 4,f 5]):RefAt L wr N ⟨R.W.set k y,R.S⟩:=by
 obtain ⟨cs,h1,h2⟩:=h.row
 obtain ⟨ds,hd,hd2⟩:=hr.rowS
 obtain ⟨es,he, -⟩:=hr.rowW
 have hkl:k<R.W.length:=by rw [hr.lenW];exact hk
 simp only [wkNums,List.cons.injEq,and_true] at hy
 obtain ⟨y0,y1,y2,y3,y4,y5⟩:=hy
 refine ⟨?_,⟨ds,?_,hd2⟩,⟨cs,h1,fun a ha b hb=>?_⟩,fun s hs=>?_,hr.inj,hcode,by simpa using hr.lenW,hr.lenS,hr.le,fun a ha=>?_,hr.ok⟩
 ·exact (h.fr.block _ (lt_of_blk hr.blk) (h.ne hr).2.2.symm).trans hr.blk
 ·exact (h.fr.block _ (lt_of_blk hd) (ne_of_types hd he (by decide))).trans hd
 ·rw [h2 a ha b hb,set_w hkl]
  by_cases e:a=k
  ·subst e
   rw [if_pos rfl]
   rcases (show b=0∨b=1∨b=2∨b=3∨b=4∨b=5∨b=6 by omega) with rfl | rfl | rfl | rfl | rfl | rfl | rfl<;>simp [wCells,y0,y1,y2,y3,y4,y5]
  ·rw [if_neg (fun e'=>e e'.1),if_neg e]
 ·refine own_of_blockB (hr.words s hs) fun g hg=>h.fr.block g ((hr.words s hs).lt g hg).2 fun e=>?_
  exact own_ne_type (hr.words s hs) he (by decide) (e ▸ hg)
 ·rw [set_w hkl]
  split
  ·rename_i e;subst e;exact hpl
  ·exact hr.place a ha
end
theorem drop6 {l:List Int} {pos:Nat} (h:pos+6≤l.length):l.drop pos=[l.getD pos 0,l.getD (pos+1) 0,l.getD (pos+2) 0,l.getD (pos+3) 0,l.getD (pos+4) 0,l.getD (pos+5) 0]++l.drop (pos+6):=by
 rw [List.drop_eq_getElem_cons (by omega),List.drop_eq_getElem_cons (by omega),List.drop_eq_getElem_cons (by omega),List.drop_eq_getElem_cons (by omega),List.drop_eq_getElem_cons (by omega),List.drop_eq_getElem_cons (by omega)]
 rw [getD_eq _ _ _ (by omega),getD_eq _ _ _ (by omega),getD_eq _ _ _ (by omega),getD_eq _ _ _ (by omega),getD_eq _ _ _ (by omega),getD_eq _ _ _ (by omega)]
 rfl
theorem getW_drop {l:List Int} {pos cl:Nat} {f:Nat→Int} (hf:∀ i,f i=l.getD (pos+i) 0) (h:pos+6≤l.length) (h0:0≤f 0) (h1:f 0≤cl):∃ y,getW cl (l.drop pos)=some (y,l.drop (pos+6))∧wkNums y=[f 0,f 1,f 2,f 3,f 4,f 5]∧y.place≤cl:=by
 have e:=drop6 h
 rw [hf 0,Nat.add_zero] at h0 h1
 refine ⟨⟨(l.getD pos 0).toNat,fun i=>if i=0 then l.getD (pos+1) 0 else if i=1 then l.getD (pos+2) 0 else if i=2 then l.getD (pos+3) 0 else if i=3 then l.getD (pos+4) 0 else 0,l.getD (pos+5) 0⟩,?_,?_,by dsimp only;omega⟩
 ·rw [e]
  simp only [getW,List.cons_append,List.nil_append]
  rw [if_pos ⟨h0,h1⟩]
 ·rw [hf 0,hf 1,hf 2,hf 3,hf 4,hf 5,Nat.add_zero]
  clear e h1
  generalize l.getD pos 0=g0 at *
  simp [wkNums];omega
theorem getW_drop_none {l:List Int} {pos cl:Nat} {f:Nat→Int} (hf:∀ i,f i=l.getD (pos+i) 0) (h:pos+6≤l.length→0≤f 0→¬ f 0≤cl):getW cl (l.drop pos)=none:=by
 cases hg:getW cl (l.drop pos) with
 | none=>rfl
 | some yl=>
  exfalso
  obtain ⟨y,l'⟩:=yl
  obtain ⟨q1,q2, -⟩:=getW_some hg
  have hl:=congrArg List.length q1
  rw [List.length_drop,List.length_append] at hl
  simp only [wkNums,List.length_cons,List.length_nil] at hl
  have hp:pos<l.length:=by omega
  have h0:f 0=y.place:=by
   rw [hf 0,Nat.add_zero,getD_eq _ _ _ hp]
   rw [List.drop_eq_getElem_cons hp] at q1
   simp only [wkNums,List.cons_append] at q1
   exact (List.cons.inj q1).1
  exact h (by omega) (by omega) (by omega)
structure RAtW (p gS gW cS cW B:Nat) (wz w0:World) (N:Net) (l:List Int) (X:Option (Rc×List Int)) (k pos:Nat) (wr:World):Prop where
 ex:∃ L R,(L.p=p∧L.gS=gS∧L.gW=gW∧L.cS=cS∧L.cW=cW)∧RefAt L wr N R∧(∀ b,RFoot L N b→B≤b)∧(∀ a,a<N.workers.length→CodeAt wz (L.VC a) (codeOf N a))∧Half N R∧R.S=(initR N N.streams).S∧((parseW N (N.workers.length-k) R (l.drop pos)).bind fun q=>parseS N N.streams.length q.1 q.2)=X
 pos:pos≤l.length
 below:Below B w0 wr
structure RLoadOut (wz:World) (A:Nat→Prop) (n:Net) (l rs:List Int) (y:Option Addr) (fn:Int) (w':World):Prop where
 bad:validB n=false→y=none∧fn=1
 no:validB n=true→loadR n l rs=none→y=none∧fn=3
 yes:validB n=true→∀ R,loadR n l rs=some R→∃ p,y=some ⟨p,0,none⟩∧fn=0∧RHas wz A p n R w'
theorem RAtW.parts {p gS gW cS cW B:Nat} {wz w0:World} {N:Net} {l:List Int} {X:Option (Rc×List Int)} {k pos:Nat} {wr:World} (h:RAtW p gS gW cS cW B wz w0 N l X k pos wr):wr.cell? ⟨p,0,none⟩=some (.slice (some ⟨gS,0,none⟩) N.streams.length cS)∧wr.cell? ⟨p,1,none⟩=some (.slice (some ⟨gW,0,none⟩) N.workers.length cW):=by
 obtain ⟨L,R,⟨rfl,rfl,rfl,rfl,rfl⟩,h1, -⟩:=h.ex
 exact ⟨(blk_cell (l:=[_,_]) h1.blk 0 _ rfl).1,(blk_cell (l:=[_,_]) h1.blk 1 _ rfl).1⟩
end Go.Proofs.YthfdgdfnflilfaaGreatDoor

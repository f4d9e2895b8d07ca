/- Part 9: Ref4, NetsEq. -/
import Derived.Test.YthfdgdfnflilfaaGreatDoorPart2
import Derived.Test.YthfdgdfnflilfaaGreatDoorPart4
import Derived.Test.YthfdgdfnflilfaaGreatDoorPart6
namespace Go.Proofs.YthfdgdfnflilfaaGreatDoor
open Go.RowKit
def refSrc (n:Net) (i:Nat):Bool:=inB (n.sources.getD i ⟨0,[]⟩).stream n.streams.length && (sourceIx n.sources (n.sources.getD i ⟨0,[]⟩).stream == i) && decide ((n.sources.getD i ⟨0,[]⟩).words.length≤50)
def refCode (n:Net) (c:List Ins):Bool:=decide (1≤c.length) && decide (c.length≤20) && c.all fun i=>insB i c.length n.streams.length
def refEnd (n:Net) (s:Nat):Bool:=decide (1≤n.streams.getD s 0) && decide (n.streams.getD s 0≤6) && decide (usersN n.workers 1 s≤1) && decide (usersN n.workers 2 s≤1) && !(decide (0<usersN n.workers 2 s) && decide (0≤sourceIx n.sources s))
def refNetB (n:Net):Bool:=decide (1≤n.streams.length) && decide (n.streams.length≤8) && decide (1≤n.workers.length) && decide (n.workers.length≤6) &&
 (List.range n.sources.length).all (refSrc n) && n.workers.all (refCode n) && (List.range n.streams.length).all (refEnd n)
set_option maxRecDepth 100000 in
set_option maxHeartbeats 4000000 in
theorem refNet_calls {n:Net} {v:Value} {w:World} (h:NetAt w v n) :
  Calls Tryz.prog 26 #[v] w fun e w'=>e=.returned (.bool (refNetB n))∧Below w.heap.size w w':=by
 have HSrc:Hid (∀ (st:Int) wx,Below w.heap.size w wx→Calls Tryz.prog 28 #[v,.int .i64 st] wx fun e w'=>e=.returned (.int .i64 (sourceIx n.sources st))∧Below wx.heap.size wx w'):=
  fun st wx hx=>source_calls st (h.below hx)
 have HUsr:Hid (∀ (op st:Int) wx,Below w.heap.size w wx→Calls Tryz.prog 27 #[v,.int .i64 op,.int .i64 st] wx fun e w'=>e=.returned (.tuple #[.int .i64 (firstUser n.workers op st),.int .i64 (usersN n.workers op st)])∧Below wx.heap.size wx w'):=
  fun op st wx hx=>user_calls op st (h.below hx)
 obtain ⟨vs,vr,vw,rfl,h1,h2,h3⟩:=h
 obtain ⟨sa,sc,rfl,hsn,hscap,hs⟩:=h1.openD
 obtain ⟨ar,cr,rfl,hrn,hrcap,hr⟩:=h2.openD
 obtain ⟨aw,cw,rfl,hwn,hwcap,hw⟩:=h3.openD
 have HS:=hide hs
 have HR:=hide hr
 have HW:=hide hw
 clear hs hr hw h1 h2 h3
 have HV:Hid (refNetB n=(decide (1≤n.streams.length) && decide (n.streams.length≤8) && decide (1≤n.workers.length) && decide (n.workers.length≤6) &&
  (List.range n.sources.length).all (refSrc n) && n.workers.all (refCode n) && (List.range n.streams.length).all (refEnd n))):=rfl
 by_cases g1:n.streams.length<1
 ·have F:Hid (refNetB n=false):=by
   have:¬ 1≤n.streams.length:=by omega
   unfold Hid;rw [HV.out];simp only [this,decide_false,Bool.false_and]
  go_enter Tryz.func26,Tryz.ntmps26
  go_wp2
  go_ret
  exact ⟨ret_bool (by rw [F.out]),(Below.refl _ _).alloc (Nat.le_refl _) _⟩
 have g1':decide ((n.streams.length:Int)<1)=false:=by simp;omega
 by_cases g2:8<n.streams.length
 ·have F:Hid (refNetB n=false):=by
   have:¬ n.streams.length≤8:=by omega
   unfold Hid;rw [HV.out];simp only [this,decide_false,Bool.false_and,Bool.and_false]
  go_enter Tryz.func26,Tryz.ntmps26
  go_wp2
  go_ret
  exact ⟨ret_bool (by rw [F.out]),(Below.refl _ _).alloc (Nat.le_refl _) _⟩
 have g2':decide (8<(n.streams.length:Int))=false:=by simp;omega
 by_cases g3:n.workers.length<1
 ·have F:Hid (refNetB n=false):=by
   have:¬ 1≤n.workers.length:=by omega
   unfold Hid;rw [HV.out];simp only [this,decide_false,Bool.false_and,Bool.and_false]
  go_enter Tryz.func26,Tryz.ntmps26
  go_wp2
  go_ret
  exact ⟨ret_bool (by rw [F.out]),(Below.refl _ _).alloc (Nat.le_refl _) _⟩
 have g3':decide ((n.workers.length:Int)<1)=false:=by simp;omega
 by_cases g4:6<n.workers.length
 ·have F:Hid (refNetB n=false):=by
   have:¬ n.workers.length≤6:=by omega
   unfold Hid;rw [HV.out];simp only [this,decide_false,Bool.false_and,Bool.and_false]
  go_enter Tryz.func26,Tryz.ntmps26
  go_wp2
  go_ret
  exact ⟨ret_bool (by rw [F.out]),(Below.refl _ _).alloc (Nat.le_refl _) _⟩
 have g4':decide (6<(n.workers.length:Int))=false:=by simp;omega
 have HV2:Hid (refNetB n=((List.range n.sources.length).all (refSrc n) && n.workers.all (refCode n) && (List.range n.streams.length).all (refEnd n))):=by
  have k1:1≤n.streams.length:=by omega
  have k2:n.streams.length≤8:=by omega
  have k3:1≤n.workers.length:=by omega
  have k4:n.workers.length≤6:=by omega
  unfold Hid;rw [HV.out];simp only [k1,k2,k3,k4,decide_true,Bool.true_and]
 clear HV
 generalize erl:n.sources.length=rl at *
 generalize ewl:n.workers.length=wl at *
 generalize esl:n.streams.length=sl at *
 have ERL:=hide erl
 have EWL:=hide ewl
 have ESL:=hide esl
 clear erl ewl esl
 go_enter Tryz.func26,Tryz.ntmps26
 go_wp2
 go_loopw [3] (fun i wr=>∃ k:Nat,k≤rl∧i=.int .i64 k∧Below (w.heap.size+1) (w.alloc (.cells #[.slice sa sl sc,.slice ar rl cr,.slice aw wl cw] 26)) wr∧(List.range k).all (refSrc n)=true) (fun i _=>rl-(intOf i).toNat)
 case atStart=>exact ⟨0,Nat.zero_le _,rfl,Below.refl _ _,rfl⟩
 case round=>
  obtain ⟨k,hk,rfl,hbl,hno⟩:=hrel
  have HN:=hide hno
  clear hno
  obtain ⟨c0,c1,c2⟩:=box3 hbl
  have hsz:w.heap.size+1≤wr.heap.size:=by have:=hbl.size;simpa using this
  by_cases hlt:k<rl
  ·obtain ⟨b,off,u,rfl,hbb,hu,hd⟩:=unhide HR k hlt
   obtain ⟨ua,ucap,rfl⟩:=hu.form
   have HSu:=hide (range_all_succ (refSrc n) k)
   have HH:=hide (range_all_false (refSrc n) rl k hlt)
   have HRS:Hid (refSrc n k=(inB (n.sources.getD k ⟨0,[]⟩).stream sl && (sourceIx n.sources (n.sources.getD k ⟨0,[]⟩).stream == k) && decide ((n.sources.getD k ⟨0,[]⟩).words.length≤50))):=by
    unfold Hid;rw [← ESL.out];rfl
   clear hu
   generalize n.sources.getD k ⟨0,[]⟩=src at *
   obtain ⟨st,wds⟩:=src
   dsimp only at *
   generalize wds.length=ul at *
   have HD:=hide hd
   obtain ⟨d0,d1⟩:=hd wr (below_box hbl)
   clear hd
   have hk0:(0:Int)≤(k:Int):=by omega
   have hk1:(k:Int)<(rl:Int):=by omega
   go_wp2
   go_quiet ((go_at_call 58;exact Calls.quiet_of_same (in_calls _ _ _)))
   generalize hin:inB st sl=yin at *
   have HIN:=hide hin
   clear hin
   have HSr:Hid (∀ wx,Below (w.heap.size+1) (w.alloc (.cells #[.slice sa sl sc,.slice (some ⟨b,off,none⟩) rl cr,.slice aw wl cw] 26)) wx→Calls Tryz.prog 28 #[.agg #[.slice sa sl sc,.slice (some ⟨b,off,none⟩) rl cr,.slice aw wl cw],.int .i64 st] wx fun e w'=>e=.returned (.int .i64 (sourceIx n.sources st)) ∧
     (w'.cell? ⟨w.heap.size,0,none⟩=some (.slice sa sl sc)∧w'.cell? ⟨w.heap.size,1,none⟩=some (.slice (some ⟨b,off,none⟩) rl cr)∧w'.cell? ⟨w.heap.size,2,none⟩=some (.slice aw wl cw)∧w'.cell? ⟨b,off+k*2,none⟩=some (.int .i64 st))∧w'.cell? ⟨b,off+k*2+1,none⟩=some (.slice ua ul ucap) ∧
     Below (w.heap.size+1) (w.alloc (.cells #[.slice sa sl sc,.slice (some ⟨b,off,none⟩) rl cr,.slice aw wl cw] 26)) w'):=fun wx hx=>(unhide HSrc st wx (below_box hx)).mono fun e w' h=>by
    have h':=hx.trans (h.2.mono (by have:=hx.size;simpa using this))
    obtain ⟨x0,x1,x2⟩:=box3 h'
    obtain ⟨y0,y1⟩:=HD.out w' (below_box h')
    exact ⟨h.1,⟨x0,x1,x2,y0⟩,y1,h'⟩
   generalize hix:sourceIx n.sources st=ix at *
   have HIX:=hide hix
   clear hix
   go_wp2
   go_region_held3 (fun w'=>w'.cell? ⟨w.heap.size,0,none⟩=some (.slice sa sl sc)∧w'.cell? ⟨w.heap.size,1,none⟩=some (.slice (some ⟨b,off,none⟩) rl cr)∧w'.cell? ⟨w.heap.size,2,none⟩=some (.slice aw wl cw)∧w'.cell? ⟨b,off+k*2,none⟩=some (.int .i64 st)) (go_keep)
    ((go_at_call 28;refine (unhide HSr _ ?_).mono ?_; (repeat (first | exact hbl | apply Below.drew | apply below_drewN));rintro e w1 ⟨rfl,⟨s0,s1,s2,s3⟩,s4,hb1⟩))
   clear HSr d0 d1 c0 c1 c2
   cases yin
   ·have F:=hide (HH.out (by rw [HRS.out];rfl))
    go_wp2
    go_ret
    exact ⟨ret_bool (by rw [HV2.out,F.out];rfl),below_box hb1⟩
   cases hq:(ix == (k:Int))
   ·have F:=hide (HH.out (by rw [HRS.out,hq];rfl))
    have hq':(ix != (k:Int))=true:=by simp only [bne,hq];rfl
    go_wp2
    go_ret
    exact ⟨ret_bool (by rw [HV2.out,F.out];rfl),below_box hb1⟩
   have hq':(ix != (k:Int))=false:=by simp only [bne,hq];rfl
   by_cases hl:50<ul
   ·have F:=hide (HH.out (by
     rw [HRS.out,hq];have:¬ ul≤50:=by omega
     simp only [this,decide_false,Bool.and_false]))
    clear hq
    go_wp2
    go_ret
    exact ⟨ret_bool (by rw [HV2.out,F.out];rfl),below_box hb1⟩
   ·have F:Hid (refSrc n k=true):=by
     have:ul≤50:=by omega
     unfold Hid;rw [HRS.out,hq];simp only [this,decide_true,Bool.and_true]
    clear hq
    go_wp2
    go_roundw
    case rel=>exact ⟨k+1,by omega,by go_num,hb1,by rw [HSu.out,HN.out,F.out];rfl⟩
    case measure=>simp [intOf];omega
  ·have F1:Hid ((List.range rl).all (refSrc n)=true):=by
    have:k=rl:=by omega
    rw [← this];exact HN.out
   clear HN hk HR
   go_wp2
   clear c0 c1 c2
   go_loopw [6] (fun i wr=>∃ k:Nat,k≤wl∧i=.int .i64 k∧Below (w.heap.size+1) (w.alloc (.cells #[.slice sa sl sc,.slice ar rl cr,.slice aw wl cw] 26)) wr∧(n.workers.take k).all (refCode n)=true) (fun i _=>wl-(intOf i).toNat)
   case atStart=>exact ⟨0,Nat.zero_le _,rfl,hbl,rfl⟩
   case round=>
    clear hbl hsz hlt
    obtain ⟨k,hk,rfl,hbl,hno⟩:=hrel
    have HN:=hide hno
    clear hno
    obtain ⟨c0,c1,c2⟩:=box3 hbl
    have hsz:w.heap.size+1≤wr.heap.size:=by have:=hbl.size;simpa using this
    by_cases hlt:k<wl
    ·obtain ⟨b,off,u,rfl,hbb,hcd,hd⟩:=unhide HW k hlt
     have HSu:Hid ((n.workers.take (k+1)).all (refCode n)=((n.workers.take k).all (refCode n) && refCode n (n.workers.getD k []))):=by
      have:=all_take_succ n.workers (refCode n) k (by rw [EWL.out];exact hlt)
      unfold Hid;rw [getD_eq _ _ _ (by rw [EWL.out];exact hlt)];exact this
     have HH:Hid (refCode n (n.workers.getD k [])=false→n.workers.all (refCode n)=false):=by
      have:=all_of_getElem_false n.workers (refCode n) k (by rw [EWL.out];exact hlt)
      unfold Hid;rw [getD_eq _ _ _ (by rw [EWL.out];exact hlt)];exact this
     have HRC:Hid (∀ c,refCode n c=(decide (1≤c.length) && decide (c.length≤20) && c.all fun i=>insB i c.length sl)):=by
      intro c;rw [← ESL.out];rfl
     generalize n.workers.getD k []=cd at *
     obtain ⟨ca,ccap,rfl,hcl,hccap,hcc⟩:=hcd.openD
     have HCC:=hide hcc
     have HD:=hide hd
     have d0:=hd wr (below_box hbl)
     clear hcc hcd hd
     have hk0:(0:Int)≤(k:Int):=by omega
     have hk1:(k:Int)<(wl:Int):=by omega
     by_cases q1:cd.length<1
     ·have F:=hide (HH.out (by
       rw [HRC.out cd];have:¬ 1≤cd.length:=by omega
       simp only [this,decide_false,Bool.false_and]))
      go_wp2
      go_ret
      exact ⟨ret_bool (by rw [HV2.out,F.out,F1.out];rfl),below_box hbl⟩
     have q1':decide ((cd.length:Int)<1)=false:=by simp;omega
     by_cases q2:20<cd.length
     ·have F:=hide (HH.out (by
       rw [HRC.out cd];have:¬ cd.length≤20:=by omega
       simp only [this,decide_false,Bool.false_and,Bool.and_false]))
      go_wp2
      go_ret
      exact ⟨ret_bool (by rw [HV2.out,F.out,F1.out];rfl),below_box hbl⟩
     have q2':decide (20<(cd.length:Int))=false:=by simp;omega
     have HRC2:Hid (refCode n cd=cd.all fun i=>insB i cd.length sl):=by
      have k1:1≤cd.length:=by omega
      have k2:cd.length≤20:=by omega
      unfold Hid;rw [HRC.out cd];simp only [k1,k2,decide_true,Bool.true_and]
     clear HRC
     go_wp2
     clear c0 c1 c2 d0
     go_loopw [8] (fun i wr=>∃ j:Nat,j≤cd.length∧i=.int .i64 j∧Below (w.heap.size+1) (w.alloc (.cells #[.slice sa sl sc,.slice ar rl cr,.slice (some ⟨b,off,none⟩) wl cw] 26)) wr∧((cd.take j).all fun i=>insB i cd.length sl)=true) (fun i _=>cd.length-(intOf i).toNat)
     case atStart=>exact ⟨0,Nat.zero_le _,rfl,hbl,rfl⟩
     case round=>
      clear hbl hsz
      obtain ⟨j,hj,rfl,hbl,hno⟩:=hrel
      have HN2:=hide hno
      clear hno
      obtain ⟨c0,c1,c2⟩:=box3 hbl
      by_cases hjl:j<cd.length
      ·obtain ⟨b2,off2,rfl,hbb2,hdd⟩:=unhide HCC j hjl
       have HSv:Hid (((cd.take (j+1)).all fun i=>insB i cd.length sl)=(((cd.take j).all fun i=>insB i cd.length sl) && insB (cd.getD j ⟨0,0,0,0⟩) cd.length sl)):=by
        unfold Hid;rw [getD_eq _ _ _ hjl];exact all_take_succ _ _ _ hjl
       have HHv:Hid (insB (cd.getD j ⟨0,0,0,0⟩) cd.length sl=false→(cd.all fun i=>insB i cd.length sl)=false):=by
        unfold Hid;rw [getD_eq _ _ _ hjl];exact all_of_getElem_false cd (fun i=>insB i cd.length sl) j hjl
       generalize cd.getD j ⟨0,0,0,0⟩=ins at *
       obtain ⟨iop,ia,ib,ic⟩:=ins
       dsimp only at *
       have HDD:=hide hdd
       obtain ⟨e0,e1,e2,e3⟩:=hdd wr (below_box hbl)
       clear hdd
       have hj0:(0:Int)≤(j:Int):=by omega
       have hj1:(j:Int)<(cd.length:Int):=by omega
       have HI:Hid (∀ wx,Below (w.heap.size+1) (w.alloc (.cells #[.slice sa sl sc,.slice ar rl cr,.slice (some ⟨b,off,none⟩) wl cw] 26)) wx→Calls Tryz.prog 59 #[.agg #[.int .i64 iop,.int .i64 ia,.int .i64 ib,.int .i64 ic],.int .i64 cd.length,.int .i64 sl] wx fun e w'=>e=.returned (.bool (insB ⟨iop,ia,ib,ic⟩ cd.length sl)) ∧
         (w'.cell? ⟨w.heap.size,0,none⟩=some (.slice sa sl sc)∧w'.cell? ⟨b2,off2+j*4,none⟩=some (.int .i64 iop)∧w'.cell? ⟨b2,off2+j*4+1,none⟩=some (.int .i64 ia)∧w'.cell? ⟨b2,off2+j*4+2,none⟩=some (.int .i64 ib)∧w'.cell? ⟨b2,off2+j*4+3,none⟩=some (.int .i64 ic)) ∧
         Below (w.heap.size+1) (w.alloc (.cells #[.slice sa sl sc,.slice ar rl cr,.slice (some ⟨b,off,none⟩) wl cw] 26)) w'):=fun wx hx=>(ins_calls iop ia ib ic cd.length sl wx hcl).mono fun e w' h=>by
        have h':=hx.trans (h.2.mono (by have:=hx.size;simpa using this))
        obtain ⟨x0,x1,x2⟩:=box3 h'
        exact ⟨h.1,⟨x0,HDD.out w' (below_box h')⟩,h'⟩
       generalize hin:insB ⟨iop,ia,ib,ic⟩ cd.length sl=yin at *
       have HIN:=hide hin
       clear hin
       go_wp2
       go_region_held3 (fun w'=>w'.cell? ⟨w.heap.size,0,none⟩=some (.slice sa sl sc)∧w'.cell? ⟨b2,off2+j*4,none⟩=some (.int .i64 iop)∧w'.cell? ⟨b2,off2+j*4+1,none⟩=some (.int .i64 ia)∧w'.cell? ⟨b2,off2+j*4+2,none⟩=some (.int .i64 ib)∧w'.cell? ⟨b2,off2+j*4+3,none⟩=some (.int .i64 ic)) (go_keep)
        ((go_at_call 59;refine (unhide HI _ ?_).mono ?_; (repeat (first | exact hbl | apply Below.drew | apply below_drewN));rintro e w1 ⟨rfl,⟨s0,s1,s2,s3,s4⟩,hb1⟩))
       clear HI e0 e1 e2 e3 c0 c1 c2
       cases yin
       ·have F:=hide (HH.out (by rw [HRC2.out];exact HHv.out rfl))
        go_wp2
        go_ret
        exact ⟨ret_bool (by rw [HV2.out,F.out,F1.out];rfl),below_box hb1⟩
       ·go_wp2
        go_roundw
        case rel=>exact ⟨j+1,by omega,by go_num,hb1,by rw [HSv.out,HN2.out];rfl⟩
        case measure=>simp [intOf];omega
      ·have F:Hid (refCode n cd=true):=by
        unfold Hid;rw [HRC2.out];have:=HN2.out;rw [List.take_of_length_le (by omega)] at this;exact this
       go_wp2
       go_roundw
       case rel=>exact ⟨k+1,by omega,by go_num,hbl,by rw [HSu.out,HN.out,F.out];rfl⟩
       case measure=>simp [intOf];omega
    ·have F2:Hid (n.workers.all (refCode n)=true):=by
      unfold Hid;have:=HN.out;rw [List.take_of_length_le (by rw [EWL.out];omega)] at this;exact this
     have HL:Hid (∀ op st,usersN n.workers op st≤140737488355328):=fun op st=>Nat.le_trans List.countP_le_length (by rw [EWL.out];omega)
     clear HN hk HW
     go_wp2
     clear c0 c1 c2
     go_loopw [10] (fun i wr=>∃ k:Nat,k≤sl∧i=.int .i64 k∧Below (w.heap.size+1) (w.alloc (.cells #[.slice sa sl sc,.slice ar rl cr,.slice aw wl cw] 26)) wr∧(List.range k).all (refEnd n)=true) (fun i _=>sl-(intOf i).toNat)
     case atStart=>exact ⟨0,Nat.zero_le _,rfl,hbl,rfl⟩
     case round=>
      clear hbl hsz hlt
      obtain ⟨k,hk,rfl,hbl,hno⟩:=hrel
      have HN:=hide hno
      clear hno
      obtain ⟨c0,c1,c2⟩:=box3 hbl
      have hsz:w.heap.size+1≤wr.heap.size:=by have:=hbl.size;simpa using this
      by_cases hlt:k<sl
      ·obtain ⟨b,off,rfl,hbb,hd⟩:=unhide HS k hlt
       have HSu:=hide (range_all_succ (refEnd n) k)
       have HH:=hide (range_all_false (refEnd n) sl k hlt)
       have HRE:Hid (refEnd n k=(decide (1≤n.streams.getD k 0) && decide (n.streams.getD k 0≤6) && decide (usersN n.workers 1 k≤1) && decide (usersN n.workers 2 k≤1) && !(decide (0<usersN n.workers 2 k) && decide (0≤sourceIx n.sources k)))):=rfl
       have l1:=unhide HL 1 k
       have l2:=unhide HL 2 k
       generalize n.streams.getD k 0=room at *
       go_wp2_with fail
       refine (unhide HUsr 1 k wr (below_box hbl)).mono ?_
       rintro e w1 ⟨rfl,hb1⟩
       have hbl1:=hbl.trans (hb1.mono hsz)
       have hsz1:w.heap.size+1≤w1.heap.size:=by have:=hbl1.size;simpa using this
       clear hb1 c0 c1 c2
       obtain ⟨c0,c1,c2⟩:=box3 hbl1
       go_wp2_with fail
       refine (unhide HUsr 2 k w1 (below_box hbl1)).mono ?_
       rintro e w2 ⟨rfl,hb2⟩
       have hbl2:=hbl1.trans (hb2.mono hsz1)
       have hsz2:w.heap.size+1≤w2.heap.size:=by have:=hbl2.size;simpa using this
       clear hb2 c0 c1 c2
       obtain ⟨c0,c1,c2⟩:=box3 hbl2
       go_wp2_with fail
       refine (unhide HSrc k w2 (below_box hbl2)).mono ?_
       rintro e w3 ⟨rfl,hb3⟩
       have hbl3:=hbl2.trans (hb3.mono hsz2)
       clear hb3 c0 c1 c2 hbl1 hbl2 hbl
       obtain ⟨c0,c1,c2⟩:=box3 hbl3
       have d0:=hd w3 (below_box hbl3)
       clear hd
       generalize sourceIx n.sources k=ix at *
       generalize usersN n.workers 1 k=u1 at *
       generalize usersN n.workers 2 k=u2 at *
       generalize firstUser n.workers 1 k=f1 at *
       generalize firstUser n.workers 2 k=f2 at *
       by_cases q1:room<1
       ·have F:=hide (HH.out (by
         rw [HRE.out];have:¬ 1≤room:=by omega
         simp only [this,decide_false,Bool.false_and]))
        go_wp2
        go_ret
        exact ⟨ret_bool (by rw [HV2.out,F.out,F1.out,F2.out];rfl),below_box hbl3⟩
       have q1':decide (room<1)=false:=by simpa using q1
       by_cases q2:6<room
       ·have F:=hide (HH.out (by
         rw [HRE.out];have:¬ room≤6:=by omega
         simp only [this,decide_false,Bool.false_and,Bool.and_false]))
        go_wp2
        go_ret
        exact ⟨ret_bool (by rw [HV2.out,F.out,F1.out,F2.out];rfl),below_box hbl3⟩
       have q2':decide (6<room)=false:=by simpa using q2
       by_cases q3:1<u1
       ·have F:=hide (HH.out (by
         rw [HRE.out];have:¬ u1≤1:=by omega
         simp only [this,decide_false,Bool.false_and,Bool.and_false]))
        go_wp2
        go_ret
        exact ⟨ret_bool (by rw [HV2.out,F.out,F1.out,F2.out];rfl),below_box hbl3⟩
       have q3':decide (1<(u1:Int))=false:=by simp;omega
       by_cases q4:1<u2
       ·have F:=hide (HH.out (by
         rw [HRE.out];have:¬ u2≤1:=by omega
         simp only [this,decide_false,Bool.false_and,Bool.and_false]))
        go_wp2
        go_ret
        exact ⟨ret_bool (by rw [HV2.out,F.out,F1.out,F2.out];rfl),below_box hbl3⟩
       have q4':decide (1<(u2:Int))=false:=by simp;omega
       have k1:1≤room:=by omega
       have k2:room≤6:=by omega
       have k3:u1≤1:=by omega
       have k4:u2≤1:=by omega
       have HRE2:Hid (refEnd n k = !(decide (0<u2) && decide (0≤ix))):=by
        unfold Hid;rw [HRE.out];simp only [k1,k2,k3,k4,decide_true,Bool.true_and]
       clear k1 k2 k3 k4 HRE
       by_cases q5:0<u2
       ·by_cases q6:0≤ix
        ·have F:=hide (HH.out (by rw [HRE2.out];simp only [q5,q6,decide_true];rfl))
         go_wp2
         go_ret
         exact ⟨ret_bool (by rw [HV2.out,F.out,F1.out,F2.out];rfl),below_box hbl3⟩
        ·have F:Hid (refEnd n k=true):=by unfold Hid;rw [HRE2.out];simp only [q6,decide_false,Bool.and_false];rfl
         have q6':decide (0≤ix)=false:=by simpa using q6
         go_wp2
         go_roundw
         case rel=>exact ⟨k+1,by omega,by go_num,hbl3,by rw [HSu.out,HN.out,F.out];rfl⟩
         case measure=>simp [intOf];omega
       ·have F:Hid (refEnd n k=true):=by unfold Hid;rw [HRE2.out];simp only [q5,decide_false,Bool.false_and];rfl
        have q5':decide (0<(u2:Int))=false:=by simp;omega
        go_wp2
        go_roundw
        case rel=>exact ⟨k+1,by omega,by go_num,hbl3,by rw [HSu.out,HN.out,F.out];rfl⟩
        case measure=>simp [intOf];omega
      ·have F3:Hid ((List.range sl).all (refEnd n)=true):=by
        have:k=sl:=by omega
        rw [← this];exact HN.out
       go_wp2
       go_ret
       exact ⟨ret_bool (by rw [HV2.out,F1.out,F2.out,F3.out];rfl),below_box hbl⟩
theorem ins_eq (i:Ins) (c s:Int):insB i c s=opsValid i c s:=by
 obtain ⟨op,a,b,d⟩:=i
 by_cases h1:1≤op
 ·by_cases h9:op≤9
  ·rcases (show op=1∨op=2∨op=3∨op=4∨op=5∨op=6∨op=7∨op=8∨op=9 by omega) with rfl | rfl | rfl | rfl | rfl | rfl | rfl | rfl | rfl <;>
    simp [insB,opsValid,fitsB,k1,k2,k3,inB,Int.lt_add_one_iff,Bool.and_assoc]
  ·have:¬ op≤9:=h9
   simp only [insB,opsValid,this,decide_false,Bool.and_false,Bool.false_and]
   repeat' split
   all_goals first | omega | rfl
 ·have:¬ 1≤op:=h1
  simp only [insB,opsValid,this,decide_false,Bool.false_and]
  repeat' split
  all_goals first | omega | rfl
theorem code_eq (n:Net) (c:List Ins):refCode n c=validCodeB c n.streams.length:=by
 simp only [refCode,validCodeB,ins_eq]
theorem findIdx_none_lt {α : Type} (l:List α) (p : α → Bool) (i:Nat) (hi:i<l.length) (hp:p l[i]=true):(ixOf (l.findIdx? p) == (i:Int)) = !((l.take i).any p):=by
 cases h:(l.take i).any p with
 | false=>rw [findIdx_hit l p i hi h hp];simp [ixOf]
 | true=>
  obtain ⟨x,hx,hpx⟩:=List.any_eq_true.1 h
  obtain ⟨j,hj,rfl⟩:=List.mem_take_iff_getElem.1 hx
  have hj':j<i:=by omega
  cases hf:l.findIdx? p with
  | none=>
   have:=List.findIdx?_eq_none_iff.1 hf l[i] (List.getElem_mem hi)
   rw [hp] at this;cases this
  | some k=>
   obtain ⟨hk,h1,h2⟩:=List.findIdx?_eq_some_iff_getElem.1 hf
   have hkj:k≤j:=by
    rcases Nat.lt_or_ge j k with hlt | hge
    ·have:=h2 j hlt;rw [hpx] at this;simp at this
    ·exact hge
   simp only [ixOf,Bool.not_true,beq_eq_false_iff_ne]
   omega
theorem source_none (ss:List Src) (s:Int):decide (0≤sourceIx ss s)=hasSourceB ss s:=by
 unfold sourceIx hasSourceB
 cases hf:ss.findIdx? fun x=>x.stream == s with
 | none=>
  have:=List.findIdx?_eq_none_iff.1 hf
  rw [show decide ((0:Int)≤ixOf none)=false from rfl,eq_comm]
  exact List.any_eq_false.2 fun x hx=>by rw [this x hx];simp
 | some k=>
  obtain ⟨hk,h1, -⟩:=List.findIdx?_eq_some_iff_getElem.1 hf
  have:ss.any (fun x=>x.stream == s)=true:=List.any_eq_true.2 ⟨ss[k],List.getElem_mem hk,h1⟩
  rw [this];simp [ixOf]
theorem src_eq (n:Net) (i:Nat) (hi:i<n.sources.length):refSrc n i=(inB (n.sources.getD i ⟨0,[]⟩).stream n.streams.length && decide ((n.sources.getD i ⟨0,[]⟩).words.length≤50) && !hasSourceB (n.sources.take i) (n.sources.getD i ⟨0,[]⟩).stream):=by
 have:=findIdx_none_lt n.sources (fun s=>s.stream == (n.sources.getD i ⟨0,[]⟩).stream) i hi (by rw [getD_eq _ _ _ hi];simp)
 have e:(sourceIx n.sources (n.sources.getD i ⟨0,[]⟩).stream == (i:Int)) = !hasSourceB (n.sources.take i) (n.sources.getD i ⟨0,[]⟩).stream:=this
 simp only [refSrc,e]
 rw [Bool.and_assoc,Bool.and_assoc,Bool.and_comm (!_)]
theorem all_congr' {l:List Nat} {p q:Nat→Bool} (h:∀ x∈l,p x=q x):l.all p=l.all q:=by
 induction l with
 | nil=>rfl
 | cons x l ih=>simp only [List.all_cons];rw [h x (by simp),ih fun y hy=>h y (by simp [hy])]
theorem all_range_getD (l:List Int) (p:Int→Bool):(List.range l.length).all (fun s=>p (l.getD s 0))=l.all p:=by
 rw [Bool.eq_iff_iff]
 simp only [List.all_eq_true,List.mem_range]
 constructor
 ·intro h x hx
  obtain ⟨i,hi,rfl⟩:=List.mem_iff_getElem.1 hx
  have:=h i hi
  rwa [getD_eq _ _ _ hi] at this
 ·intro h i hi
  rw [getD_eq _ _ _ hi]
  exact h _ (List.getElem_mem hi)
theorem all_and (l:List Nat) (p q:Nat→Bool):l.all (fun s=>p s && q s)=(l.all p && l.all q):=by
 induction l with
 | nil=>rfl
 | cons x l ih=>
  simp only [List.all_cons,ih]
  cases p x<;>cases q x<;>cases l.all p<;>rfl
theorem end_eq (n:Net) (s:Nat):refEnd n s=((decide (1≤n.streams.getD s 0) && decide (n.streams.getD s 0≤6)) && (decide (usersN n.workers 2 s+(if hasSourceB n.sources s then 1 else 0)≤1) && decide (usersN n.workers 1 s≤1))):=by
 simp only [refEnd,source_none]
 cases hasSourceB n.sources s
 ·rw [Bool.eq_iff_iff];simp;omega
 ·rw [Bool.eq_iff_iff];simp;omega
theorem netB_eq (n:Net):refNetB n=validB n:=by
 have e1:(List.range n.sources.length).all (refSrc n)=validSourcesB n.sources n.streams.length:=all_congr' fun i hi=>src_eq n i (List.mem_range.1 hi)
 have e2:n.workers.all (refCode n)=n.workers.all fun c=>validCodeB c n.streams.length:=by
  congr 1;funext c;exact code_eq n c
 have e3:(List.range n.streams.length).all (refEnd n)=((n.streams.all fun r=>decide (1≤r) && decide (r≤6)) && validEndsB n):=by
  rw [← all_range_getD,validEndsB, ← all_and]
  exact all_congr' fun s _=>end_eq n s
 rw [refNetB,e1,e2,e3,validB,validStreamsB,validWorkersB]
 cases decide (1≤n.streams.length)<;>cases decide (n.streams.length≤8)<;>cases decide (1≤n.workers.length)<;>cases decide (n.workers.length≤6)<;>cases validSourcesB n.sources n.streams.length<;>cases (n.workers.all fun c=>validCodeB c n.streams.length)<;>cases (n.streams.all fun r=>decide (1≤r) && decide (r≤6))<;>cases validEndsB n<;>rfl
end Go.Proofs.YthfdgdfnflilfaaGreatDoor

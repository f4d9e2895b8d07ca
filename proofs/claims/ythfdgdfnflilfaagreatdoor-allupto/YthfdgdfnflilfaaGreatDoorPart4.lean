/- Part 4: Nets2, Nets3, Nets4. -/
import Derived.Deep.RegionHeld3
import Derived.Deep.RegionWith
import Derived.WalkSmall
import Derived.Test.YthfdgdfnflilfaaGreatDoorPart1
namespace Go.Proofs.YthfdgdfnflilfaaGreatDoor
open Go.RowKit
def validCodeB (code:List Ins) (streams:Int):Bool:=decide (1≤code.length) && decide (code.length≤20) && code.all fun i=>opsValid i code.length streams
set_option maxHeartbeats 400000 in
theorem validCode_calls {code:List Ins} {v:Value} {w:World} (streams:Int) (h:CodeAt w v code) :
  Calls Tryz.prog 82 #[v,.int .i64 streams] w fun e w'=>e=.returned (.bool (validCodeB code streams))∧Below w.heap.size w w':=by
 obtain ⟨a,cap,rfl,hn,hcap,hc⟩:=h.open
 have HC:=hide hc
 clear hc h
 by_cases h1:code.length<1
 ·go_enter Tryz.func82,Tryz.ntmps82
  go_wp2
  go_ret
  exact ⟨ret_bool (by
    have:¬ 1≤code.length:=by omega
    simp only [validCodeB,this,decide_false,Bool.false_and]),Below.refl _ _⟩
 have h1':decide ((code.length:Int)<1)=false:=by simp;omega
 by_cases h2:20<code.length
 ·go_enter Tryz.func82,Tryz.ntmps82
  go_wp2
  go_ret
  exact ⟨ret_bool (by
    have:¬ code.length≤20:=by omega
    simp only [validCodeB,this,decide_false,Bool.false_and,Bool.and_false]),Below.refl _ _⟩
 have h2':decide (20<(code.length:Int))=false:=by simp;omega
 have HV:Hid (validCodeB code streams=code.all fun i=>opsValid i code.length streams):=by
  have g1:1≤code.length:=by omega
  have g2:code.length≤20:=by omega
  unfold Hid;simp only [validCodeB,g1,g2,decide_true,Bool.true_and]
 go_enter Tryz.func82,Tryz.ntmps82
 go_wp2
 go_loopw [17] (fun i wr=>∃ k:Nat,k≤code.length∧i=.int .i64 k∧Below w.heap.size w wr∧((code.take k).all fun i=>opsValid i code.length streams)=true) (fun i _=>code.length-(intOf i).toNat)
 case atStart=>exact ⟨0,Nat.zero_le _,rfl,Below.refl _ _,rfl⟩
 case round=>
  obtain ⟨k,hk,rfl,hbl,hno⟩:=hrel
  have HN:=hide hno
  clear hno
  by_cases hlt:k<code.length
  ·obtain ⟨b,off,rfl,d0,d1,d2,d3⟩:=unhide HC wr hbl k hlt
   clear HC
   have HS:Hid (((code.take (k+1)).all fun i=>opsValid i code.length streams)=(((code.take k).all fun i=>opsValid i code.length streams) && opsValid code[k] code.length streams)):=all_take_succ _ _ _ hlt
   have HH:Hid (opsValid code[k] code.length streams=false→(code.all fun i=>opsValid i code.length streams)=false):=all_of_getElem_false code (fun i=>opsValid i code.length streams) k hlt
   generalize code[k]=ins at *
   obtain ⟨op,ia,ib,ic⟩:=ins
   dsimp only at d0 d1 d2 d3
   go_wp2_with fail
   refine (opsValid_calls op ia ib ic _ streams _).mono ?_
   rintro e w1 ⟨rfl,hb1⟩
   have hbl1:=(hbl.alloc hbl.size (.cells #[.int .i64 op,.int .i64 ia,.int .i64 ib,.int .i64 ic] 44)).trans (hb1.mono (by have:=hbl.size;simp;omega))
   clear hb1
   cases hy:opsValid ⟨op,ia,ib,ic⟩ code.length streams
   ·go_wp2
    go_ret
    exact ⟨ret_bool (by rw [HV.out,HH.out hy]),hbl1⟩
   ·rw [hy] at HS
    go_wp2
    go_roundw
    case rel=>exact ⟨k+1,by omega,by go_num,hbl1,by rw [HS.out,HN.out];rfl⟩
    case measure=>simp [intOf];omega
  ·go_wp2
   go_ret
   exact ⟨ret_bool (by have:=HN.out;rw [List.take_of_length_le (by omega)] at this;rw [HV.out,this]),hbl⟩
def validWorkersB (ws:List (List Ins)) (streams:Int):Bool:=decide (1≤ws.length) && decide (ws.length≤6) && ws.all fun c=>validCodeB c streams
set_option maxHeartbeats 400000 in
theorem validWorkers_calls {ws:List (List Ins)} {v:Value} {w:World} (streams:Int) (h:WorkersAt w v ws) :
  Calls Tryz.prog 51 #[v,.int .i64 streams] w fun e w'=>e=.returned (.bool (validWorkersB ws streams))∧Below w.heap.size w w':=by
 obtain ⟨a,cap,rfl,hn,hcap,hc⟩:=h.open
 have HC:=hide hc
 clear hc h
 by_cases h1:ws.length<1
 ·go_enter Tryz.func51,Tryz.ntmps51
  go_wp2
  go_ret
  exact ⟨ret_bool (by
    have:¬ 1≤ws.length:=by omega
    simp only [validWorkersB,this,decide_false,Bool.false_and]),Below.refl _ _⟩
 have h1':decide ((ws.length:Int)<1)=false:=by simp;omega
 by_cases h2:6<ws.length
 ·go_enter Tryz.func51,Tryz.ntmps51
  go_wp2
  go_ret
  exact ⟨ret_bool (by
    have:¬ ws.length≤6:=by omega
    simp only [validWorkersB,this,decide_false,Bool.false_and,Bool.and_false]),Below.refl _ _⟩
 have h2':decide (6<(ws.length:Int))=false:=by simp;omega
 have HV:Hid (validWorkersB ws streams=ws.all fun c=>validCodeB c streams):=by
  have g1:1≤ws.length:=by omega
  have g2:ws.length≤6:=by omega
  unfold Hid;simp only [validWorkersB,g1,g2,decide_true,Bool.true_and]
 go_enter Tryz.func51,Tryz.ntmps51
 go_wp2
 go_loopw [17] (fun i wr=>∃ k:Nat,k≤ws.length∧i=.int .i64 k∧Below w.heap.size w wr∧((ws.take k).all fun c=>validCodeB c streams)=true) (fun i _=>ws.length-(intOf i).toNat)
 case atStart=>exact ⟨0,Nat.zero_le _,rfl,Below.refl _ _,rfl⟩
 case round=>
  obtain ⟨k,hk,rfl,hbl,hno⟩:=hrel
  have HN:=hide hno
  clear hno
  by_cases hlt:k<ws.length
  ·obtain ⟨b,off,u,rfl,d0,hcode⟩:=unhide HC wr hbl k hlt
   clear HC
   have HS:Hid (((ws.take (k+1)).all fun c=>validCodeB c streams)=(((ws.take k).all fun c=>validCodeB c streams) && validCodeB ws[k] streams)):=all_take_succ _ _ _ hlt
   have HH:Hid (validCodeB ws[k] streams=false→(ws.all fun c=>validCodeB c streams)=false):=all_of_getElem_false ws (fun c=>validCodeB c streams) k hlt
   have HCd:=hide hcode
   obtain ⟨ua,ucap,hu, -, -, -⟩:=hcode.open
   generalize ws[k]=cd at *
   generalize hq:cd.length=cl at *
   clear hq hcode
   subst hu
   go_wp2_with fail
   refine (validCode_calls streams (unhide HCd)).mono ?_
   rintro e w1 ⟨rfl,hb1⟩
   have hbl1:=hbl.trans (hb1.mono hbl.size)
   clear hb1
   cases hy:validCodeB cd streams
   ·go_wp2
    go_ret
    exact ⟨ret_bool (by rw [HV.out,HH.out hy]),hbl1⟩
   ·rw [hy] at HS
    go_wp2
    go_roundw
    case rel=>exact ⟨k+1,by omega,by go_num,hbl1,by rw [HS.out,HN.out];rfl⟩
    case measure=>simp [intOf];omega
  ·go_wp2
   go_ret
   exact ⟨ret_bool (by have:=HN.out;rw [List.take_of_length_le (by omega)] at this;rw [HV.out,this]),hbl⟩
def validStreamsB (l:List Int):Bool:=decide (1≤l.length) && decide (l.length≤8) && l.all fun r=>decide (1≤r) && decide (r≤6)
set_option maxHeartbeats 400000 in
theorem validStreams_calls {l:List Int} {v:Value} {w:World} (h:IntsAt w v l) :
  Calls Tryz.prog 49 #[v] w fun e w'=>e=.returned (.bool (validStreamsB l))∧w'=w:=by
 obtain ⟨a,cap,rfl,hn,hcap,hc⟩:=h.open
 have HC:=hide hc
 clear hc h
 by_cases h1:l.length<1
 ·go_enter Tryz.func49,Tryz.ntmps49
  go_wp2
  go_ret
  exact ⟨ret_bool (by
    have:¬ 1≤l.length:=by omega
    simp only [validStreamsB,this,decide_false,Bool.false_and]),rfl⟩
 have h1':decide ((l.length:Int)<1)=false:=by simp;omega
 by_cases h2:8<l.length
 ·go_enter Tryz.func49,Tryz.ntmps49
  go_wp2
  go_ret
  exact ⟨ret_bool (by
    have:¬ l.length≤8:=by omega
    simp only [validStreamsB,this,decide_false,Bool.false_and,Bool.and_false]),rfl⟩
 have h2':decide (8<(l.length:Int))=false:=by simp;omega
 have HV:Hid (validStreamsB l=l.all fun r=>decide (1≤r) && decide (r≤6)):=by
  have g1:1≤l.length:=by omega
  have g2:l.length≤8:=by omega
  unfold Hid;simp only [validStreamsB,g1,g2,decide_true,Bool.true_and]
 go_enter Tryz.func49,Tryz.ntmps49
 go_wp2
 go_loop [15] (fun i=>∃ k:Nat,k≤l.length∧i=.int .i64 k∧((l.take k).all fun r=>decide (1≤r) && decide (r≤6))=true) (fun i=>l.length-(intOf i).toNat)
 case atStart=>exact ⟨0,Nat.zero_le _,rfl,rfl⟩
 case round=>
  obtain ⟨k,hk,rfl,hno⟩:=hrel
  have HN:=hide hno
  clear hno
  by_cases hlt:k<l.length
  ·obtain ⟨b,off,rfl,d0⟩:=unhide HC w (Below.refl _ _) k hlt
   clear HC
   have HS:Hid (((l.take (k+1)).all fun r=>decide (1≤r) && decide (r≤6))=(((l.take k).all fun r=>decide (1≤r) && decide (r≤6)) && (decide (1≤l[k]) && decide (l[k]≤6)))):=all_take_succ _ _ _ hlt
   have HH:Hid ((decide (1≤l[k]) && decide (l[k]≤6))=false→(l.all fun r=>decide (1≤r) && decide (r≤6))=false):=all_of_getElem_false l (fun r=>decide (1≤r) && decide (r≤6)) k hlt
   generalize l[k]=r at *
   by_cases g1:r<1
   ·have F:=HV.out.trans (HH.out (by
     have:¬ 1≤r:=by omega
     simp [this]))
    have F':=hide F
    clear F
    go_wp2
    go_ret
    exact ⟨ret_bool (by rw [F'.out]),rfl⟩
   have g1':decide (r<1)=false:=by simpa using g1
   by_cases g2:6<r
   ·have F:=HV.out.trans (HH.out (by
     have:¬ r≤6:=by omega
     simp [this]))
    have F':=hide F
    clear F
    go_wp2
    go_ret
    exact ⟨ret_bool (by rw [F'.out]),rfl⟩
   have g2':decide (6<r)=false:=by simpa using g2
   have F:Hid ((decide (1≤r) && decide (r≤6))=true):=by
    have g3:1≤r:=by omega
    have g4:r≤6:=by omega
    unfold Hid;simp [g3,g4]
   go_wp2
   go_round
   case rel=>exact ⟨k+1,by omega,by go_num,by rw [HS.out,HN.out,F.out];rfl⟩
   case measure=>simp [intOf];omega
  ·go_wp2
   go_ret
   exact ⟨ret_bool (by have:=HN.out;rw [List.take_of_length_le (by omega)] at this;rw [HV.out,this]),rfl⟩
def validSourcesB (ss:List Src) (streams:Int):Bool:=(List.range ss.length).all fun i=>inB (ss.getD i ⟨0,[]⟩).stream streams && decide ((ss.getD i ⟨0,[]⟩).words.length≤50) && !hasSourceB (ss.take i) (ss.getD i ⟨0,[]⟩).stream
theorem range_all_succ (p:Nat→Bool) (k:Nat):(List.range (k+1)).all p=((List.range k).all p && p k):=by
 rw [List.range_succ,List.all_append];simp only [List.all_cons,List.all_nil,Bool.and_true]
theorem range_all_false (p:Nat→Bool) (n k:Nat) (h:k<n) (hp:p k=false):(List.range n).all p=false:=by
 rw [Bool.eq_false_iff];intro hh;have:=List.all_eq_true.1 hh k (List.mem_range.2 h);rw [hp] at this;cases this
set_option maxHeartbeats 1000000 in
theorem validSources_calls {ss:List Src} {v:Value} {w:World} (streams:Int) (h:SourcesAt w v ss) :
  Calls Tryz.prog 50 #[v,.int .i64 streams] w fun e w'=>e=.returned (.bool (validSourcesB ss streams))∧Below w.heap.size w w':=by
 obtain ⟨a,cap,rfl,hn,hcap,hc⟩:=h.open
 have HC:=hide hc
 have HS0:Hid (∀ wr,Below w.heap.size w wr→∀ k,k≤ss.length→SourcesAt wr (.slice a k cap) (ss.take k)):=fun wr hb k hk=>(h.take k hk).below hb
 clear hc h
 go_enter Tryz.func50,Tryz.ntmps50
 go_wp2
 go_loopw [9] (fun i wr=>∃ k:Nat,k≤ss.length∧i=.int .i64 k∧Below w.heap.size w wr∧((List.range k).all fun i=>inB (ss.getD i ⟨0,[]⟩).stream streams && decide ((ss.getD i ⟨0,[]⟩).words.length≤50) && !hasSourceB (ss.take i) (ss.getD i ⟨0,[]⟩).stream)=true) (fun i _=>ss.length-(intOf i).toNat)
 case atStart=>exact ⟨0,Nat.zero_le _,rfl,Below.refl _ _,rfl⟩
 case round=>
  obtain ⟨k,hk,rfl,hbl,hno⟩:=hrel
  have HN:=hide hno
  clear hno
  by_cases hlt:k<ss.length
  ·obtain ⟨b,off,u,rfl,d0,d1,hu⟩:=unhide HC wr hbl k hlt
   clear HC
   have HS:=hide (range_all_succ (fun i=>inB (ss.getD i ⟨0,[]⟩).stream streams && decide ((ss.getD i ⟨0,[]⟩).words.length≤50) && !hasSourceB (ss.take i) (ss.getD i ⟨0,[]⟩).stream) k)
   have HH:=hide (range_all_false (fun i=>inB (ss.getD i ⟨0,[]⟩).stream streams && decide ((ss.getD i ⟨0,[]⟩).words.length≤50) && !hasSourceB (ss.take i) (ss.getD i ⟨0,[]⟩).stream) ss.length k hlt)
   obtain ⟨ua,ucap,hu, -, -, -⟩:=hu.open
   have HSr:=unhide HS0 wr hbl k hk
   have hsl:ss.getD k ⟨0,[]⟩=ss[k]:=getD_eq _ _ _ hlt
   rw [hsl] at HS HH
   clear hsl HS0
   generalize ss[k]=src at *
   obtain ⟨st,wds⟩:=src
   dsimp only at *
   generalize wds.length=sl at *
   subst hu
   by_cases g1:st<0
   ·have F:=hide (HH.out (by
     have:inB st streams=false:=by simp [inB];omega
     simp [this]))
    go_wp2
    go_ret
    exact ⟨ret_bool (by rw [validSourcesB,F.out]),hbl.alloc hbl.size _⟩
   have g1':decide (st<0)=false:=by simpa using g1
   by_cases g2:streams≤st
   ·have F:=hide (HH.out (by
     have:inB st streams=false:=by simp [inB];omega
     simp [this]))
    go_wp2
    go_ret
    exact ⟨ret_bool (by rw [validSourcesB,F.out]),hbl.alloc hbl.size _⟩
   have g2':decide (streams≤st)=false:=by simpa using g2
   have g3:inB st streams=true:=by simp [inB];omega
   by_cases g4:50<sl
   ·have F:=hide (HH.out (by
     have:¬ sl≤50:=by omega
     simp [this]))
    have g4':decide (50<(sl:Int))=true:=by simp;omega
    clear g3
    go_wp2
    go_quiet (fail)
    go_wp2
    go_ret
    exact ⟨ret_bool (by rw [validSourcesB,F.out]),below_drewN (hbl.alloc hbl.size _) _⟩
   have g4':decide (50<(sl:Int))=false:=by simp;omega
   have hcap':(k:Int)≤(cap:Int):=by omega
   have hk0:(0:Int)≤(k:Int):=by omega
   have HK:Hid (∀ wx,Below wr.heap.size wr wx→Calls Tryz.prog 81 #[.slice (some ⟨b,off,none⟩) k cap,.int .i64 st] wx fun e w'=>e=.returned (.bool (hasSourceB (ss.take k) st))∧Below w.heap.size w w'):=
    fun wx hx=>(hasSource_calls st (HSr.below hx)).mono fun e w' h=>⟨h.1,(hbl.trans (hx.mono hbl.size)).trans (h.2.mono (Nat.le_trans hbl.size hx.size))⟩
   clear HSr
   cases hy:hasSourceB (ss.take k) st
   ·rw [hy] at HK HS
    have F:=hide (g3)
    clear g3
    go_wp2
    go_region_with (go_at_call 81;refine (unhide HK _ ?_).mono ?_; (repeat (first | exact Below.refl _ _ | apply Below.drew | apply below_drewN | refine Below.alloc ?_ (by simp) _));rintro e w1 ⟨rfl,hb1⟩)
    all_goals
     go_wp2
     go_roundw
     case rel=>exact ⟨k+1,by omega,by go_num,by assumption,by rw [HS.out,HN.out,F.out];simp;omega⟩
     case measure=>simp [intOf];omega
   ·rw [hy] at HK HH
    have F:=hide (HH.out (by simp))
    clear g3
    go_wp2
    go_region_with (go_at_call 81;refine (unhide HK _ ?_).mono ?_; (repeat (first | exact Below.refl _ _ | apply Below.drew | apply below_drewN | refine Below.alloc ?_ (by simp) _));rintro e w1 ⟨rfl,hb1⟩)
    all_goals
     go_wp2
     go_ret
     exact ⟨ret_bool (by rw [validSourcesB,F.out]),by assumption⟩
  ·go_wp2
   go_ret
   exact ⟨ret_bool (by
     have hkk:k=ss.length:=by omega
     subst hkk
     rw [validSourcesB,HN.out]),hbl⟩
theorem box3 {w wr:World} {x y z:Value} {T:TypeId} (h:Below (w.heap.size+1) (w.alloc (.cells #[x,y,z] T)) wr) :
  wr.cell? ⟨w.heap.size,0,none⟩=some x∧wr.cell? ⟨w.heap.size,1,none⟩=some y∧wr.cell? ⟨w.heap.size,2,none⟩=some z:=by
 refine ⟨?_,?_,?_⟩
 all_goals
  refine (h.cell (p:=⟨w.heap.size,_,none⟩) (by simp)).trans ?_
  simp [go_sem]
theorem below_box {w wr:World} {o:Obj} (h:Below (w.heap.size+1) (w.alloc o) wr):Below w.heap.size w wr:=
 ((Below.refl _ _).alloc (Nat.le_refl _) o).trans (h.mono (by omega))
def validEndsB (n:Net):Bool:=(List.range n.streams.length).all fun s=>decide (usersN n.workers 2 s+(if hasSourceB n.sources s then 1 else 0)≤1) && decide (usersN n.workers 1 s≤1)
set_option maxHeartbeats 1000000 in
theorem validEnds_calls {n:Net} {v:Value} {w:World} (h:NetAt w v n) :
  Calls Tryz.prog 52 #[v] w fun e w'=>e=.returned (.bool (validEndsB n))∧Below w.heap.size w w':=by
 obtain ⟨vs,vr,vw,rfl,h1,h2,h3⟩:=h
 obtain ⟨sa,sc,rfl,hsn, -, -⟩:=h1.open
 obtain ⟨ar,cr,rfl⟩:=h2.form
 obtain ⟨aw,cw,rfl,hwn, -, -⟩:=h3.open
 have HR:Hid (∀ (st:Int) wx,Below w.heap.size w wx→Calls Tryz.prog 81 #[.slice ar n.sources.length cr,.int .i64 st] wx fun e w'=>e=.returned (.bool (hasSourceB n.sources st))∧Below wx.heap.size wx w'):=
  fun st wx hx=>hasSource_calls st (h2.below hx)
 have HW:Hid (∀ (op st:Int) wx,Below w.heap.size w wx→Calls Tryz.prog 83 #[.slice aw n.workers.length cw,.int .i64 op,.int .i64 st] wx fun e w'=>e=.returned (.int .i64 (usersN n.workers op st))∧Below wx.heap.size wx w'):=
  fun op st wx hx=>users_calls op st (h3.below hx)
 clear h1 h2 h3
 have hle:∀ op st,usersN n.workers op st≤140737488355328:=fun op st=>Nat.le_trans List.countP_le_length (by omega)
 have HL:=hide hle
 clear hle
 have HV:=hide (show validEndsB n=(List.range n.streams.length).all fun s=>decide (usersN n.workers 2 s+(if hasSourceB n.sources s then 1 else 0)≤1) && decide (usersN n.workers 1 s≤1) from rfl)
 generalize n.sources.length=rl at *
 generalize n.workers.length=wl at *
 generalize n.streams.length=sl at *
 go_enter Tryz.func52,Tryz.ntmps52
 go_wp2
 go_loopw [8] (fun i wr=>∃ k:Nat,k≤sl∧i=.int .i64 k∧Below (w.heap.size+1) (w.alloc (.cells #[.slice sa sl sc,.slice ar rl cr,.slice aw wl cw] 26)) wr∧((List.range k).all fun s=>decide (usersN n.workers 2 s+(if hasSourceB n.sources s then 1 else 0)≤1) && decide (usersN n.workers 1 s≤1))=true) (fun i _=>sl-(intOf i).toNat)
 case atStart=>exact ⟨0,Nat.zero_le _,rfl,Below.refl _ _,rfl⟩
 case round=>
  obtain ⟨k,hk,rfl,hbl,hno⟩:=hrel
  have HN:=hide hno
  clear hno
  by_cases hlt:k<sl
  ·obtain ⟨c0,c1,c2⟩:=box3 hbl
   have HS:=hide (range_all_succ (fun s=>decide (usersN n.workers 2 s+(if hasSourceB n.sources s then 1 else 0)≤1) && decide (usersN n.workers 1 s≤1)) k)
   have HH:=hide (range_all_false (fun s=>decide (usersN n.workers 2 s+(if hasSourceB n.sources s then 1 else 0)≤1) && decide (usersN n.workers 1 s≤1)) sl k hlt)
   have hsz:w.heap.size+1≤wr.heap.size:=by have:=hbl.size;simpa using this
   go_wp2_with fail
   refine (unhide HW 2 k wr (below_box hbl)).mono ?_
   rintro e w1 ⟨rfl,hb1⟩
   have hbl1:=hbl.trans (hb1.mono hsz)
   obtain ⟨c0,c1,c2⟩:=box3 hbl1
   have hsz1:w.heap.size+1≤w1.heap.size:=by have:=hbl1.size;simpa using this
   clear hb1
   have l2:=unhide HL 2 k
   generalize e2:usersN n.workers 2 k=u2 at *
   go_wp2_with fail
   refine (unhide HR k w1 (below_box hbl1)).mono ?_
   rintro e w2 ⟨rfl,hb2⟩
   have hbl2:=hbl1.trans (hb2.mono hsz1)
   obtain ⟨c0,c1,c2⟩:=box3 hbl2
   have hsz2:w.heap.size+1≤w2.heap.size:=by have:=hbl2.size;simpa using this
   clear hb2
   cases hy:hasSourceB n.sources k
   all_goals
    rw [hy] at HH HS
    simp only [Bool.false_eq_true,if_true,if_false] at HH HS
   ·by_cases g1:1<u2
    ·have F:=hide (HH.out (by simp;omega))
     clear e2
     go_wp2
     go_ret
     exact ⟨ret_bool (by rw [HV.out,F.out]),below_box hbl2⟩
    have g1':decide (1<(u2:Int))=false:=by simp;omega
    have E2:=hide e2
    clear e2
    go_wp2_with fail
    refine (unhide HW 1 k w2 (below_box hbl2)).mono ?_
    rintro e w3 ⟨rfl,hb3⟩
    have hbl3:=hbl2.trans (hb3.mono hsz2)
    clear hb3
    have l1:=unhide HL 1 k
    generalize e1:usersN n.workers 1 k=u1 at *
    have E1:=hide e1
    clear e1
    by_cases g2:1<u1
    ·have F:=hide (HH.out (by
      have:¬ u1≤1:=by omega
      simp [this]))
     go_wp2
     go_ret
     exact ⟨ret_bool (by rw [HV.out,F.out]),below_box hbl3⟩
    go_wp2
    go_roundw
    case rel=>exact ⟨k+1,by omega,by go_num,hbl3,by rw [HS.out,HN.out];simp;omega⟩
    case measure=>simp [intOf];omega
   ·by_cases g1:1<u2+1
    ·have F:=hide (HH.out (by
      have:¬ u2+1≤1:=by omega
      simp [this]))
     clear e2
     go_wp2
     go_ret
     exact ⟨ret_bool (by rw [HV.out,F.out]),below_box hbl2⟩
    have g1':decide (1<(u2:Int)+1)=false:=by simp;omega
    have E2:=hide e2
    clear e2
    go_wp2_with fail
    refine (unhide HW 1 k w2 (below_box hbl2)).mono ?_
    rintro e w3 ⟨rfl,hb3⟩
    have hbl3:=hbl2.trans (hb3.mono hsz2)
    clear hb3
    have l1:=unhide HL 1 k
    generalize e1:usersN n.workers 1 k=u1 at *
    have E1:=hide e1
    clear e1
    by_cases g2:1<u1
    ·have F:=hide (HH.out (by
      have:¬ u1≤1:=by omega
      simp [this]))
     go_wp2
     go_ret
     exact ⟨ret_bool (by rw [HV.out,F.out]),below_box hbl3⟩
    go_wp2
    go_roundw
    case rel=>exact ⟨k+1,by omega,by go_num,hbl3,by rw [HS.out,HN.out];simp;omega⟩
    case measure=>simp [intOf];omega
  ·go_wp2
   go_ret
   exact ⟨ret_bool (by
     have hkk:k=sl:=by omega
     subst hkk
     rw [HV.out,HN.out]),below_box hbl⟩
set_option maxHeartbeats 400000 in
theorem hasReader_calls {n:Net} {v:Value} {w:World} (st:Int) (h:NetAt w v n) :
  Calls Tryz.prog 53 #[v,.int .i64 st] w fun e w'=>e=.returned (.bool (decide (0<usersN n.workers 1 st)))∧Below w.heap.size w w':=by
 obtain ⟨vs,vr,vw,rfl,h1,h2,h3⟩:=h
 obtain ⟨sa,sc,rfl⟩:=h1.form
 obtain ⟨ar,cr,rfl⟩:=h2.form
 obtain ⟨aw,cw,rfl⟩:=h3.form
 have HW:Hid (∀ wx,Below w.heap.size w wx→Calls Tryz.prog 83 #[.slice aw n.workers.length cw,.int .i64 1,.int .i64 st] wx fun e w'=>e=.returned (.int .i64 (usersN n.workers 1 st))∧Below wx.heap.size wx w'):=
  fun wx hx=>users_calls 1 st (h3.below hx)
 clear h1 h2 h3
 go_enter Tryz.func53,Tryz.ntmps53
 go_wp2_with fail
 refine (unhide HW _ ((Below.refl _ _).alloc (Nat.le_refl _) _)).mono ?_
 rintro e w1 ⟨rfl,hb1⟩
 have hbl1:=((Below.refl w.heap.size w).alloc (Nat.le_refl _) (.cells #[.slice sa n.streams.length sc,.slice ar n.sources.length cr,.slice aw n.workers.length cw] 26)).trans (hb1.mono (by simp))
 clear hb1
 generalize hu:usersN n.workers 1 st=u1 at *
 have HU:=hide hu
 clear hu
 go_wp2
 go_ret
 exact ⟨ret_bool (by rw [HU.out]),hbl1⟩
def validB (n:Net):Bool:=validStreamsB n.streams && validSourcesB n.sources n.streams.length && validWorkersB n.workers n.streams.length && validEndsB n
set_option maxHeartbeats 1000000 in
theorem valid_calls {n:Net} {v:Value} {w:World} (h:NetAt w v n) :
  Calls Tryz.prog 23 #[v] w fun e w'=>e=.returned (.bool (validB n))∧Below w.heap.size w w':=by
 have HE:Hid (∀ wx,Below w.heap.size w wx→Calls Tryz.prog 52 #[v] wx fun e w'=>e=.returned (.bool (validEndsB n))∧Below wx.heap.size wx w'):=
  fun wx hx=>validEnds_calls (h.below hx)
 obtain ⟨vs,vr,vw,rfl,h1,h2,h3⟩:=h
 obtain ⟨sa,sc,rfl⟩:=h1.form
 obtain ⟨ar,cr,rfl⟩:=h2.form
 obtain ⟨aw,cw,rfl⟩:=h3.form
 have HS:Hid (∀ wx,Below w.heap.size w wx→Calls Tryz.prog 49 #[.slice sa n.streams.length sc] wx fun e w'=>e=.returned (.bool (validStreamsB n.streams))∧w'=wx):=
  fun wx hx=>validStreams_calls (h1.below hx)
 have HR:Hid (∀ wx,Below w.heap.size w wx→Calls Tryz.prog 50 #[.slice ar n.sources.length cr,.int .i64 n.streams.length] wx fun e w'=>e=.returned (.bool (validSourcesB n.sources n.streams.length))∧Below wx.heap.size wx w'):=
  fun wx hx=>validSources_calls _ (h2.below hx)
 have HW:Hid (∀ wx,Below w.heap.size w wx→Calls Tryz.prog 51 #[.slice aw n.workers.length cw,.int .i64 n.streams.length] wx fun e w'=>e=.returned (.bool (validWorkersB n.workers n.streams.length))∧Below wx.heap.size wx w'):=
  fun wx hx=>validWorkers_calls _ (h3.below hx)
 clear h1 h2 h3
 have HV:Hid (validB n=(validStreamsB n.streams && validSourcesB n.sources n.streams.length && validWorkersB n.workers n.streams.length && validEndsB n)):=rfl
 generalize validStreamsB n.streams=y1 at *
 generalize validSourcesB n.sources n.streams.length=y2 at *
 generalize validWorkersB n.workers n.streams.length=y3 at *
 generalize validEndsB n=y4 at *
 generalize n.sources.length=rl at *
 generalize n.workers.length=wl at *
 generalize n.streams.length=sl at *
 go_enter Tryz.func23,Tryz.ntmps23
 have hbl0:Below (w.heap.size+1) (w.alloc (.cells #[.slice sa sl sc,.slice ar rl cr,.slice aw wl cw] 26)) (w.alloc (.cells #[.slice sa sl sc,.slice ar rl cr,.slice aw wl cw] 26)):=Below.refl _ _
 go_wp2_with fail
 refine (unhide HS _ (below_box hbl0)).mono ?_
 rintro e w1 ⟨rfl,rfl⟩
 cases y1
 ·go_wp2
  go_ret
  exact ⟨ret_bool (by rw [HV.out];rfl),below_box hbl0⟩
 go_wp2_with fail
 refine (unhide HR _ (below_box hbl0)).mono ?_
 rintro e w2 ⟨rfl,hb2⟩
 have hbl2:=hbl0.trans (hb2.mono (by simp))
 have hsz2:w.heap.size+1≤w2.heap.size:=by have:=hbl2.size;simpa using this
 obtain ⟨c0,c1,c2⟩:=box3 hbl2
 clear hb2
 cases y2
 ·go_wp2
  go_ret
  exact ⟨ret_bool (by rw [HV.out];rfl),below_box hbl2⟩
 go_wp2_with fail
 refine (unhide HW _ (below_box hbl2)).mono ?_
 rintro e w3 ⟨rfl,hb3⟩
 have hbl3:=hbl2.trans (hb3.mono hsz2)
 have hsz3:w.heap.size+1≤w3.heap.size:=by have:=hbl3.size;simpa using this
 obtain ⟨c0,c1,c2⟩:=box3 hbl3
 clear hb3
 cases y3
 ·go_wp2
  go_ret
  exact ⟨ret_bool (by rw [HV.out];rfl),below_box hbl3⟩
 go_wp2_with fail
 refine (unhide HE _ (below_box hbl3)).mono ?_
 rintro e w4 ⟨rfl,hb4⟩
 have hbl4:=hbl3.trans (hb4.mono hsz3)
 clear hb4
 go_wp2
 go_ret
 exact ⟨ret_bool (by rw [HV.out];rfl),below_box hbl4⟩
end Go.Proofs.YthfdgdfnflilfaaGreatDoor

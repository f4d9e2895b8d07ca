/- Part 2: Comm, Ref1, Ref3. -/
import Derived.Conc.LoneSelect
import Derived.Conc.LoneCalls
import Derived.Test.YthfdgdfnflilfaaGreatDoorPart1
namespace Go.Proofs.YthfdgdfnflilfaaGreatDoor
open Go.RowKit Go.Conc
section
variable {P:Program} {Q:Exit→Act→World→Prop} {a:Act} {w:World}
def wpN (P:Program) (c:Code) (Q:Exit→Act→World→Prop) (a:Act) (w:World):Prop:=
 ∀ (b:Frame) (k:List Item) (cs:List Frame),b.kind≠.early→∃ e a' w',Q e a' w'∧Arrives P (lone (b.at a (.code c::k)) cs w) b k cs e a' w'
def wpRest (P:Program) (ops:Array Oper) (Q:Exit→Act→World→Prop) (l:List Nat) (a:Act) (w:World):Prop:=
 ∀ (b:Frame) (k:List Item) (cs:List Frame),b.kind≠.early→∃ e a' w',Q e a' w'∧Arrives P (lone (b.at a (.inRegion ops l::k)) cs w) b k cs e a' w'
theorem wpN_of_wp {c:Code} (h:c.wp P Q a w):wpN P c Q a w:=fun b k cs _=>h b k cs
theorem arrives_pass {m:Machine} {b:Frame} {y:Code} {k:List Item} {cs:List Frame} {e:Exit} {a':Act} {w':World} (he:e≠.normal) (h:Arrives P m b (.code y::k) cs e a' w'):Arrives P m b k cs e a' w':=
 Arrives.pass (x:=.code y) rfl (fun _ _=>.inl he) h
theorem wpN_seq {x y:Code} (h:wpN P x (Exit.then (wpN P y Q) Q) a w):wpN P (.seq x y) Q a w:=by
 intro b k cs hb
 obtain ⟨e,a1,w1,hq,harr⟩:=h b (.code y::k) cs hb
 by_cases he:e=.normal
 ·subst he
  obtain ⟨e2,a2,w2,hq2,harr2⟩:=hq b k cs hb
  exact ⟨e2,a2,w2,hq2,.of_steps (.head step_seq harr) harr2⟩
 ·refine ⟨e,a1,w1,?_,.of_steps (.one step_seq) (arrives_pass he harr)⟩
  cases e<;>first | exact hq | exact absurd rfl he
theorem wpN_block {id:Nat} {c:Code} (h:wpN P c (Exit.inBlock id Q) a w):wpN P (.block id c) Q a w:=by
 intro b k cs hb
 obtain ⟨e,a1,w1,hq,harr⟩:=h b (.inBlock id::k) cs hb
 cases e with
 | normal=>exact ⟨.normal,a1,w1,hq,.head step_block (Steps.trans harr (.one step_inBlock))⟩
 | exit id'=>
  by_cases hid:id'=id
  ·subst hid
   exact ⟨.normal,a1,w1,by simpa [Exit.inBlock] using hq,.head step_block (harr k (by simp [exitTo]))⟩
  ·have hne:(id == id')=false:=by simpa using fun h=>hid h.symm
   exact ⟨.exit id',a1,w1,by simpa [Exit.inBlock,hid] using hq,fun k' hk=>.head step_block (harr k' (by simp [exitTo,hne,hk]))⟩
 | goto l=>exact ⟨_,a1,w1,hq,fun k' hk=>.head step_block (harr k' (by simp [gotoIn,hk]))⟩
 | ret=>exact ⟨_,a1,w1,hq,.of_steps (.one step_block) harr⟩
 | panic ch=>exact ⟨_,a1,w1,hq,.of_steps (.one step_block) harr⟩
 | outgrown=>exact ⟨_,a1,w1,hq,.of_steps (b:=b) (k:=k) (cs:=cs) (e:=.outgrown) (.one step_block) harr⟩
theorem wpN_loop {c:Code} (I:Nat→Act→World→Prop) (n:Nat) (h0:I n a w)
  (round:∀ n a w,I n a w→wpN P c (Exit.then (fun a' w'=>∃ m,m<n∧I m a' w') Q) a w):wpN P (.loop c) Q a w:=by
 intro b k cs hb
 have key:∀ n a w,I n a w→∃ e a' w',Q e a' w'∧Arrives P (lone (b.at a (.code c::.inLoop c::k)) cs w) b k cs e a' w':=by
  intro n
  induction n using Nat.strongRecOn with
  | _ n ih=>
   intro a w hI
   obtain ⟨e,a1,w1,hq,harr⟩:=round n a w hI b (.inLoop c::k) cs hb
   by_cases he:e=.normal
   ·subst he
    obtain ⟨m,hm,hI1⟩:=hq
    obtain ⟨e2,a2,w2,hq2,harr2⟩:=ih m hm a1 w1 hI1
    exact ⟨e2,a2,w2,hq2,.of_steps (Steps.trans harr (.one step_inLoop)) harr2⟩
   ·refine ⟨e,a1,w1,?_,Arrives.pass (x:=.inLoop c) rfl (fun _ _=>.inl he) harr⟩
    cases e<;>first | exact hq | exact absurd rfl he
 obtain ⟨e,a',w',hq,harr⟩:=key n a w h0
 exact ⟨e,a',w',hq,.of_steps (.one step_loop) harr⟩
theorem wpN_region {id:Nat} {ops:Array Oper} (h:wpRest P ops Q (List.range ops.size) a w):wpN P (.region id ops false) Q a w:=
 fun b k cs hb=>let ⟨e,a',w',q,r⟩:=h b k cs hb; ⟨e,a',w',q,.of_steps (.one step_region) r⟩
theorem rest_of_list {ops:Array Oper} (i:Nat) (l:List Oper) (hl:∀ j,l[j]? = ops[i+j]?) (h:wpList P ops Q l a w):wpRest P ops Q (List.range' i l.length) a w:=
 fun b k cs _=>wp_ops _ a w (by rw [wpOps_eq_wpList l i hl];exact h) b k cs
theorem rest_value {ops:Array Oper} {i:Nat} {rest:List Nat} (o:Oper) (ho:ops[i]? = some o) (hg:o.guard=none) (v:Value) (w':World) (hr:(execOp a.eval o).run P w=.ok (.value v) w')
  (h:wpRest P ops Q rest (a.put o.dst v) w'):wpRest P ops Q (i::rest) a w:=by
 intro b k cs hb
 obtain ⟨e,a1,w1,hq,harr⟩:=h b k cs hb
 refine ⟨e,a1,w1,hq,.of_steps (.one (step_lone_go ?_)) harr⟩
 have hw:Region.wanted o (yielded ops a.tmps)=true:=by simp [Region.wanted,hg]
 have hfin:(b.at a (.inRegion ops (i::rest)::k)).finish v=b.at (a.put o.dst v) (.inRegion ops rest::k):=by rw [Frame.finish_at,ho];rfl
 rw [stepG_op ho hw, ← hfin]
 simp [stepG.apply,hr]
theorem rest_nil {ops:Array Oper} (h:Q .normal a w):wpRest P ops Q [] a w:=fun b k cs _=>wp_ops [] a w h b k cs
theorem rest_step {ops:Array Oper} {i:Nat} {rest:List Nat} (o:Oper) (ho:ops[i]? = some o) (v:Value) (w':World)
  (hs:∀ (b:Frame) (k:List Item) (cs:List Frame),b.kind≠.early→step P (solo (G (b.at a (.inRegion ops (i::rest)::k)) cs) w)=.next (solo (G ((b.at a (.inRegion ops (i::rest)::k)).finish v) cs) w'))
  (h:wpRest P ops Q rest (a.put o.dst v) w'):wpRest P ops Q (i::rest) a w:=by
 intro b k cs hb
 obtain ⟨e,a1,w1,hq,harr⟩:=h b k cs hb
 refine ⟨e,a1,w1,hq,.of_steps (.one ?_) harr⟩
 have hfin:(b.at a (.inRegion ops (i::rest)::k)).finish v=b.at (a.put o.dst v) (.inRegion ops rest::k):=by rw [Frame.finish_at,ho];rfl
 rw [lone_eq_solo,lone_eq_solo, ← hfin]
 exact hs b k cs hb
theorem comm_of {ops:Array Oper} {i:Nat} {rest:List Nat} {o:Oper} (ho:ops[i]? = some o) (hg:o.guard=none) {cases:Array CommCase} {blocking:Bool} {shape:CommShape} {w':World}
  (hr:(execOp a.eval o).run P w=.ok (.comm cases blocking shape) w') (b:Frame) (k:List Item) (cs:List Frame) (hb:b.kind≠.early) :
  stepG P true (G (b.at a (.inRegion ops (i::rest)::k)) cs) w=.comm (G (b.at a (.inRegion ops (i::rest)::k)) cs) cases blocking shape w' (listed P b.fn a o w):=
 stepG_comm ho (by simp [Region.wanted,hg]) hb hr
theorem wpN_region_first {id:Nat} {o:Oper} {l:List Oper} (v:Value) (w':World)
  (hs:∀ (b:Frame) (k:List Item) (cs:List Frame),b.kind≠.early→step P (solo (G (b.at a (.inRegion (o::l).toArray (0::List.range' 1 l.length)::k)) cs) w)=.next (solo (G ((b.at a (.inRegion (o::l).toArray (0::List.range' 1 l.length)::k)).finish v) cs) w'))
  (h:wpList P (o::l).toArray Q l (a.put o.dst v) w'):wpN P (.region id (o::l).toArray false) Q a w:=by
 refine wpN_region ?_
 have e:List.range (o::l).toArray.size=0::List.range' 1 l.length:=by
  rw [List.range_eq_range'];simp [List.range'_succ]
 rw [e]
 exact rest_step o rfl v w' hs (rest_of_list 1 l (fun j=>by rw [Nat.add_comm];simp) h)
theorem calls_of_wpN {f:FuncId} {fn:Func} {c:Code} {args:Array Value} {R:Ending→World→Prop} (hf:P.funcs[f]? = some fn) (hb:fn.body=some c)
  (h:wpN P c (bodyPost P fn R) {tmps:=args++Array.replicate (fn.ntmps-args.size) undef,defers:=[]} w):Calls P f args w R:=by
 intro cs
 let b:Frame:={ (default:Frame) with fn:=f,kind:=.normal}
 have hk:b.kind≠.early:=by simp [b]
 have henter:Frame.enter P f args .normal=b.at {tmps:=args++Array.replicate (fn.ntmps-args.size) undef,defers:=[]} [.code c]:=by simp [Frame.enter,Frame.at,hf,hb,b]
 obtain ⟨e,a',w',hq,harr⟩:=h b [] cs hk
 rw [← henter] at harr
 cases e with
 | normal=>
  obtain ⟨hd,v,hr,hR⟩:=hq
  exact ⟨.returned v,w',_,hR,Steps.trans harr (.one step_end),rfl,rfl,hd,rfl,fn,hf,hr⟩
 | ret=>
  obtain ⟨hd,v,hr,hR⟩:=hq
  obtain ⟨todo,hs⟩:=harr
  exact ⟨.returned v,w',_,hR,hs,rfl,rfl,hd,rfl,fn,hf,hr⟩
 | panic chain=>
  obtain ⟨hd,hR⟩:=hq
  obtain ⟨todo,hs⟩:=harr
  exact ⟨.panicked chain,w',_,hR,hs,rfl,rfl,hd,fn,hf⟩
 | exit id=>exact hq.elim
 | goto l=>exact hq.elim
 | outgrown=>exact ⟨.outgrown,w',b,hq,harr.resolve_left hk,rfl,trivial⟩
end
open Go.RowKit
def ixOf:Option Nat→Int
 | some i=>i
 | none => -1
def sourceIx (ss:List Src) (st:Int):Int:=ixOf (ss.findIdx? fun s=>s.stream == st)
def firstUser (ws:List (List Ins)) (op st:Int):Int:=ixOf (ws.findIdx? fun c=>usesB c op st)
theorem findIdx_hit {α : Type} (l:List α) (p : α → Bool) (k:Nat) (hk:k<l.length) (h0:(l.take k).any p=false) (h:p l[k]=true):l.findIdx? p=some k:=by
 rw [List.findIdx?_eq_some_iff_getElem]
 refine ⟨hk,h,fun j hj=>?_⟩
 have:=List.any_eq_false.1 h0 (l[j]) (by rw [List.mem_take_iff_getElem];exact ⟨j,by omega,rfl⟩)
 simpa using this
theorem findIdx_none {α : Type} (l:List α) (p : α → Bool) (h0:l.any p=false):l.findIdx? p=none:=by
 rw [List.findIdx?_eq_none_iff]
 intro x hx
 simpa using List.any_eq_false.1 h0 x hx
set_option maxHeartbeats 400000 in
theorem source_calls {n:Net} {v:Value} {w:World} (st:Int) (h:NetAt w v n) :
  Calls Tryz.prog 28 #[v,.int .i64 st] w fun e w'=>e=.returned (.int .i64 (sourceIx n.sources st))∧Below w.heap.size w w':=by
 obtain ⟨vs,vr,vw,rfl,h1,h2,h3⟩:=h
 obtain ⟨sts,ss,ws⟩:=n
 dsimp only at *
 obtain ⟨sa,sc,rfl⟩:=h1.form
 obtain ⟨ar,cr,rfl,hn,hcap,hc⟩:=h2.open
 obtain ⟨aw,cw,rfl⟩:=h3.form
 have HC:=hide hc
 clear hc h1 h2 h3
 generalize ws.length=wl at *
 generalize sts.length=sl at *
 go_enter Tryz.func28,Tryz.ntmps28
 go_wp2
 go_loop [5] (fun i=>∃ k:Nat,k≤ss.length∧i=.int .i64 k∧hasSourceB (ss.take k) st=false) (fun i=>ss.length-(intOf i).toNat)
 case atStart=>exact ⟨0,Nat.zero_le _,rfl,rfl⟩
 case round=>
  obtain ⟨k,hk,rfl,hno⟩:=hrel
  have HN:=hide hno
  clear hno
  by_cases hlt:k<ss.length
  ·obtain ⟨b,off,u,rfl,d0,d1,hu⟩:=unhide HC (w.alloc (.cells #[.slice sa sl sc,.slice ar ss.length cr,.slice aw wl cw] 26)) ((Below.refl _ _).alloc (Nat.le_refl _) _) k hlt
   clear HC
   have HS:Hid (hasSourceB (ss.take (k+1)) st=(hasSourceB (ss.take k) st || (ss[k].stream == st))):=any_take_succ _ _ _ hlt
   have HH:Hid ((ss[k].stream == st)=true→ss.findIdx? (fun s=>s.stream == st)=some k):=findIdx_hit ss _ k hlt HN.out
   generalize ss[k]=src at *
   obtain ⟨sst,wds⟩:=src
   dsimp only at *
   clear hu d1
   cases hy:sst == st
   ·have hy':sst≠st:=by simpa using hy
    rw [hy] at HS
    go_wp2
    go_round
    case rel=>exact ⟨k+1,by omega,by go_num,by rw [HS.out,HN.out];rfl⟩
    case measure=>simp [intOf];omega
   ·have F:=hide (HH.out hy)
    go_wp2
    go_ret
    exact ⟨ret_int (by rw [sourceIx,F.out];rfl),(Below.refl _ _).alloc (Nat.le_refl _) _⟩
  ·go_wp2
   go_ret
   exact ⟨ret_int (by have:=HN.out;rw [List.take_of_length_le (by omega)] at this;rw [sourceIx,findIdx_none _ _ this];rfl),(Below.refl _ _).alloc (Nat.le_refl _) _⟩
theorem ixOf_bd (o:Option Nat) : -1≤ixOf o:=by
 cases o
 ·simp [ixOf]
 ·simp only [ixOf];omega
theorem ixOf_or (o p:Option Nat):ixOf (o.or p)=if 0≤ixOf o then ixOf o else ixOf p:=by
 cases o with
 | some i=>exact (if_pos (show (0:Int)≤ixOf (some i) from by show (0:Int)≤(i:Int);omega)).symm
 | none=>exact (if_neg (show ¬ (0:Int)≤ixOf none from by decide)).symm
theorem firstUser_snoc (pre:List (List Ins)) (c:List Ins) (op st:Int) :
  firstUser (pre++[c]) op st=if 0≤firstUser pre op st then firstUser pre op st else if usesB c op st then (pre.length:Int) else -1:=by
 simp only [firstUser]
 rw [List.findIdx?_append,ixOf_or]
 congr 1
 cases hu:usesB c op st
 ·simp [List.findIdx?_cons,hu,ixOf]
 ·simp [List.findIdx?_cons,hu,ixOf]
theorem firstUser_succ (ws:List (List Ins)) (op st:Int) (k:Nat) (hk:k<ws.length) :
  firstUser (ws.take (k+1)) op st=if 0≤firstUser (ws.take k) op st then firstUser (ws.take k) op st else if usesB ws[k] op st then (k:Int) else -1:=by
 rw [List.take_succ_eq_append_getElem hk,firstUser_snoc]
 have:(ws.take k).length=k:=by simp;omega
 rw [this]
set_option maxHeartbeats 1000000 in
theorem user_calls {n:Net} {v:Value} {w:World} (op st:Int) (h:NetAt w v n) :
  Calls Tryz.prog 27 #[v,.int .i64 op,.int .i64 st] w fun e w'=>e=.returned (.tuple #[.int .i64 (firstUser n.workers op st),.int .i64 (usersN n.workers op st)])∧Below w.heap.size w w':=by
 obtain ⟨vs,vr,vw,rfl,h1,h2,h3⟩:=h
 obtain ⟨sts,ss,ws⟩:=n
 dsimp only at *
 obtain ⟨sa,sc,rfl⟩:=h1.form
 obtain ⟨ar,cr,rfl⟩:=h2.form
 obtain ⟨aw,cw,rfl,hn,hcap,hc⟩:=h3.open
 have HC:=hide hc
 clear hc h1 h2 h3
 generalize ss.length=rl at *
 generalize sts.length=sl at *
 go_enter Tryz.func27,Tryz.ntmps27
 go_wp2
 go_loop [8,9,10] (fun f m i=>∃ k:Nat,k≤ws.length∧i=.int .i64 k∧f=.int .i64 (firstUser (ws.take k) op st)∧m=.int .i64 (usersN (ws.take k) op st)) (fun _ _ i=>ws.length-(intOf i).toNat)
 case atStart=>exact ⟨0,Nat.zero_le _,rfl,rfl,rfl⟩
 case round=>
  obtain ⟨k,hk,rfl,rfl,rfl⟩:=hrel
  by_cases hlt:k<ws.length
  ·obtain ⟨b,off,u,rfl,d0,hcd⟩:=unhide HC (w.alloc (.cells #[.slice sa sl sc,.slice ar rl cr,.slice aw ws.length cw] 26)) ((Below.refl _ _).alloc (Nat.le_refl _) _) k hlt
   have H1:=hide (firstUser_succ ws op st k hlt)
   have H2:Hid (usersN (ws.take (k+1)) op st=usersN (ws.take k) op st+if usesB ws[k] op st then 1 else 0):=countP_take_succ _ _ _ hlt
   have hf : -1≤firstUser (ws.take k) op st:=ixOf_bd _
   have hm:usersN (ws.take k) op st≤k:=Nat.le_trans List.countP_le_length (by simp;omega)
   obtain ⟨ca,ccap,rfl,hcl,hccap,hcc⟩:=hcd.open
   have HCC:=hide (hcc _ (Below.refl _ _))
   clear hcc HC hcd
   generalize firstUser (ws.take k) op st=fu at *
   generalize usersN (ws.take k) op st=mu at *
   generalize ws[k]=cd at *
   go_wp2
   go_loop [11,12] (fun hs i=>∃ j:Nat,j≤cd.length∧i=.int .i64 j∧hs=.bool (usesB (cd.take j) op st)) (fun _ i=>cd.length-(intOf i).toNat)
   case atStart=>exact ⟨0,Nat.zero_le _,rfl,rfl⟩
   case round=>
    obtain ⟨j,hj,rfl,rfl⟩:=hrel
    by_cases hjl:j<cd.length
    ·obtain ⟨b2,off2,rfl,e0,e1,e2,e3⟩:=unhide HCC j hjl
     have HS:Hid (usesB (cd.take (j+1)) op st=(usesB (cd.take j) op st || (cd[j].op == op && cd[j].b == st))):=any_take_succ _ _ _ hjl
     generalize usesB (cd.take j) op st=hs at *
     generalize cd[j]=ins at *
     obtain ⟨iop,ia,ib,ic⟩:=ins
     dsimp only at *
     cases hs
     ·cases ho:iop == op
      ·rw [ho] at HS
       go_wp2
       go_round
       case rel=>exact ⟨j+1,by omega,by go_num,by rw [HS.out];rfl⟩
       case measure=>simp [intOf];omega
      ·rw [ho] at HS
       cases hb:ib == st
       all_goals
        rw [hb] at HS
        go_wp2
        go_round
        case rel=>exact ⟨j+1,by omega,by go_num,by rw [HS.out];rfl⟩
        case measure=>simp [intOf];omega
     ·go_wp2
      go_round
      case rel=>exact ⟨j+1,by omega,by go_num,by rw [HS.out];rfl⟩
      case measure=>simp [intOf];omega
    ·have ht:cd.take j=cd:=List.take_of_length_le (by omega)
     rw [ht]
     clear ht
     cases hu:usesB cd op st
     ·rw [hu] at H1 H2
      go_wp2
      go_round
      case rel=>exact ⟨k+1,by omega,by go_num,by rw [H1.out];by_cases h0:0≤fu<;>simp [h0];omega,by rw [H2.out];simp⟩
      case measure=>simp [intOf];omega
     ·rw [hu] at H1 H2
      by_cases h0:fu<0
      ·go_wp2
       go_round
       case rel=>exact ⟨k+1,by omega,by go_num,by rw [H1.out,if_neg (by omega)];rfl,by rw [H2.out];simp⟩
       case measure=>simp [intOf];omega
      ·go_wp2
       go_round
       case rel=>exact ⟨k+1,by omega,by go_num,by rw [H1.out,if_pos (by omega)],by rw [H2.out];simp⟩
       case measure=>simp [intOf];omega
  ·have ht:ws.take k=ws:=List.take_of_length_le (by omega)
   rw [ht]
   clear ht
   go_wp2
   go_ret2
   exact ⟨rfl,(Below.refl _ _).alloc (Nat.le_refl _) _⟩
end Go.Proofs.YthfdgdfnflilfaaGreatDoor

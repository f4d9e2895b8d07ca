/- Part 47: Loads3, Play7, Play8, Laws3. -/
import Derived.Test.YthfdgdfnflilfaaGreatDoorPart15
import Derived.Test.YthfdgdfnflilfaaGreatDoorPart25
import Derived.Test.YthfdgdfnflilfaaGreatDoorPart40
import Derived.Test.YthfdgdfnflilfaaGreatDoorPart44
import Derived.Test.YthfdgdfnflilfaaGreatDoorPart45
namespace Go.Proofs.YthfdgdfnflilfaaGreatDoor
open Go.RowKit Go.Conc
set_option maxRecDepth 100000 in
set_option maxHeartbeats 8000000 in
theorem loads_calls {base:Nat} {col:Nat→Nat} {wz w:World} {p:Nat} {v0:Value} {c cx cy:Nat} {n:Net} {v:Value} {s:ByteArray} {l rs:List Int} {ea:TypeId×Addr} (hcx:29<cx) (hcx9:cx<90) (hcy:29<cy) (hcy9:cy<90) (hb:Bk base col w p v0 c) (hn:NetStays base col w v n) (hs:ShortNet n) (hc:c+n.sources.length+n.workers.length+3≤1099511627776)
  (hnz:NetAt wz v n) (hwz:Below wz.heap.size wz w) (hzb:wz.heap.size≤base) (hE:ErrAt wz ea) (hstr:StrIs s l rs) (hlen:l.length≤274877906944) :
  Calls Tryz.prog 43 #[.pointer (some ⟨p,0,none⟩),v,.string s] w fun e w'=>∃ x y,e=.returned (.tuple #[.pointer x,.pointer y,.bool true])∧LoadsDone wz base col w p v0 (c+n.sources.length+n.workers.length+3+1) cx cy n l rs x y w':=by
 obtain ⟨iI,hiI,hI0,hI1,hI2⟩:=info_parts Tryz.infoLB
 have hssz:=hstr.size
 have hsh:=hstr.short
 have hsb:s.size≤70368744177664:=by omega
 have hnw:=hn w (Fr.refl _ _)
 obtain ⟨vs,vr,vw,rfl,h1,h2,h3⟩:=hnw
 obtain ⟨sa,sc,rfl⟩:=h1.form
 obtain ⟨ar,cr,rfl⟩:=h2.form
 obtain ⟨aw,cw,rfl⟩:=h3.form
 obtain ⟨cs0,hp0, -⟩:=hb.blk
 have hbase:base≤w.heap.size:=Nat.le_trans hb.ge (Nat.le_of_lt (lt_of_blk hp0))
 have hNt:∀ wx,Below w.heap.size w wx→NetAt wx (.agg #[.slice sa n.streams.length sc,.slice ar n.sources.length cr,.slice aw n.workers.length cw]) n:=fun wx hx=>NetAt.below ⟨_,_,_,rfl,h1,h2,h3⟩ hx
 have hb0:Below w.heap.size w (w.alloc (.cells #[.slice sa n.streams.length sc,.slice ar n.sources.length cr,.slice aw n.workers.length cw] 26)):=(Below.refl _ _).alloc (Nat.le_refl _) _
 have hsz0:(w.alloc (.cells #[.slice sa n.streams.length sc,.slice ar n.sources.length cr,.slice aw n.workers.length cw] 26)).heap.size=w.heap.size+1:=by simp
 have HLe:=hide (lent_open (hNt _ hb0) hs)
 have hz0:0<wz.heap.size:=lt_of_cell hE.cell
 have HLd:Hid (∀ w1 wI u,Below w.heap.size w w1→Below w1.heap.size w1 wI→NetAt w1 u n→InAt w1 w1.heap.size s wI→Calls Tryz.prog 75 #[u,.slice (some ⟨w1.heap.size,0,none⟩) s.size (s.size+2)] wI fun e w'=>∃ x en,e=.returned (.tuple #[.pointer x,.int .i64 en])∧LoadOut (fun b=>b<wI.heap.size) n l rs x en w'∧Below wI.heap.size wI w'):=fun w1 wI u k1 k2 k3 k4=>by
  have hbI:Below w.heap.size w wI:=k1.trans (k2.mono k1.size)
  refine load_any (rs:=rs) (l:=l) (a:=ea) (k3.below k2) (fits_of_short hs) (by rw [← hstr.eq];exact k4.bytes (by omega)) (fun g hg=>?_) hsh hstr.fits hlen (hE.below (hwz.trans (hbI.mono hwz.size)) hz0)
  have:w1.heap.size=g:=by simpa [Value.ownBlock] using hg
  rw [← this];exact lt_of_blk k4.blk
 have HRl:Hid (∀ wx,Below w.heap.size w wx→Calls Tryz.prog 76 #[.agg #[.slice sa n.streams.length sc,.slice ar n.sources.length cr,.slice aw n.workers.length cw],.string s] wx fun e w'=>∃ y fn,e=.returned (.tuple #[.pointer y,.int .i64 fn])∧RLoadOut wz (fun b=>b<wx.heap.size) n l rs y fn w'∧Below wx.heap.size wx w'):=fun wx hx=>refLoad_any hnz (hwz.trans (hx.mono hwz.size)) hs hstr hlen
 have HBk:Hid (∀ L w1 wI w3 w4 x y en fn,LoanAt (w.alloc (.cells #[.slice sa n.streams.length sc,.slice ar n.sources.length cr,.slice aw n.workers.length cw] 26)).heap.size L w1 n→Below (w.alloc (.cells #[.slice sa n.streams.length sc,.slice ar n.sources.length cr,.slice aw n.workers.length cw] 26)).heap.size (w.alloc (.cells #[.slice sa n.streams.length sc,.slice ar n.sources.length cr,.slice aw n.workers.length cw] 26)) w1→Below w1.heap.size w1 wI→InAt w1 w1.heap.size s wI→Below wI.heap.size wI w3→LoadOut (fun b=>b<wI.heap.size) n l rs x en w3→Below w3.heap.size w3 w4→RLoadOut wz (fun b=>b<w3.heap.size) n l rs y fn w4 →
   Calls Tryz.prog 15 #[.pointer (some ⟨p,0,none⟩),.pointer (some ⟨L.q,0,none⟩),.agg #[.slice sa n.streams.length sc,.slice ar n.sources.length cr,.slice aw n.workers.length cw]] w4 fun e w5=>e=.returned (.bool true)∧InAt w1 w1.heap.size s w5∧MidL wz base col w p v0 (c+n.sources.length+n.workers.length+3) cx cy n l rs w1.heap.size x y w5):=fun L w1 wI w3 w4 x y en fn k1 k2 k3 k4 k5 k6 k7 k8=>loads_back hcx9 hcy9 hb hn hs hc hwz hzb k1 k2 k3 k4 k5 k6 k7 k8
 have HMd:Hid (∀ ib x y w5 col5 w',Opened base col col5 w w5→col5 ib=22→w.heap.size≤ib→LRes wz cx cy n l rs x y col5 w5→Backed base col5 w5 p v0 (c+n.sources.length+n.workers.length+3) ib w'→LoadsDone wz base col w p v0 (c+n.sources.length+n.workers.length+3+1) cx cy n l rs x y w'):=fun ib x y w5 col5 w' k2 k3 k4 k6 k7=>MidL.done hcx hcy hwz hzb k2 k3 k4 k6 k7
 have hmk:=run_make_row' (P:=Tryz.prog) 100 5 (.int .u8 0) 1 Tryz.underlying100 Tryz.infoU8 rfl .i64 .i64 (s.size+2) (by omega) (by omega)
 have ec:((s.size+2:Nat):Int)=(s.size:Int)+2:=by omega
 rw [ec,madeCells_zrow] at hmk
 have hcp:=fun wx ty=>copy_str wx s ty
 have hq0:(brow s 0 0)[s.size]? = some (.int .u8 0):=by
  have:=brow_a s 0 0
  simpa [brow] using this
 have hq1:((brow s 0 0).setIfInBounds s.size (.int .u8 252))[s.size+1]? = some (.int .u8 0):=by
  rw [Array.getElem?_setIfInBounds_ne (by omega)]
  have:=brow_b s 0 0
  simpa [brow] using this
 have hqs:(brow s 0 0).size=s.size+2:=brow_size s 0 0
 have HQ2:Hid (((brow s 0 0).setIfInBounds s.size (.int .u8 252)).setIfInBounds (s.size+1) (.int .u8 253)=brow s 252 253):=by
  have e:∀ a b:Int,byteRow (bytesL s++[a,b])=byteRow (bytesL s)++[.int .u8 a,.int .u8 b]:=fun a b=>by simp [byteRow]
  have hl:(byteRow (bytesL s)).length=s.size:=by rw [byteRow_length,bytesL_length]
  unfold Hid brow
  simp only [List.setIfInBounds_toArray,e]
  rw [List.set_append_right _ _ (by omega),hl,Nat.sub_self,List.set_cons_zero,List.set_append_right _ _ (by omega),hl,Nat.add_sub_cancel_left,List.set_cons_succ,List.set_cons_zero]
 have HNu:Hid (∀ (e:Int) wx,Calls Tryz.prog 37 #[.int .i64 e] wx fun r w'=>r=.returned (.int .i64 e)∧w'=wx):=num_calls
 clear h1 h2 h3 hNt hb hn ec hssz hsh hstr hlen
 have HB0:=hide hb0
 clear hb0
 generalize brow s 0 0=br at *
 go_enter Tryz.func43,Tryz.ntmps43
 go_wp2_with fail
 refine (unhide HLe).mono ?_
 rintro e w1 ⟨L,ra,rc,rfl,hL,hb1,c0,c1,c2,hnet⟩
 have hsz1:w.heap.size<w1.heap.size:=by have:=hb1.size;rw [hsz0] at this;omega
 have t1:w1.heap[w.heap.size]? = some (.cells #[.slice sa n.streams.length sc,.slice ar n.sources.length cr,.slice aw n.workers.length cw] 26 (0,0)):=by
  rw [hb1.block _ (by rw [hsz0];omega)];exact heapNew rfl
 have HB1:Hid (Below w.heap.size w w1):=HB0.out.trans (hb1.mono (by rw [hsz0];omega))
 have HLd1:=hide (fun wI (h:Below w1.heap.size w1 wI)=>HLd.out w1 wI _ HB1.out h hnet)
 have HBk1:=hide (fun wI w3 w4 x y en fn=>HBk.out L w1 wI w3 w4 x y en fn hL hb1)
 have T1:=hide t1
 clear hL hb1 hnet t1 HLe HBk HB0 HLd hnz
 have hs0:(0:Int)≤(s.size:Int):=by omega
 have hs1:(s.size:Int)<(s.size:Int)+2:=by omega
 have hs2:(s.size:Int)+1<(s.size:Int)+2:=by omega
 have hs3:(0:Int)≤(s.size:Int)+1:=by omega
 have hcp1:=hcp w1
 have hmk1:=hmk w1
 clear hcp hmk
 go_upto_region 6 with fail
 rw [HQ2.out]
 have HIn:Hid (InAt w1 w1.heap.size s (w1.alloc (.cells (brow s 252 253) 5))):=⟨heap_alloc_new _ _,Nat.le_refl _⟩
 have HBI:Hid (Below w1.heap.size w1 (w1.alloc (.cells (brow s 252 253) 5))):=(Below.refl _ _).alloc (Nat.le_refl _) _
 have c0:=(HBI.out.cell (p:=⟨L.q,0,none⟩) (lt_of_cell c0)).trans c0
 have c1:=(HBI.out.cell (p:=⟨L.q,1,none⟩) (lt_of_cell c1)).trans c1
 have c2:=(HBI.out.cell (p:=⟨L.q,2,none⟩) (lt_of_cell c2)).trans c2
 generalize w1.alloc (.cells (brow s 252 253) 5)=wI at *
 have hbId:Below w1.heap.size w1 wI.drew:=below_drewN HBI.out 1
 have HInd:Hid (InAt w1 w1.heap.size s wI.drew):=⟨HIn.out.blk,HIn.out.ge⟩
 have HLd2:=hide (HLd1.out wI.drew hbId HInd.out)
 have HBId:=hide hbId
 have hq4:(s.size:Int)≤(s.size:Int)+2:=by omega
 clear hcp1 hmk1 hq0 hq1 hqs HQ2 HLd1 hbId HIn HBI
 generalize hib:w1.heap.size=ib at *
 go_region_held3 (fun w'=>w'.cell? ⟨L.q,0,none⟩=some (.slice ra n.streams.length rc)∧w'.cell? ⟨L.q,1,none⟩=some (.slice (some ⟨L.gr,0,none⟩) n.sources.length (n.sources.length+1))∧w'.cell? ⟨L.q,2,none⟩=some (.slice (some ⟨L.gw,0,none⟩) n.workers.length (n.workers.length+1))) (go_keep)
  ((go_at_call 75;refine (unhide HLd2).mono ?_;rintro e w3 ⟨x,en,rfl,hx,hb3⟩;have d0:=(hb3.cell (p:=⟨L.q,0,none⟩) (lt_of_cell (show wI.drew.cell? ⟨L.q,0,none⟩=_ from c0))).trans c0;have d1:=(hb3.cell (p:=⟨L.q,1,none⟩) (lt_of_cell (show wI.drew.cell? ⟨L.q,1,none⟩=_ from c1))).trans c1;have d2:=(hb3.cell (p:=⟨L.q,2,none⟩) (lt_of_cell (show wI.drew.cell? ⟨L.q,2,none⟩=_ from c2))).trans c2;have HX:=hide hx;have HB3:=hide hb3;clear hx hb3))
 have hszI:=HBId.out.size
 have hszx:=HB3.out.size
 have hszd:wI.drew.heap.size=wI.heap.size:=rfl
 rw [hib] at hszI
 have hsz3:w.heap.size<w3.heap.size:=by omega
 have hbw3:Below w.heap.size w w3:=HB1.out.trans ((HBId.out.trans (HB3.out.mono (by omega))).mono (by omega))
 have t3:w3.heap[w.heap.size]? = some (.cells #[.slice sa n.streams.length sc,.slice ar n.sources.length cr,.slice aw n.workers.length cw] 26 (0,0)):=by
  rw [HB3.out.block _ (by omega),HBId.out.block _ (by omega)];exact T1.out
 obtain ⟨z0, -⟩:=blk_cell (l:=[_,_,_]) t3 0 _ rfl
 obtain ⟨z1, -⟩:=blk_cell (l:=[_,_,_]) t3 1 _ rfl
 obtain ⟨z2, -⟩:=blk_cell (l:=[_,_,_]) t3 2 _ rfl
 have HRl1:=hide (HRl.out w3 hbw3)
 have T3:=hide t3
 clear t3 hbw3 HRl HLd2 c0 c1 c2 d0 d1 d2 T1 hszI hszx hszd
 go_wp2_with fail
 refine (unhide HRl1).mono ?_
 rintro e w4 ⟨y,fn,rfl,hy,hb4⟩
 have t4:=(hb4.block _ hsz3).trans T3.out
 clear z0 z1 z2
 obtain ⟨z0, -⟩:=blk_cell (l:=[_,_,_]) t4 0 _ rfl
 obtain ⟨z1, -⟩:=blk_cell (l:=[_,_,_]) t4 1 _ rfl
 obtain ⟨z2, -⟩:=blk_cell (l:=[_,_,_]) t4 2 _ rfl
 obtain ⟨hen,hxs⟩:=loads_same HX.out hy
 have hxy:(x.isNone == y.isNone)=true:=by
  cases x<;>cases y<;>simp_all
 have HBk2:=hide (HBk1.out wI.drew w3 w4 x y en fn HBId.out HInd.out HB3.out HX.out hb4 hy)
 subst hen
 clear hy hb4 t4 hxs HRl1 T3 HBk1 HX HB3 HBId HInd
 go_wp2_with fail
 refine (unhide HBk2).mono ?_
 rintro e w5 ⟨rfl,hin,hmid⟩
 obtain ⟨col5,hb5,m2,m3,m4,m5,m6⟩:=hmid.ex
 have hcv:=hin.conv
 obtain ⟨k0,k1⟩:=hin.cells
 obtain ⟨v,vals,q1,q2,q3,q4,q5,q6,q7⟩:=(hb5.rows 3 (by decide) (by decide)).ex
 have q2':w5.ownsRow base 100 1 v vals.length vals:=q2
 obtain ⟨cs,hp,hpl⟩:=hb5.blk
 have hcg:8<col5 ib:=by rw [m3];omega
 have hgp:ib≠p:=fun e=>by rw [e,hb5.colp] at hcg;omega
 have hvg:v.ownBlock≠some ib:=fun e=>by have:=q3 ib e;omega
 have hvp:v.ownBlock≠some p:=fun e=>by have:=q3 p e;rw [hb5.colp] at this;omega
 obtain ⟨av,cv,rfl⟩:=own_slice q2'
 have hb5e:base≤w5.heap.size:=Nat.le_trans hb5.ge (Nat.le_of_lt (lt_of_blk hp))
 have HFin:Hid (∀ w6 w7 gr gcap o H,Fr (fun b=>b=ib) w5 w6→w6.heap[ib]? = some (.cells (List.replicate (s.size+2) (.int .u8 251)).toArray 5 (0,0))→w7.ownsRow base 100 1 (.slice (some ⟨gr,0,none⟩) (vals.length+1) gcap) (vals.length+1) (vals++[.slice (some ⟨ib,0,none⟩) (s.size+2) (s.size+2)])→(w6.alloc o).grownBy w7 (Value.slice av vals.length cv).ownBlock→((Value.slice av vals.length cv).ownBlock=some gr∨gr=H)→w5.heap.size≤H →
   (w7.cell? ⟨p,3,none⟩=some (.slice av vals.length cv)∧w7.frozen? ⟨p,3,none⟩=false)∧LoadsDone wz base col w p v0 (c+n.sources.length+n.workers.length+3+1) cx cy n l rs x y (w7.setCell ⟨p,3,none⟩ (.slice (some ⟨gr,0,none⟩) (vals.length+1) gcap))):=fun w6 w7 gr gcap o H hf h7 ho hgr hor hH=>by
  have hsz1:=hf.size
  have hp2:w7.heap[p]? = w5.heap[p]? := by
   rw [hgr.block p (by have:=lt_of_blk hp;simp;omega) (fun e=>hvp e.symm),Below.heap_alloc _ _ _ (by have:=lt_of_blk hp;omega),hf.block p (lt_of_blk hp) (fun e=>hgp e.symm)]
  refine ⟨⟨(World.cell?_of_block (w:=w5) hp2).trans q1,row_frozen (hp2.trans hp) 3⟩,HMd.out ib x y w5 col5 _ m2 m3 m4 m6 ?_⟩
  refine Backed.push (r:=3) (by decide) (by decide) hb5 q1 q2 q3 q4 q6 q7 (by omega) hcg m5 hf ho hgr hor hH (m:=s.size+2) ?_ (fun b hb'=>by simpa [Value.ownBlock] using hb'.symm)
  exact replicate_sl h7 (by omega)
 have HRow:Hid (∀ w6,Fr (fun b=>b=ib) w5 w6→w6.ownsRow base 100 1 (.slice av vals.length cv) vals.length vals∧w6.cell? ⟨p,3,none⟩=some (.slice av vals.length cv)):=fun w6 hf=>
  ⟨own_of_blockB q2' fun k hk=>hf.block k (q2'.lt k hk).2 (fun e=>hvg (by rw [← e];exact hk)),(World.cell?_of_block (w:=w5) (hf.block p (lt_of_blk hp) (fun e=>hgp e.symm))).trans q1⟩
 have HL:Hid (w5.heap[ib]? = some (.cells (byteRow (bytesL s++[252,253])).toArray 5 (0,0))):=hin.blk
 have hrl:(byteRow (bytesL s++[252,253])).length=s.size+2:=by simp [byteRow,bytesL_length]
 have h63:vals.length+1≤maxLen:=by unfold maxLen;omega
 have hbytes:(vals.length+1)*24≤140737488355328:=by omega
 clear hin hmid hb5 q1 q2 q2' q3 q4 q5 q6 q7 hp hpl hvg hvp m2 m3 m4 m6 HBk2 HMd z0 z1 z2 hcg hgp
 generalize byteRow (bytesL s++[252,253])=row at *
 generalize vals.length=vn at *
 go_wp2_with fail
 refine (unhide HNu en w5).mono ?_
 rintro e w6 ⟨rfl,hw6⟩
 subst hw6
 go_wp2
 clear hcv k0 k1 hxy
 go_loopw [16] (fun i wr=>∃ k:Nat,k≤s.size+2∧i=.int .i64 k∧Fr (fun b=>b=ib) w6 wr∧wr.heap[ib]? = some (.cells (List.replicate k (Value.int .u8 251)++row.drop k).toArray 5 (0,0))) (fun i _=>s.size+2-(intOf i).toNat)
 case atStart=>exact ⟨0,Nat.zero_le _,rfl,Fr.refl _ _,by simpa using HL.out⟩
 case round=>
  obtain ⟨k,hk,rfl,hf,hr⟩:=hrel
  by_cases hlt:k<s.size+2
  ·have hkr:k<row.length:=by omega
   have c0:=row_cell hr (over_get hkr)
   have f0:=row_frozen hr k
   have HNx:Hid (Fr (fun b=>b=ib) w6 (wr.setCell ⟨ib,k,none⟩ (.int .u8 251))∧(wr.setCell ⟨ib,k,none⟩ (.int .u8 251)).heap[ib]? = some (.cells (List.replicate (k+1) (Value.int .u8 251)++row.drop (k+1)).toArray 5 (0,0))):=
    ⟨Fr.setCell (S:=fun b=>b=ib) hf (p:=⟨ib,k,none⟩) (Or.inr rfl) _,setCell_over hr hkr⟩
   have hk0:(0:Int)≤(k:Int):=by omega
   have hk1:(k:Int)<(s.size:Int)+2:=by omega
   clear hf hr HFin HRow HL
   generalize row[k]=xx at *
   go_wp2
   go_roundw
   case rel=>exact ⟨k+1,by omega,by go_num,HNx.out.1,HNx.out.2⟩
   case measure=>simp [intOf];omega
  ·have hke:k=s.size+2:=by omega
   subst hke
   have hr':wr.heap[ib]? = some (.cells (List.replicate (s.size+2) (.int .u8 251)).toArray 5 (0,0)):=by
    rw [hr,List.drop_of_length_le (by omega),List.append_nil]
   obtain ⟨hro,c4⟩:=HRow.out wr hf
   have hszr:=hf.size
   have HRo:=hide hro
   have HF2:=hide (fun w7 gr gcap o H=>HFin.out wr w7 gr gcap o H hf hr')
   clear hr hr' hf hro HFin HRow HL
   go_wp2_with (at_builtin;refine wpList_append_lies _ rfl (.tmp 110) (.tmp 112) 30 rfl base 100 iI (.slice none 0 0) 1 24 Tryz.underlying30 hiI hI0 hI1 hI2 rfl (by decide) (.slice av vn cv) vn vals rfl (HRo.out.alloc _) ⟨wr.heap.size,0,none⟩ 1 1 [.slice (some ⟨ib,0,none⟩) (s.size+2) (s.size+2)] rfl rfl ?c1 ?c2 (by decide) h63 hbytes (by simp;omega) (wr.heap.size+1) (by simp) ?_)
   (try case c1=>exact cell_one_new _ _ _)
   case c2=>first | rfl | (intro u hu;simp at hu;subst hu;rfl)
   intro gr gc w7 ho hgr hor hglt
   obtain ⟨⟨y2,yf⟩,y3⟩:=HF2.out w7 gr gc _ _ ho hgr hor (by omega)
   have Y3:=hide y3
   clear ho hgr hor hglt HF2 y3 c4 HRo
   go_wp2
   go_ret3
   exact ⟨x,y,rfl,Y3.out⟩
section
variable {wz:World} {base p:Nat} {v0:Value} {c d sd cx cy x y:Nat} {n:Net} {vs vr vw:Value} {col:Nat→Nat} {w:World} {R Rx Ry:Rc} {ea:TypeId×Addr}
theorem Sd.stays (h:Sd wz base p v0 c sd cx cy x y n vs vr vw col w Rx Ry) {v:Value} {m:Net} (hm:NetAt wz v m):NetStays base col w v m:=fun wx hx=>hm.below (h.wzm.trans ⟨hx.os,hx.tape,hx.output,hx.size,fun b hb'=>hx.block b (by have:=h.wzm.size;omega) (fun e=>by have:=e.1;have:=h.wzb;omega)⟩)
theorem str_len {s:ByteArray} {l rs:List Int} {N:Nat} (h:StrIs s l rs) (hs:s.size≤8*N):l.length≤N:=by
 have:=h.size
 omega
set_option maxRecDepth 100000 in
set_option maxHeartbeats 4000000 in
theorem step_k10 (h:Sd wz base p v0 c sd cx cy x y n vs vr vw col w R R) (hf:Fine n R d) (hc:c+4194304≤1099511627776) (hE:ErrAt wz ea) (num:Int) (sched:List Int) (sa:Option Addr) (sc:Nat) (net:Net) (a0:Option Addr) (c0:Nat) (a1:Option Addr) (c1:Nat) (a2:Option Addr) (c2:Nat) (str:ByteArray) (which:Bool) (hn:NetAt wz (.agg #[.slice a0 net.streams.length c0,.slice a1 net.sources.length c1,.slice a2 net.workers.length c2]) net) (hs:ShortNet net) (hstr:str.size≤1048576) :
  Calls Tryz.prog 16 #[.pointer (some ⟨p,0,none⟩),.pointer (some ⟨sd,0,none⟩),.agg #[.int .i64 10,.int .i64 num,.slice sa sched.length sc,.slice a0 net.streams.length c0,.slice a1 net.sources.length c1,.slice a2 net.workers.length c2,.string str,.bool which]] w fun e w'=>e=.returned (.bool true)∧Went2 wz base p v0 c d sd cx cy n vs vr vw col w w':=by
 have hbx:=h.box (.cells #[.int .i64 10,.int .i64 num,.slice sa sched.length sc,.slice a0 net.streams.length c0,.slice a1 net.sources.length c1,.slice a2 net.workers.length c2,.string str,.bool which] 65)
 obtain ⟨l,rs,hst⟩:=str_is str
 have h1:=hs.2.1
 have h2:=hs.2.2.1
 have HC:Hid (Calls Tryz.prog 43 #[.pointer (some ⟨p,0,none⟩),(.agg #[.slice a0 net.streams.length c0,.slice a1 net.sources.length c1,.slice a2 net.workers.length c2]),.string str] (w.alloc (.cells #[.int .i64 10,.int .i64 num,.slice sa sched.length sc,.slice a0 net.streams.length c0,.slice a1 net.sources.length c1,.slice a2 net.workers.length c2,.string str,.bool which] 65)) fun e w'=>∃ xx yy,e=.returned (.tuple #[.pointer xx,.pointer yy,.bool true])∧Went2 wz base p v0 c d sd cx cy n vs vr vw col w w'):=by
  refine (loads_calls (cx:=50) (cy:=51) (by decide) (by decide) (by decide) (by decide) hbx.1.bk (hbx.1.stays hn) hs (by omega) hn hbx.1.wzm hbx.1.wzb hE hst (by have:=str_len (N:=131072) hst (by omega);omega)).mono fun e w' ⟨xx,yy,q1,q2⟩=>⟨xx,yy,q1,?_⟩
  obtain ⟨col',r1,r2, -⟩:=q2.ex
  exact Went2.of hbx.2 (hbx.1.opened r1 r2) (by omega) (hf.mono (by omega))
 clear h hf hc hbx hn hs h1 h2 hst
 go_enter Tryz.func16,Tryz.ntmps16
 go_wp2_with fail
 refine (unhide HC).mono ?_
 rintro e w1 ⟨xx,yy,rfl,ht⟩
 have HT:=hide ht
 clear ht HC
 go_wp2
 go_ret
 exact ⟨rfl,HT.out⟩
theorem Sd.loaded (h:Sd wz base p v0 c sd cx cy x y n vs vr vw col w Rx Ry) {c':Nat} {l rs:List Int} {xa ya:Option Addr} {w3:World} (hL:LoadsDone wz base col w p v0 c' cx cy n l rs xa ya w3) :
  (xa=none∧ya=none∧Turn wz base p v0 c' sd cx cy x y n vs vr vw col w Rx Ry w3)∨∃ xb yb R',xa=some ⟨xb,0,none⟩∧ya=some ⟨yb,0,none⟩∧loadR n l rs=some R'∧((w3.cell? ⟨sd,0,none⟩=some (.pointer (some ⟨x,0,none⟩))∧w3.frozen? ⟨sd,0,none⟩=false)∧(w3.cell? ⟨sd,1,none⟩=some (.pointer (some ⟨y,0,none⟩))∧w3.frozen? ⟨sd,1,none⟩=false))∧Turn wz base p v0 c' sd cx cy xb yb n vs vr vw col w R' R' ((w3.setCell ⟨sd,0,none⟩ (.pointer (some ⟨xb,0,none⟩))).setCell ⟨sd,1,none⟩ (.pointer (some ⟨yb,0,none⟩))):=by
 obtain ⟨col',r1,r2,r3⟩:=hL.ex
 have hx0:=h.x0
 have hy0:=h.y0
 have hsl:=lt_of_blk h.at'.blk
 have hcs:=h.at'.csd
 have hbs:w3.heap[sd]? = some (.cells #[.pointer (some ⟨x,0,none⟩),.pointer (some ⟨y,0,none⟩),vs,vr,vw] 49 (0,0)):=(r2.fr.block sd hsl (fun e=>by have:=e.2;omega)).trans h.at'.blk
 have hc3:col' sd=25:=(r2.old sd hsl (by omega)).trans hcs
 rcases r3 with ⟨e1,e2⟩ | ⟨R',xb,yb,k1,k2,k3,k4,k5,k6⟩
 ·exact Or.inl ⟨e1,e2,h.opened r1 r2⟩
 ·refine Or.inr ⟨xb,yb,R',k3,k4,k2,⟨blk_cell (l:=[_,_,_,_,_]) hbs 0 _ rfl,blk_cell (l:=[_,_,_,_,_]) hbs 1 _ rfl⟩,?_⟩
  have hot:∀ b,b≠sd→((w3.setCell ⟨sd,0,none⟩ (.pointer (some ⟨xb,0,none⟩))).setCell ⟨sd,1,none⟩ (.pointer (some ⟨yb,0,none⟩))).heap[b]? = w3.heap[b]? := fun b hb=>by
   rw [heap_setCell_other _ _ _ _ hb,heap_setCell_other _ _ _ _ hb]
  have hfr:Fr (fun b=>base≤b∧(col b≤20∨col b=cx∨col b=cy∨b=sd)) w ((w3.setCell ⟨sd,0,none⟩ (.pointer (some ⟨xb,0,none⟩))).setCell ⟨sd,1,none⟩ (.pointer (some ⟨yb,0,none⟩))):=by
   have hsb:base≤sd:=by
    rcases Nat.lt_or_ge sd base with hq | hq
    ·have:=h.bk.low sd hq;omega
    ·exact hq
   exact ((r2.fr.mono fun b _ e=>(⟨e.1,Or.inl e.2⟩:base≤b∧(col b≤20∨col b=cx∨col b=cy∨b=sd))).setCell (p:=⟨sd,0,none⟩) (Or.inr ⟨hsb,Or.inr (Or.inr (Or.inr rfl))⟩) _).setCell (p:=⟨sd,1,none⟩) (Or.inr ⟨hsb,Or.inr (Or.inr (Or.inr rfl))⟩) _
  have hdid:Did base sd cx cy col w col' ((w3.setCell ⟨sd,0,none⟩ (.pointer (some ⟨xb,0,none⟩))).setCell ⟨sd,1,none⟩ (.pointer (some ⟨yb,0,none⟩))):=⟨hfr,r2.old⟩
  have hz:=hdid.wz h.wzm h.wzb
  have hblk:=blk_set (l:=[_,_,_,_,_]) (blk_set (l:=[_,_,_,_,_]) hbs 0 (.pointer (some ⟨xb,0,none⟩))) 1 (.pointer (some ⟨yb,0,none⟩))
  have hsz:((w3.setCell ⟨sd,0,none⟩ (.pointer (some ⟨xb,0,none⟩))).setCell ⟨sd,1,none⟩ (.pointer (some ⟨yb,0,none⟩))).heap.size=w3.heap.size:=by simp
  generalize (w3.setCell ⟨sd,0,none⟩ (.pointer (some ⟨xb,0,none⟩))).setCell ⟨sd,1,none⟩ (.pointer (some ⟨yb,0,none⟩))=w4 at *
  refine ⟨col',⟨⟨hblk,hc3,k5.turn (fun b hb e=>?_) (fun b hb e e'=>?_) (fun b hb=>hb.1),k6.turn (fun b hb e=>?_) (fun b hb e e'=>?_) (fun b hb=>hb.1) hz⟩,r1.frame (fun b hb h8=>hot b (fun e=>by rw [e,hc3] at h8;omega)) (fun _ _ _=>rfl) r1.low (by omega) (Nat.le_refl _),hz,h.wzb,h.x0,h.x9,h.y0,h.y9,h.ne,h.fits,h.net,h.short⟩,hdid⟩
  ·have hq:col' b=cx:=Classical.byContradiction fun e'=>e ⟨hb,e'⟩
   exact hot b (fun e'=>by rw [e',hc3] at hq;omega)
  ·have hq:col' b=cx:=Classical.byContradiction fun e'=>e ⟨hb,e'⟩
   exact e'.2 hq
  ·have hq:col' b=cy:=Classical.byContradiction fun e'=>e ⟨hb,e'⟩
   exact hot b (fun e'=>by rw [e',hc3] at hq;omega)
  ·have hq:col' b=cy:=Classical.byContradiction fun e'=>e ⟨hb,e'⟩
   exact e'.2 hq
end
section
variable {wz:World} {base p:Nat} {v0:Value} {c d sd cx cy x y:Nat} {n:Net} {vs vr vw:Value} {col:Nat→Nat} {w:World} {R Rx Ry:Rc} {ea:TypeId×Addr}
def BackS (sd y bx:Nat) (vs vr vw:Value) (str:ByteArray) (num:Int) (w:World):Prop:=
 w.cell? ⟨sd,1,none⟩=some (.pointer (some ⟨y,0,none⟩))∧w.cell? ⟨sd,2,none⟩=some vs∧w.cell? ⟨sd,3,none⟩=some vr∧w.cell? ⟨sd,4,none⟩=some vw∧w.cell? ⟨bx,6,none⟩=some (.string str)∧w.cell? ⟨bx,1,none⟩=some (.int .i64 num)
theorem Sd.backS (h:Sd wz base p v0 c sd cx cy x y n vs vr vw col w Rx Ry) {bx:Nat} {k:Value} {num:Int} {u2 u3 u4 u5 u7:Value} {str:ByteArray} (hb:w.heap[bx]? = some (.cells #[k,.int .i64 num,u2,u3,u4,u5,.string str,u7] 65 (0,0))):BackS sd y bx vs vr vw str num w:=
 ⟨(blk_cell (l:=[_,_,_,_,_]) h.at'.blk 1 _ rfl).1,(blk_cell (l:=[_,_,_,_,_]) h.at'.blk 2 _ rfl).1,(blk_cell (l:=[_,_,_,_,_]) h.at'.blk 3 _ rfl).1,(blk_cell (l:=[_,_,_,_,_]) h.at'.blk 4 _ rfl).1,(blk_cell (l:=[_,_,_,_,_,_,_,_]) hb 6 _ rfl).1,(blk_cell (l:=[_,_,_,_,_,_,_,_]) hb 1 _ rfl).1⟩
theorem BackS.keep {sd y bx:Nat} {str:ByteArray} {num:Int} {w':World} (h:BackS sd y bx vs vr vw str num w) (h1:w'.heap[sd]? = w.heap[sd]?) (h2:w'.heap[bx]? = w.heap[bx]?):BackS sd y bx vs vr vw str num w':=
 ⟨(World.cell?_of_block (w:=w) h1).trans h.1,(World.cell?_of_block (w:=w) h1).trans h.2.1,(World.cell?_of_block (w:=w) h1).trans h.2.2.1,(World.cell?_of_block (w:=w) h1).trans h.2.2.2.1,(World.cell?_of_block (w:=w) h2).trans h.2.2.2.2.1,(World.cell?_of_block (w:=w) h2).trans h.2.2.2.2.2⟩
def BackD (wz:World) (base p:Nat) (v0:Value) (c d sd cx cy:Nat) (n:Net) (vs vr vw:Value) (col:Nat→Nat) (w w':World):Prop:=∃ x y R c',c'≤c+2097160∧Turn wz base p v0 c' sd cx cy x y n vs vr vw col w R R w'∧Fine n R d
set_option maxRecDepth 100000 in
set_option maxHeartbeats 8000000 in
theorem back_calls (h:Sd wz base p v0 c sd cx cy x y n vs vr vw col w R R) (hf:Fine n R d) (hd:d+1048576≤274877906944) (hc:c+4194304≤1099511627776) (hE:ErrAt wz ea) (k num:Int) (u2 u3 u4 u5:Value) (str:ByteArray) (which:Bool) (hstr:str.size≤1048576) :
  Calls Tryz.prog 44 #[.pointer (some ⟨p,0,none⟩),.pointer (some ⟨sd,0,none⟩),.agg #[.int .i64 k,.int .i64 num,u2,u3,u4,u5,.string str,.bool which]] w fun e w'=>e=.returned (.bool true)∧BackD wz base p v0 c d sd cx cy n vs vr vw col w w':=by
 have hbx:=h.box (.cells #[.int .i64 k,.int .i64 num,u2,u3,u4,u5,.string str,.bool which] 65)
 have hbw:(w.alloc (.cells #[.int .i64 k,.int .i64 num,u2,u3,u4,u5,.string str,.bool which] 65)).heap[w.heap.size]? = some (.cells #[.int .i64 k,.int .i64 num,u2,u3,u4,u5,.string str,.bool which] 65 (0,0)):=heap_alloc_new _ _
 obtain ⟨W,hW⟩:∃ W,W=w.alloc (.cells #[.int .i64 k,.int .i64 num,u2,u3,u4,u5,.string str,.bool which] 65):=⟨_,rfl⟩
 rw [← hW] at hbx hbw
 have HW:=hide hW
 clear hW
 obtain ⟨h1,hdid⟩:=hbx
 have hlen:=hf.len
 have hok:=h.ok
 obtain ⟨vs',vr',vw',ev,g1,g2,g3⟩:=id h.net
 cases ev
 obtain ⟨na,nc,rfl⟩:=g1.form
 obtain ⟨ma,mc,rfl⟩:=g2.form
 obtain ⟨oa,oc,rfl⟩:=g3.form
 have hs:=h.short
 have hs1:=hs.2.1
 have hs2:=hs.2.2.1
 have hbx0:=lt_of_blk hbw
 have hsd0:=lt_of_blk h1.at'.blk
 have hS0:=h1.backS hbw
 have hSd:BackS sd y w.heap.size (.slice na n.streams.length nc) (.slice ma n.sources.length mc) (.slice oa n.workers.length oc) str num W.drew:=hS0
 have HY:Hid (Calls Tryz.prog 41 #[.pointer (some ⟨y,0,none⟩)] W.drew fun e w'=>e=.returned (.string (strOfNums (bytesOf (saveNums n R))))∧BackS sd y w.heap.size (.slice na n.streams.length nc) (.slice ma n.sources.length mc) (.slice oa n.workers.length oc) str num w'∧Below W.heap.size W w'):=by
  have hbd:Below W.heap.size W W.drew:=below_drewN (Below.refl _ _) 1
  refine (rhas_save (h1.belowQ 22 hbd).at'.hy (by omega)).mono fun e w' ⟨r1,r2⟩=>?_
  have hb':Below W.heap.size W w':=hbd.trans (r2.mono hbd.size)
  exact ⟨r1,hS0.keep (hb'.block _ hsd0) (hb'.block _ hbx0),hb'⟩
 have hsz:(strOfNums (bytesOf (saveNums n R))).size=8*(saveNums n R).length:=by rw [strOfNums_size,bytesOf_length]
 have HBe:Hid (∀ w1,Below W.heap.size W w1→Calls Tryz.prog 77 #[.string (strOfNums (bytesOf (saveNums n R))),.string str,.int .i64 num] w1 fun e w'=>∃ r:ByteArray,r.size=8*(saveNums n R).length∧e=.returned (.string r)∧BackS sd y w.heap.size (.slice na n.streams.length nc) (.slice ma n.sources.length mc) (.slice oa n.workers.length oc) str num w'∧Below W.heap.size W w'):=fun w1 hb=>by
  refine (bent_calls _ str num (by rw [hsz];omega) hstr w1).mono fun e w' ⟨r,r1,r2,r3⟩=>?_
  have hb':Below W.heap.size W w':=hb.trans (r3.mono hb.size)
  exact ⟨r,r1.trans hsz,r2,hS0.keep (hb'.block _ hsd0) (hb'.block _ hbx0),hb'⟩
 have HLo:Hid (∀ w2 (r:ByteArray),Below W.heap.size W w2→r.size=8*(saveNums n R).length→Calls Tryz.prog 43 #[.pointer (some ⟨p,0,none⟩),.agg #[.slice na n.streams.length nc,.slice ma n.sources.length mc,.slice oa n.workers.length oc],.string r] w2 fun e w'=>∃ xa ya,e=.returned (.tuple #[.pointer xa,.pointer ya,.bool true])∧BackS sd y w.heap.size (.slice na n.streams.length nc) (.slice ma n.sources.length mc) (.slice oa n.workers.length oc) str num w' ∧
   ((xa=none∧ya=none∧BackD wz base p v0 c d sd cx cy n (.slice na n.streams.length nc) (.slice ma n.sources.length mc) (.slice oa n.workers.length oc) col w w')∨∃ xb yb,xa=some ⟨xb,0,none⟩∧ya=some ⟨yb,0,none⟩∧((w'.cell? ⟨sd,0,none⟩=some (.pointer (some ⟨x,0,none⟩))∧w'.frozen? ⟨sd,0,none⟩=false)∧(w'.cell? ⟨sd,1,none⟩=some (.pointer (some ⟨y,0,none⟩))∧w'.frozen? ⟨sd,1,none⟩=false))∧BackD wz base p v0 c d sd cx cy n (.slice na n.streams.length nc) (.slice ma n.sources.length mc) (.slice oa n.workers.length oc) col w ((w'.setCell ⟨sd,0,none⟩ (.pointer (some ⟨xb,0,none⟩))).setCell ⟨sd,1,none⟩ (.pointer (some ⟨yb,0,none⟩))))):=fun w2 r hb hr=>by
  have h2:=h1.belowQ 22 hb
  have hd2:Did base sd cx cy col w (newcol (newcol col w.heap.size 22) W.heap.size 22) w2:=hdid.trans (Did.of_below hb)
  obtain ⟨l,rs,hst⟩:=str_is r
  have hll:=str_len (N:=(saveNums n R).length) hst (by omega)
  refine (loads_calls h.x0 h.x9 h.y0 h.y9 h2.bk (h2.stays h.net) hs (by omega) h.net h2.wzm h2.wzb hE hst (by omega)).mono fun e w' ⟨xa,ya,q1,q2⟩=>⟨xa,ya,q1,?_,?_⟩
  ·obtain ⟨col', -,k2, -⟩:=q2.ex
   have hS2:=hS0.keep (hb.block _ hsd0) (hb.block _ hbx0)
   have hx0:=h.x0
   refine hS2.keep (k2.fr.block _ (by have:=hb.size;omega) (fun e=>?_)) (k2.fr.block _ (by have:=hb.size;omega) (fun e=>?_))
   ·have:=e.2;rw [newcol_old hsd0,h1.at'.csd] at this;omega
   ·have:=e.2;rw [newcol_old hbx0,newcol_new (Nat.le_refl _)] at this;omega
  ·rcases h2.loaded q2 with ⟨e1,e2,k3⟩ | ⟨xb,yb,R',e1,e2,e3,e4,k5⟩
   ·obtain ⟨col3,t1,t2⟩:=k3.ex
    exact Or.inl ⟨e1,e2,x,y,R,_,by omega,⟨col3,t1,hd2.trans t2⟩,hf⟩
   ·obtain ⟨col3,t1,t2⟩:=k5.ex
    exact Or.inr ⟨xb,yb,e1,e2,e4,xb,yb,R',_,by omega,⟨col3,t1,hd2.trans t2⟩,loadR_fine hok h.fits hst.fits (by omega) e3⟩
 clear h hf hd hc h1 hdid hlen hok g1 g2 g3 hs hs1 hs2 hS0 hsz hbw
 obtain ⟨s1,s2,s3,s4,s5,s6⟩:=hSd
 generalize strOfNums (bytesOf (saveNums n R))=st at *
 go_enter Tryz.func44,Tryz.ntmps44
 go_wp2
 rw [← HW.out]
 go_region_held3 (fun w'=>w'.cell? ⟨sd,1,none⟩=some (.pointer (some ⟨y,0,none⟩))∧w'.cell? ⟨sd,2,none⟩=some (.slice na n.streams.length nc)∧w'.cell? ⟨sd,3,none⟩=some (.slice ma n.sources.length mc)∧w'.cell? ⟨sd,4,none⟩=some (.slice oa n.workers.length oc)∧w'.cell? ⟨w.heap.size,6,none⟩=some (.string str)∧w'.cell? ⟨w.heap.size,1,none⟩=some (.int .i64 num)) (simp [*])
  (first
   | (go_at_call 41;refine (unhide HY).mono ?_;rintro e w1 ⟨rfl,⟨s1,s2,s3,s4,s5,s6⟩,hb1⟩;have HB1:=hide hb1;clear hb1)
   | (go_at_call 77;refine (unhide HBe _ HB1.out).mono ?_;rintro e w2 ⟨r,hr,rfl,⟨s1,s2,s3,s4,s5,s6⟩,hb2⟩;have HB2:=hide hb2;have HRr:=hide hr;clear hb2 hr)
   | (go_at_call 43;refine (unhide HLo _ _ HB2.out HRr.out).mono ?_;rintro e w3 ⟨xa,ya,rfl,⟨s1,s2,s3,s4,s5,s6⟩,hres⟩;have HRes:=hide hres;clear hres))
 clear HY HBe HLo HB1 HB2 HRr s1 s2 s3 s4 s5 s6 HW
 rcases HRes.out with ⟨rfl,rfl,hD⟩ | ⟨xb,yb,rfl,rfl,⟨⟨t0,tf0⟩,t1,tf1⟩,hD⟩
 ·have HD:=hide hD
  clear hD HRes
  go_wp2
  go_ret
  exact ⟨rfl,HD.out⟩
 ·have HD:=hide hD
  clear hD HRes
  go_wp2
  go_ret
  exact ⟨rfl,HD.out⟩
set_option maxRecDepth 100000 in
set_option maxHeartbeats 4000000 in
theorem step_k11 (h:Sd wz base p v0 c sd cx cy x y n vs vr vw col w R R) (hf:Fine n R d) (hd:d+1048576≤274877906944) (hc:c+4194304≤1099511627776) (hE:ErrAt wz ea) (num:Int) (sched:List Int) (sa:Option Addr) (sc:Nat) (net:Net) (a0:Option Addr) (c0:Nat) (a1:Option Addr) (c1:Nat) (a2:Option Addr) (c2:Nat) (str:ByteArray) (which:Bool) (hstr:str.size≤1048576) :
  Calls Tryz.prog 16 #[.pointer (some ⟨p,0,none⟩),.pointer (some ⟨sd,0,none⟩),.agg #[.int .i64 11,.int .i64 num,.slice sa sched.length sc,.slice a0 net.streams.length c0,.slice a1 net.sources.length c1,.slice a2 net.workers.length c2,.string str,.bool which]] w fun e w'=>e=.returned (.bool true)∧Went2 wz base p v0 c d sd cx cy n vs vr vw col w w':=by
 have hbx:=h.box (.cells #[.int .i64 11,.int .i64 num,.slice sa sched.length sc,.slice a0 net.streams.length c0,.slice a1 net.sources.length c1,.slice a2 net.workers.length c2,.string str,.bool which] 65)
 have HC:Hid (Calls Tryz.prog 44 #[.pointer (some ⟨p,0,none⟩),.pointer (some ⟨sd,0,none⟩),.agg #[.int .i64 11,.int .i64 num,.slice sa sched.length sc,.slice a0 net.streams.length c0,.slice a1 net.sources.length c1,.slice a2 net.workers.length c2,.string str,.bool which]] (w.alloc (.cells #[.int .i64 11,.int .i64 num,.slice sa sched.length sc,.slice a0 net.streams.length c0,.slice a1 net.sources.length c1,.slice a2 net.workers.length c2,.string str,.bool which] 65)) fun e w'=>e=.returned (.bool true)∧Went2 wz base p v0 c d sd cx cy n vs vr vw col w w'):=(back_calls hbx.1 hf hd hc hE 11 num _ _ _ _ str which hstr).mono fun e w' ⟨q1,x',y',R',c',q2,q3,q4⟩=>⟨q1,Went2.of hbx.2 q3 q2 (q4.mono (by omega))⟩
 clear h hf hd hc hbx hE
 go_enter Tryz.func16,Tryz.ntmps16
 go_wp2_with fail
 refine (unhide HC).mono ?_
 rintro e w1 ⟨rfl,ht⟩
 have HT:=hide ht
 clear ht HC
 go_wp2
 go_ret
 exact ⟨rfl,HT.out⟩
theorem states_law (hE:ErrAt wz ea):StepLaw wz 11:=fun base p v0 c d sd cx cy x y n vs vr vw col w R o h hf hd hc ho hk=>by
 rcases (show o.kind≤7∨o.kind=8∨o.kind=9∨o.kind=10∨o.kind=11 by omega) with h7 | h8 | h9 | h10 | h11
 ·exact flows_law base p v0 c d sd cx cy x y n vs vr vw col w R o h hf hd hc ho h7
 ·rw [h8];exact (step_k8 h hc o.num o.sched o.sa o.sc o.net o.a0 o.c0 o.a1 o.c1 o.a2 o.c2 o.str o.which ho.net ho.short).mono fun e w' ⟨q1,c',q2,q3⟩=>⟨q1,x,y,R,c',q2,q3,hf.mono (by omega)⟩
 ·rw [h9];exact step_k9 h hf hd hc o.num o.sched o.sa o.sc o.net o.a0 o.c0 o.a1 o.c1 o.a2 o.c2 o.str o.which
 ·rw [h10];exact step_k10 h hf hc hE o.num o.sched o.sa o.sc o.net o.a0 o.c0 o.a1 o.c1 o.a2 o.c2 o.str o.which ho.net ho.short ho.str
 ·rw [h11];exact step_k11 h hf hd hc hE o.num o.sched o.sa o.sc o.net o.a0 o.c0 o.a1 o.c1 o.a2 o.c2 o.str o.which ho.str
end
set_option maxRecDepth 100000 in
set_option maxHeartbeats 4000000 in
theorem statesF_calls {n:Net} {v vo:Value} {ops:List OpV} {w:World} (hlaw:StepLaw w 11) (hn:NetAt w v n) (hs:ShortNet n) (ho:ScriptAt w vo ops) :
  Calls Tryz.prog 5 #[v,vo] w fun e w'=>e=.returned (.bool true)∧Below w.heap.size w w':=by
 have HN:=hide hn
 obtain ⟨vs,vr,vw,rfl,h1,h2,h3⟩:=hn
 obtain ⟨sa,sc,rfl⟩:=h1.form
 obtain ⟨ar,cr,rfl⟩:=h2.form
 obtain ⟨aw,cw,rfl⟩:=h3.form
 clear h1 h2 h3
 have HW:Hid (∀ w1,Below ((w.alloc (.cells #[.slice sa n.streams.length sc,.slice ar n.sources.length cr,.slice aw n.workers.length cw] 26)).alloc (.cells #[.slice none 0 0,.slice none 0 0,.slice none 0 0,.slice none 0 0,.slice none 0 0,.slice none 0 0,.slice none 0 0,.slice none 0 0] 35)).heap.size ((w.alloc (.cells #[.slice sa n.streams.length sc,.slice ar n.sources.length cr,.slice aw n.workers.length cw] 26)).alloc (.cells #[.slice none 0 0,.slice none 0 0,.slice none 0 0,.slice none 0 0,.slice none 0 0,.slice none 0 0,.slice none 0 0,.slice none 0 0] 35)) w1 →
   (w1.heap[w.heap.size]? = some (.cells #[.slice sa n.streams.length sc,.slice ar n.sources.length cr,.slice aw n.workers.length cw] 26 (0,0)))∧Calls Tryz.prog 8 #[.pointer (some ⟨w.heap.size+1,0,none⟩),.agg #[.slice sa n.streams.length sc,.slice ar n.sources.length cr,.slice aw n.workers.length cw],.bool true] w1 fun e w2=>e=.returned (.bool true) ∧
    Calls Tryz.prog 9 #[.pointer (some ⟨w.heap.size+1,0,none⟩),vo,.int .i64 11] w2 fun e w3=>e=.returned (.bool true)∧Below w.heap.size w w3):=fun w1 hb=>by
  have hsz:((w.alloc (.cells #[.slice sa n.streams.length sc,.slice ar n.sources.length cr,.slice aw n.workers.length cw] 26)).alloc (.cells #[.slice none 0 0,.slice none 0 0,.slice none 0 0,.slice none 0 0,.slice none 0 0,.slice none 0 0,.slice none 0 0,.slice none 0 0] 35)).heap.size=w.heap.size+2:=by simp
  have hb0:Below w.heap.size w w1:=(((Below.refl _ w).alloc (Nat.le_refl _) _).alloc (by simp) _).trans (hb.mono (by rw [hsz];omega))
  have hbox:=hb.block w.heap.size (by rw [hsz];omega)
  have hwld:=hb.block (w.heap.size+1) (by rw [hsz];omega)
  have hp0:=play_new (wz:=w) (hwld.trans (heapNew (by simp))) (by omega) hb0
  refine ⟨hbox.trans (heapOld (by simp) (heapNew rfl)),(hp0.opens (by simp) HN.out hs (by omega)).mono fun e w2 ⟨q1,v0',l',col',q2,q3,q4,q5⟩=>⟨q1,?_⟩⟩
  have hb2:Below w.heap.size w w2:=q3.wzm
  refine (play_calls (L:=l'.length) ⟨⟨l',col',rfl,q3⟩,Fr.refl _ _⟩ (by simp at q2;omega) ho hlaw (by omega) (by omega)).mono fun e w3 ⟨r1,r2⟩=>⟨r1,?_⟩
  exact hb2.trans ⟨r2.os,r2.tape,r2.output,r2.size,fun b hb'=>r2.block b (by have:=hb2.size;omega) (by omega)⟩
 obtain ⟨⟨oa,oc,rfl, -, -⟩, -⟩:=ho
 generalize n.streams.length=k0 at *
 generalize n.sources.length=k1 at *
 generalize n.workers.length=k2 at *
 clear HN hs
 go_enter Tryz.func5,Tryz.ntmps5
 go_wp2_with fail
 refine (first_calls _).mono ?_
 rintro e w1 ⟨rfl,hb⟩
 obtain ⟨hbx,hop⟩:=HW.out w1 hb
 have HOp:=hide hop
 clear hb HW hop
 obtain ⟨z0, -⟩:=blk_cell (l:=[_,_,_]) hbx 0 _ rfl
 obtain ⟨z1, -⟩:=blk_cell (l:=[_,_,_]) hbx 1 _ rfl
 obtain ⟨z2, -⟩:=blk_cell (l:=[_,_,_]) hbx 2 _ rfl
 clear hbx
 go_wp2_with fail
 refine (unhide HOp).mono ?_
 rintro e w2 ⟨rfl,hpl⟩
 have HPl:=hide hpl
 clear HOp hpl z0 z1 z2
 go_wp2_with fail
 refine (unhide HPl).mono ?_
 rintro e w3 ⟨rfl,hb⟩
 have HB:=hide hb
 clear hb HPl
 go_wp2
 go_ret
 exact ⟨rfl,HB.out⟩
end Go.Proofs.YthfdgdfnflilfaaGreatDoor

/- Part 28: Keep5, Keep6. -/
import Derived.Laws.StructEq
import Derived.Test.YthfdgdfnflilfaaGreatDoorPart22
namespace Go.Proofs.YthfdgdfnflilfaaGreatDoor
open Go.RowKit Go.Conc
theorem growS_words (R:Rc) (t s:Nat):((growS R t).s s).words=(R.s s).words:=by
 by_cases e:s=t
 ·subst e
  rcases Nat.lt_or_ge s R.S.length with h | h
  ·have:(growS R s).s s={ R.s s with room:=(R.s s).room+1}:=getD_set_self _ _ _ _ h
   rw [this]
  ·simp [growS,Rc.s,List.set_eq_of_length_le h]
 ·have:(growS R t).s s=R.s s:=getD_set_ne _ _ _ _ _ (fun e'=>e e'.symm)
  rw [this]
theorem eqRegs (k:Nat) (a b c d a' b' c' d':Int) (w:World):(Op.equalIn (k+2) 90 (.agg #[.int .i64 a,.int .i64 b,.int .i64 c,.int .i64 d]) (.agg #[.int .i64 a',.int .i64 b',.int .i64 c',.int .i64 d'])).run Tryz.prog w=.ok (a == a' && (b == b' && (c == c' && d == d'))) w:=by
 have u3:=Tryz.underlying3
 have a3:=Tryz.isAgg3
 have z3:=Tryz.sizeOf3
 rw [Op.equalIn]
 simp only [Sem.run_bind,run_underlying Tryz.underlying90,Result.andThen_ok]
 simp only [Std.Legacy.Range.forIn_eq_forIn_range',Std.Legacy.Range.size,Nat.sub_zero,Nat.add_sub_cancel,Nat.div_one,List.range'_succ,List.range'_zero,List.forIn_cons,List.forIn_nil]
 go_simp
 by_cases h1:a=a'<;>by_cases h2:b=b'<;>by_cases h3:c=c'<;>by_cases h4:d=d'<;>simp [h1,h2,h3,h4]
theorem eqLook (a0 a1 a2 a3 a4 a5 a6 b0 b1 b2 b3 b4 b5 b6:Int) (w:World):(Op.equalIn 10000 123 (.agg #[.int .i64 a0,.int .i64 a1,.int .i64 a2,.int .i64 a3,.int .i64 a4,.int .i64 a5,.int .i64 a6]) (.agg #[.int .i64 b0,.int .i64 b1,.int .i64 b2,.int .i64 b3,.int .i64 b4,.int .i64 b5,.int .i64 b6])).run Tryz.prog w=.ok (a0 == b0 && ((a1 == b1 && (a2 == b2 && (a3 == b3 && a4 == b4))) && (a5 == b5 && a6 == b6))) w:=by
 have u3:=Tryz.underlying3
 have i3:=Tryz.isAgg3
 have z3:=Tryz.sizeOf3
 have i42:=Tryz.isAgg90
 have z42:=Tryz.sizeOf90
 have hS:Tryz.prog.underlying 123=some (.struct (Tryz.prog.fieldsOf 123)):=by kernel_rfl
 have hp:Tryz.prog.stoodInHeld 123=false:=Tryz.stoodInHeld123
 rw [show (10000:Nat)=9999+1 from rfl,run_equalIn_agg w 9999 123 _ _ hS hp]
 simp only [Program.fieldsOf,Tryz.underlying123]
 have er:=fun (wx:World)=>eqRegs 9997 a1 a2 a3 a4 b1 b2 b3 b4 wx
 go_simp
 by_cases h1:a0=b0<;>by_cases h2:a1=b1<;>by_cases h3:a2=b2<;>by_cases h4:a3=b3<;>by_cases h5:a4=b4<;>by_cases h6:a5=b5<;>by_cases h7:a6=b6<;>simp [h1,h2,h3,h4,h5,h6,h7]
end Go.Proofs.YthfdgdfnflilfaaGreatDoor

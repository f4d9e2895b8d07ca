/- Resumed answers true: a state that is saved and loaded goes on as the race does, it is saved as the same bytes, and the one knows nothing of the other, for all nets and all schedules ahead and behind, at all arguments of bulk at most 1048576 together; it leaves them as they are. -/
import Derived.Test.YthfdgdfnflilfaaDoorPart14
namespace Go.Proofs.YthfdgdfnflilfaaDoor
open Go.ChangeShapes Go.WideShapes Go.ChangeAt Go.RowKit

theorem resumed_laid (os : Os) (args : Array Value) : laidMetH Tryd.prog Rows.resumedUptoRow.laid ((World.laidAll Tryd.prog os Rows.resumedUptoRow.laid).forCall (fun _ _ => 0) ⟨#[], args, []⟩).memory := by
  rw [MakeChecks.laidMetH_plain _ _ _ (by kernel_rfl)]; exact laidMet_laidAll _ (by kernel_rfl) (by kernel_rfl)

set_option maxRecDepth 100000 in
theorem resumed_contract (H : Type) (enc : TypeId × Value → H) (W : World) (base : Nat) (args : Array Value) (ds gs : List (DataW H)) (before : List MemPlace)
    (hval : ∀ (j : Nat) t v, Tryd.f7.params[j]? = some t → args[j]? = some v → Value.okWide Tryd.prog W .any base t v)
    (hW : DataW.Whole enc Tryd.prog Tryd.f7.params.toList Rows.resumedSpec.vars false W args.toList ds gs before) (hk : Rows.uptoSmall H (ds ++ gs) = true) :
    Calls Tryd.prog 7 args W fun e W' => ∃ v, e = .returned v ∧ Rows.resumedSpec.post enc Tryd.prog Tryd.f7 false true false false W args v W' := by
  have hW' := hW
  obtain ⟨p, q, hA0, hV, rfl, hfz, hnd⟩ := hW
  have hA : DataW.TrodAll enc Tryd.prog W 0 (fun _ => true) true Tryd.f7.params.toList args.toList ds p := hA0
  rw [Tryd.params7] at hA hval
  obtain ⟨rfl, rfl⟩ := trodVars_none hV
  have hb : Rows.uptoBulkAll ds ≤ 1048576 := by
    have := of_decide_eq_true hk
    simpa using this
  obtain ⟨v0, v1, v2, n, one, two, rfl, ⟨d0, d1, d2, rfl⟩, hn, hf, ⟨i1, b1, f1⟩, ⟨i2, b2, f2⟩⟩ := three_open hval hA hb
  refine (resumed_calls hn i1 i2 hf f1 f2 b1 b2).mono fun e W1 ⟨he, hb1⟩ => ⟨_, he, ?_⟩
  exact post_law rfl (by kernel_rfl) (by rw [Tryd.params7]; decide) rfl rfl rfl hW' hb1

set_option maxRecDepth 100000 in
theorem resumed_lifted (os : Os) (started : os.Started) (H : Type) (enc : TypeId × Value → H) (F : Stop.Interp) :
    ReturnsInHanded {} Tryd.checked os 7 .any ((Rows.OpenSpec.upto Rows.resumedSpec).preRow enc Tryd.prog Tryd.f7 Rows.resumedUptoRow.domain false Rows.resumedUptoRow.laid) (((Rows.OpenSpec.upto Rows.resumedSpec).at F).post enc Tryd.prog Tryd.f7 false true false false) := by
  refine returnsInHanded_of_row (C := Tryd.checked) (s := Rows.OpenSpec.upto Rows.resumedSpec) door_own started (by kernel_rfl) Tryd.func7
    (witness_row_atRef (enc := enc) (C := Tryd.checked) false (World.laidAll Tryd.prog os Rows.resumedUptoRow.laid) #[.agg #[.slice none 0 0, .slice none 0 0, .slice none 0 0], .slice none 0 0, .slice none 0 0] (World.laidAll_os _ _ _) (by kernel_rfl) (by kernel_rfl) (by kernel_rfl)
      (OpenSpec.preRow_of_cond 8 (x := ([.agg [.nil, .nil, .nil], .nil, .nil], [], [])) (by kernel_rfl) (by kernel_rfl) (fun k hk => by cases hk; kernel_rfl) (by kernel_rfl) (resumed_laid os _))) ?_
  intro W base args ds gs before hval hW _ hc _ _ _ _
  exact resumed_contract H enc W base args ds gs before hval hW (hc _ rfl)

theorem resumed_said : Rows.ResumedUptoSaid :=
  OpenClaim.holds_of_cond 7 Tryd.f7 rfl rfl rfl rfl rfl rfl rfl ⟨rfl, rfl, rfl, rfl, rfl⟩ rfl rfl rfl rfl rfl (by kernel_rfl) Tryd.func7 (by kernel_rfl)
    (of_decide_eq_true (by kernel_rfl)) (by unfold Func.isWrapper; first | (rw [if_pos (by decide +kernel)]; kernel_rfl) | (rw [if_neg (by decide +kernel)]; exact ⟨rfl, rfl⟩))
    (fun os started H enc _ F => by rw [OpenClaim.pre_eq_preRow]; exact resumed_lifted os started H enc F)

theorem resumed_plain (f : FuncId) (fn : Func) (hf : Tryd.pinned.checked.prog.funcNamed "millrace/millracekeep.Resumed" = some f) (hfn : Tryd.pinned.checked.prog.funcs[f]? = some fn) :
    true = Tryd.pinned.checked.prog.looks [] ∧ ∀ (j : Nat) t, fn.params[j]? = some t → Tryd.pinned.checked.prog.wantsStandIn t = false := by
  obtain rfl : f = 7 := Option.some.inj ((show Tryd.prog.funcNamed "millrace/millracekeep.Resumed" = some 7 by kernel_rfl).symm.trans hf) |>.symm
  obtain rfl : fn = Tryd.f7 := (Option.some.inj (Tryd.func7.symm.trans hfn)).symm
  refine ⟨by kernel_rfl, fun j t ht => ?_⟩
  rw [Tryd.params7] at ht
  have hm : t ∈ [29, 22, 22] := by simpa using Array.mem_of_getElem? ht
  have hall : ([29, 22, 22].all fun u => !Tryd.prog.wantsStandIn u) = true := by kernel_rfl
  exact (show Tryd.prog.wantsStandIn t = false by simpa using List.all_eq_true.1 hall t hm)

theorem resumed_card : Rows.ResumedUptoCardSaid :=
  Claim7.holds_tied_plain_at .later [] _ _ _ _ resumed_said (fun _ h => by cases h) (by kernel_rfl) (fun _ h => by cases h) resumedUpto_row_tie rfl ⟨rfl, rfl⟩ (by kernel_rfl) rfl resumed_plain (by kernel_rfl)

end Go.Proofs.YthfdgdfnflilfaaDoor

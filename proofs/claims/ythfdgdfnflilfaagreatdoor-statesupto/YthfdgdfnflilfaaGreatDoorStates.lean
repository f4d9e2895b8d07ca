/- States answers true: a race of any net, any steps, Grow and Flow, New, Save and Load, also of bent states: what comes of them, workers, histories, rooms and states are as the document's answer has them, and all lists that were handed in or came out are left alone, at all arguments of bulk at most 1048576 together; it leaves them as they are. -/
import Derived.Test.YthfdgdfnflilfaaGreatDoorPart1
import Derived.Test.YthfdgdfnflilfaaGreatDoorPart2
import Derived.Test.YthfdgdfnflilfaaGreatDoorPart3
import Derived.Test.YthfdgdfnflilfaaGreatDoorPart4
import Derived.Test.YthfdgdfnflilfaaGreatDoorPart5
import Derived.Test.YthfdgdfnflilfaaGreatDoorPart6
import Derived.Test.YthfdgdfnflilfaaGreatDoorPart7
import Derived.Test.YthfdgdfnflilfaaGreatDoorPart8
import Derived.Test.YthfdgdfnflilfaaGreatDoorPart9
import Derived.Test.YthfdgdfnflilfaaGreatDoorPart10
import Derived.Test.YthfdgdfnflilfaaGreatDoorPart11
import Derived.Test.YthfdgdfnflilfaaGreatDoorPart12
import Derived.Test.YthfdgdfnflilfaaGreatDoorPart13
import Derived.Test.YthfdgdfnflilfaaGreatDoorPart14
import Derived.Test.YthfdgdfnflilfaaGreatDoorPart15
import Derived.Test.YthfdgdfnflilfaaGreatDoorPart16
import Derived.Test.YthfdgdfnflilfaaGreatDoorPart17
import Derived.Test.YthfdgdfnflilfaaGreatDoorPart18
import Derived.Test.YthfdgdfnflilfaaGreatDoorPart19
import Derived.Test.YthfdgdfnflilfaaGreatDoorPart20
import Derived.Test.YthfdgdfnflilfaaGreatDoorPart21
import Derived.Test.YthfdgdfnflilfaaGreatDoorPart22
import Derived.Test.YthfdgdfnflilfaaGreatDoorPart23
import Derived.Test.YthfdgdfnflilfaaGreatDoorPart24
import Derived.Test.YthfdgdfnflilfaaGreatDoorPart25
import Derived.Test.YthfdgdfnflilfaaGreatDoorPart26
import Derived.Test.YthfdgdfnflilfaaGreatDoorPart27
import Derived.Test.YthfdgdfnflilfaaGreatDoorPart28
import Derived.Test.YthfdgdfnflilfaaGreatDoorPart29
import Derived.Test.YthfdgdfnflilfaaGreatDoorPart30
import Derived.Test.YthfdgdfnflilfaaGreatDoorPart31
import Derived.Test.YthfdgdfnflilfaaGreatDoorPart32
import Derived.Test.YthfdgdfnflilfaaGreatDoorPart33
import Derived.Test.YthfdgdfnflilfaaGreatDoorPart34
import Derived.Test.YthfdgdfnflilfaaGreatDoorPart35
import Derived.Test.YthfdgdfnflilfaaGreatDoorPart36
import Derived.Test.YthfdgdfnflilfaaGreatDoorPart37
import Derived.Test.YthfdgdfnflilfaaGreatDoorPart38
import Derived.Test.YthfdgdfnflilfaaGreatDoorPart39
import Derived.Test.YthfdgdfnflilfaaGreatDoorPart40
import Derived.Test.YthfdgdfnflilfaaGreatDoorPart41
import Derived.Test.YthfdgdfnflilfaaGreatDoorPart42
import Derived.Test.YthfdgdfnflilfaaGreatDoorPart43
import Derived.Test.YthfdgdfnflilfaaGreatDoorPart44
import Derived.Test.YthfdgdfnflilfaaGreatDoorPart45
import Derived.Test.YthfdgdfnflilfaaGreatDoorPart46
import Derived.Test.YthfdgdfnflilfaaGreatDoorPart47
namespace Go.Proofs.YthfdgdfnflilfaaGreatDoor
open Go.ChangeShapes Go.WideShapes Go.ChangeAt Go.RowKit

theorem states_laid (os : Os) (args : Array Value) : laidMetH Tryz.prog Rows.statesUptoRow.laid ((World.laidAll Tryz.prog os Rows.statesUptoRow.laid).forCall (fun _ _ => 0) ⟨#[], args, []⟩).memory := by
  rw [MakeChecks.laidMetH_plain _ _ _ (by kernel_rfl)]; exact laidMet_laidAll _ (by kernel_rfl) (by kernel_rfl)

set_option maxRecDepth 100000 in
theorem states_contract (H : Type) (enc : TypeId × Value → H) (W : World) (base : Nat) (args : Array Value) (ds gs : List (DataW H)) (before : List MemPlace)
    (hval : ∀ (j : Nat) t v, Tryz.f5.params[j]? = some t → args[j]? = some v → Value.okWide Tryz.prog W .any base t v)
    (hW : DataW.Whole enc Tryz.prog Tryz.f5.params.toList Rows.statesSpec.vars false W args.toList ds gs before) (hk : Rows.uptoSmall H (ds ++ gs) = true) (hE : ∃ a, ErrAt W a) :
    Calls Tryz.prog 5 args W fun e W' => ∃ v, e = .returned v ∧ Rows.statesSpec.post enc Tryz.prog Tryz.f5 false true false false W args v W' := by
  have hW' := hW
  obtain ⟨p, q, hA0, hV, rfl, hfz, hnd⟩ := hW
  have hA : DataW.TrodAll enc Tryz.prog W 0 (fun _ => true) true Tryz.f5.params.toList args.toList ds p := hA0
  rw [Tryz.params5] at hA hval
  obtain ⟨rfl, rfl⟩ := trodVars_none hV
  have hb : Rows.uptoBulkAll ds ≤ 1048576 := by
    have := of_decide_eq_true hk
    simpa using this
  obtain ⟨v0, v1, n, ops, rfl, ⟨d0, d1, rfl⟩, hn, hs, ho⟩ := two_open hval hA hb
  obtain ⟨ea, hE⟩ := hE
  refine (statesF_calls (states_law hE) hn hs ho).mono fun e W1 ⟨he, hb1⟩ => ⟨_, he, ?_⟩
  exact post_law rfl (by kernel_rfl) (by rw [Tryz.params5]; decide) rfl rfl rfl hW' hb1

set_option maxRecDepth 100000 in
theorem states_lifted (os : Os) (started : os.Started) (H : Type) (enc : TypeId × Value → H) (F : Stop.Interp) :
    ReturnsInHanded {} Tryz.checked os 5 .any ((Rows.OpenSpec.upto Rows.statesSpec).preRow enc Tryz.prog Tryz.f5 Rows.statesUptoRow.domain false Rows.statesUptoRow.laid) (((Rows.OpenSpec.upto Rows.statesSpec).at F).post enc Tryz.prog Tryz.f5 false true false false) := by
  refine returnsInHanded_of_row (C := Tryz.checked) (s := Rows.OpenSpec.upto Rows.statesSpec) door_own started (by kernel_rfl) Tryz.func5
    (witness_row_atRef (enc := enc) (C := Tryz.checked) false (World.laidAll Tryz.prog os Rows.statesUptoRow.laid) #[.agg #[.slice none 0 0, .slice none 0 0, .slice none 0 0], .slice none 0 0] (World.laidAll_os _ _ _) (by kernel_rfl) (by kernel_rfl) (by kernel_rfl)
      (OpenSpec.preRow_of_cond 8 (x := ([.agg [.nil, .nil, .nil], .nil], [], [])) (by kernel_rfl) (by kernel_rfl) (fun k hk => by cases hk; kernel_rfl) (by kernel_rfl) (states_laid os _))) ?_
  intro W base args ds gs before hval hW _ hc _ h6 _ _
  have hl := h6
  rw [MakeChecks.laidMetH_plain _ _ _ (by kernel_rfl)] at hl
  exact states_contract H enc W base args ds gs before hval hW (hc _ rfl) (err_of_laid (r := []) hl)

theorem states_said : Rows.StatesUptoSaid :=
  OpenClaim.holds_of_cond 5 Tryz.f5 rfl rfl rfl rfl rfl rfl rfl ⟨rfl, rfl, rfl, rfl, rfl⟩ rfl rfl rfl rfl rfl (by kernel_rfl) Tryz.func5 (by kernel_rfl)
    (of_decide_eq_true (by kernel_rfl)) (by unfold Func.isWrapper; first | (rw [if_pos (by decide +kernel)]; kernel_rfl) | (rw [if_neg (by decide +kernel)]; exact ⟨rfl, rfl⟩))
    (fun os started H enc _ F => by rw [OpenClaim.pre_eq_preRow]; exact states_lifted os started H enc F)

theorem states_plain (f : FuncId) (fn : Func) (hf : Tryz.pinned.checked.prog.funcNamed "millrace/millracelaw.States" = some f) (hfn : Tryz.pinned.checked.prog.funcs[f]? = some fn) :
    true = Tryz.pinned.checked.prog.looks [] ∧ ∀ (j : Nat) t, fn.params[j]? = some t → Tryz.pinned.checked.prog.wantsStandIn t = false := by
  obtain rfl : f = 5 := Option.some.inj ((show Tryz.prog.funcNamed "millrace/millracelaw.States" = some 5 by kernel_rfl).symm.trans hf) |>.symm
  obtain rfl : fn = Tryz.f5 := (Option.some.inj (Tryz.func5.symm.trans hfn)).symm
  refine ⟨by kernel_rfl, fun j t ht => ?_⟩
  rw [Tryz.params5] at ht
  have hm : t ∈ [26, 27] := by simpa using Array.mem_of_getElem? ht
  have hall : ([26, 27].all fun u => !Tryz.prog.wantsStandIn u) = true := by kernel_rfl
  exact (show Tryz.prog.wantsStandIn t = false by simpa using List.all_eq_true.1 hall t hm)

theorem states_card : Rows.StatesUptoCardSaid :=
  Claim7.holds_tied_plain_at .later [] _ _ _ _ states_said (fun _ h => by cases h) (by kernel_rfl) (fun _ h => by cases h) statesUpto_row_tie rfl ⟨rfl, rfl⟩ (by kernel_rfl) rfl states_plain (by kernel_rfl)

end Go.Proofs.YthfdgdfnflilfaaGreatDoor

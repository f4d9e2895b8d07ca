/- Sums answers true: three workers double, add and sum up the words of two sources, whatever the rooms are, whoever is let on first, wherever streams grow and states are saved and loaded: the sums are those of the words, as long as both sources have words, at all arguments of bulk at most 1048576 together; it leaves them as they are. -/
import Derived.Test.YthfdgdfnflilfaaDoorPart15
namespace Go.Proofs.YthfdgdfnflilfaaDoor
open Go.ChangeShapes Go.WideShapes Go.ChangeAt Go.RowKit

set_option maxRecDepth 100000 in
/-- What comes in to a law over four lists. -/
theorem lists_open {H : Type} {enc : TypeId × Value → H} {W : World} {base : Nat} {args : Array Value} {ds : List (DataW H)} {p : List MemPlace}
    (hval : ∀ (j : Nat) t v, #[22, 22, 22, 22][j]? = some t → args[j]? = some v → Value.okWide Tryd.prog W .any base t v)
    (hA : DataW.TrodAll enc Tryd.prog W 0 (fun _ => true) true [22, 22, 22, 22] args.toList ds p) (hk : Rows.uptoBulkAll ds ≤ 1048576) :
    ∃ v0 v1 v2 v3 a b rooms one, args = #[v0, v1, v2, v3] ∧ (∃ d0 d1 d2 d3, ds = [d0, d1, d2, d3]) ∧ (IntsAt W v0 a ∧ ∀ x ∈ a, InR x) ∧ (IntsAt W v1 b ∧ ∀ x ∈ b, InR x) ∧ (IntsAt W v2 rooms ∧ ∀ x ∈ rooms, InR x) ∧ (IntsAt W v3 one ∧ one.length ≤ 1048576 ∧ ∀ x ∈ one, InR x) := by
  obtain ⟨v0, vs0, d0, ds0, p0, q0, e0, rfl, -, h0, r0⟩ := trodAll_cons hA
  obtain ⟨v1, vs1, d1, ds1, p1, q1, rfl, rfl, -, h1, r1⟩ := trodAll_cons r0
  obtain ⟨v2, vs2, d2, ds2, p2, q2, rfl, rfl, -, h2, r2⟩ := trodAll_cons r1
  obtain ⟨v3, vs3, d3, ds3, p3, q3, rfl, rfl, -, h3, r3⟩ := trodAll_cons r2
  obtain ⟨rfl, rfl, -⟩ := trodAll_nil r3
  obtain rfl : args = #[v0, v1, v2, v3] := by cases args; simp_all
  simp only [Rows.uptoBulkAll] at hk
  obtain ⟨f0, g0⟩ := h0
  obtain ⟨f1, g1⟩ := h1
  obtain ⟨f2, g2⟩ := h2
  obtain ⟨f3, g3⟩ := h3
  obtain ⟨w0, l0, e0, i0, -, f0⟩ := ints_of_trod g0 (by omega)
  obtain ⟨w1, l1, e1, i1, -, f1⟩ := ints_of_trod g1 (by omega)
  obtain ⟨w2, l2, e2, i2, b2, f2⟩ := ints_of_trod g2 (by omega)
  obtain ⟨w3, l3, e3, i3, b3, f3⟩ := ints_of_trod g3 (by omega)
  have e0' := slice_one e0 (okWide_slice Tryd.underlying22 (hval 0 22 v0 rfl rfl))
  have e1' := slice_one e1 (okWide_slice Tryd.underlying22 (hval 1 22 v1 rfl rfl))
  have e2' := slice_one e2 (okWide_slice Tryd.underlying22 (hval 2 22 v2 rfl rfl))
  have e3' := slice_one e3 (okWide_slice Tryd.underlying22 (hval 3 22 v3 rfl rfl))
  subst e0' e1' e2' e3'
  exact ⟨_, _, _, _, l0, l1, l2, l3, rfl, ⟨_, _, _, _, rfl⟩, ⟨i0, f0⟩, ⟨i1, f1⟩, ⟨i2, f2⟩, ⟨i3, b3, f3⟩⟩

theorem sums_laid (os : Os) (args : Array Value) : laidMetH Tryd.prog Rows.sumsUptoRow.laid ((World.laidAll Tryd.prog os Rows.sumsUptoRow.laid).forCall (fun _ _ => 0) ⟨#[], args, []⟩).memory := by
  rw [MakeChecks.laidMetH_plain _ _ _ (by kernel_rfl)]; exact laidMet_laidAll _ (by kernel_rfl) (by kernel_rfl)

set_option maxRecDepth 100000 in
theorem sums_contract (H : Type) (enc : TypeId × Value → H) (W : World) (base : Nat) (args : Array Value) (ds gs : List (DataW H)) (before : List MemPlace)
    (hval : ∀ (j : Nat) t v, Tryd.f3.params[j]? = some t → args[j]? = some v → Value.okWide Tryd.prog W .any base t v)
    (hW : DataW.Whole enc Tryd.prog Tryd.f3.params.toList Rows.sumsSpec.vars false W args.toList ds gs before) (hk : Rows.uptoSmall H (ds ++ gs) = true) :
    Calls Tryd.prog 3 args W fun e W' => ∃ v, e = .returned v ∧ Rows.sumsSpec.post enc Tryd.prog Tryd.f3 false true false false W args v W' := by
  have hW' := hW
  obtain ⟨p, q, hA0, hV, rfl, hfz, hnd⟩ := hW
  have hA : DataW.TrodAll enc Tryd.prog W 0 (fun _ => true) true Tryd.f3.params.toList args.toList ds p := hA0
  rw [Tryd.params3] at hA hval
  obtain ⟨rfl, rfl⟩ := trodVars_none hV
  have hb : Rows.uptoBulkAll ds ≤ 1048576 := by
    have := of_decide_eq_true hk
    simpa using this
  obtain ⟨v0, v1, v2, v3, a, b, rooms, one, rfl, ⟨d0, d1, d2, d3, rfl⟩, ⟨i0, f0⟩, ⟨i1, f1⟩, ⟨i2, f2⟩, ⟨i3, b3, f3⟩⟩ := lists_open hval hA hb
  refine (sums_calls i0 i1 i2 i3 f0 f1 f2 f3 b3).mono fun e W1 ⟨he, hb1⟩ => ⟨_, he, ?_⟩
  exact post_law rfl (by kernel_rfl) (by rw [Tryd.params3]; decide) rfl rfl rfl hW' hb1

set_option maxRecDepth 100000 in
theorem sums_lifted (os : Os) (started : os.Started) (H : Type) (enc : TypeId × Value → H) (F : Stop.Interp) :
    ReturnsInHanded {} Tryd.checked os 3 .any ((Rows.OpenSpec.upto Rows.sumsSpec).preRow enc Tryd.prog Tryd.f3 Rows.sumsUptoRow.domain false Rows.sumsUptoRow.laid) (((Rows.OpenSpec.upto Rows.sumsSpec).at F).post enc Tryd.prog Tryd.f3 false true false false) := by
  refine returnsInHanded_of_row (C := Tryd.checked) (s := Rows.OpenSpec.upto Rows.sumsSpec) door_own started (by kernel_rfl) Tryd.func3
    (witness_row_atRef (enc := enc) (C := Tryd.checked) false (World.laidAll Tryd.prog os Rows.sumsUptoRow.laid) #[.slice none 0 0, .slice none 0 0, .slice none 0 0, .slice none 0 0] (World.laidAll_os _ _ _) (by kernel_rfl) (by kernel_rfl) (by kernel_rfl)
      (OpenSpec.preRow_of_cond 8 (x := ([.nil, .nil, .nil, .nil], [], [])) (by kernel_rfl) (by kernel_rfl) (fun k hk => by cases hk; kernel_rfl) (by kernel_rfl) (sums_laid os _))) ?_
  intro W base args ds gs before hval hW _ hc _ _ _ _
  exact sums_contract H enc W base args ds gs before hval hW (hc _ rfl)

theorem sums_said : Rows.SumsUptoSaid :=
  OpenClaim.holds_of_cond 3 Tryd.f3 rfl rfl rfl rfl rfl rfl rfl ⟨rfl, rfl, rfl, rfl, rfl⟩ rfl rfl rfl rfl rfl (by kernel_rfl) Tryd.func3 (by kernel_rfl)
    (of_decide_eq_true (by kernel_rfl)) (by unfold Func.isWrapper; first | (rw [if_pos (by decide +kernel)]; kernel_rfl) | (rw [if_neg (by decide +kernel)]; exact ⟨rfl, rfl⟩))
    (fun os started H enc _ F => by rw [OpenClaim.pre_eq_preRow]; exact sums_lifted os started H enc F)

theorem sums_plain (f : FuncId) (fn : Func) (hf : Tryd.pinned.checked.prog.funcNamed "millrace/millracekeep.Sums" = some f) (hfn : Tryd.pinned.checked.prog.funcs[f]? = some fn) :
    true = Tryd.pinned.checked.prog.looks [] ∧ ∀ (j : Nat) t, fn.params[j]? = some t → Tryd.pinned.checked.prog.wantsStandIn t = false := by
  obtain rfl : f = 3 := Option.some.inj ((show Tryd.prog.funcNamed "millrace/millracekeep.Sums" = some 3 by kernel_rfl).symm.trans hf) |>.symm
  obtain rfl : fn = Tryd.f3 := (Option.some.inj (Tryd.func3.symm.trans hfn)).symm
  refine ⟨by kernel_rfl, fun j t ht => ?_⟩
  rw [Tryd.params3] at ht
  have hm : t ∈ [22, 22, 22, 22] := by simpa using Array.mem_of_getElem? ht
  have hall : ([22, 22, 22, 22].all fun u => !Tryd.prog.wantsStandIn u) = true := by kernel_rfl
  exact (show Tryd.prog.wantsStandIn t = false by simpa using List.all_eq_true.1 hall t hm)

theorem sums_card : Rows.SumsUptoCardSaid :=
  Claim7.holds_tied_plain_at .later [] _ _ _ _ sums_said (fun _ h => by cases h) (by kernel_rfl) (fun _ h => by cases h) sumsUpto_row_tie rfl ⟨rfl, rfl⟩ (by kernel_rfl) rfl sums_plain (by kernel_rfl)

end Go.Proofs.YthfdgdfnflilfaaDoor

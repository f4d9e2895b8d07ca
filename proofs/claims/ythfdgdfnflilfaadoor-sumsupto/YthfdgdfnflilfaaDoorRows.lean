/-
  NARROWER THAN 'FOR EVERY INPUT', by the rows' own cells (each row's printed sentence says how): Sums: laid · Prefix: laid · Local: laid · Settled: laid · Resumed: laid.
  DERIVED. THE GIVEN ROWS OF THIS SEAT. 5 by the template 'for every input the law returns true; each argument reads behind the call as it read before'; 0 by the template 'total and deterministic' (their statements: YthfdgdfnflilfaaDoorTotals.lean).
  GIVEN WITH THE SEED: the statements are not yours to turn. If you find one false, say at which input.
  Laid BY PROGRAM, IN A SANDBOX (cutbox-rows.mjs): the forced cells as the released guide's own fill.sh prints them over the translation 83a15e4b9e669d5a… (all of the seat's roots in one cut). By AI agents, Wed Nov 11 2026. No macro, syntax, notation, axiom, sorry.
-/
import Derived.Test.YthfdgdfnflilfaaDoorChecked
import GoSem.Claim
import GoSem.ClaimJoined
import GoSem.ClaimMapViews
import Derived.JoinedTies
import Derived.KernelRfl
namespace Go.Proofs.YthfdgdfnflilfaaDoor
/- THE CELL 'sum', in the pinned program and in every row, IS THE sha256 OF THE DUMP (.gsa) THAT YthfdgdfnflilfaaDoorProg.lean LOADS. Nothing in Lean hashes anything: it is a label: what it is worth is what the hold of that sum in a sandbox is worth. -/
noncomputable def Tryd.pinned : Pinned := { name := "ythfdgdfnflilfaadoor", sum := "83a15e4b9e669d5ab471274cd5023b552e337025aa6d9c49180dbfe02310bbed", checked := Tryd.checked }
namespace Rows
def none {H : Type} : Left H := { results := [], args := [] }

/- WHAT THE LISTED PACKAGE-LEVEL VARIABLES READ AS WHEN THE CALL BEGINS. Each datum BY PROGRAM (the guide's laid-datum.mjs) off the statement by which the dump's own 'gosem.cut.vars' lays the variable. In a bare row this is a premise. The card (YthfdgdfnflilfaaDoorCards.lean) ties it to the program's text. -/
def laid_millrace_states_errNoState {H : Type} : DataW H := .iface "*errors.errorString" (.ptr (.agg [.lit (.string [110, 111, 32, 115, 116, 97, 116, 101])]))

/-- 'millracekeep.Sums': WHATEVER THE INPUT: true; the input reads as it did. -/
def sumsSpec : ChangeSpec := { name := "sums", fn := fun _ => fun
  | [d1, d2, d3, d4] => { results := [.lit (.bool true)], args := [d1, d2, d3, d4] }
  | _ => none }
def sumsRow : OpenClaim := { program := "ythfdgdfnflilfaadoor", sum := "83a15e4b9e669d5ab471274cd5023b552e337025aa6d9c49180dbfe02310bbed", func := "millrace/millracekeep.Sums", spec := "sums", unfollowed := true, recurses := true, named := ["millrace/states.errNoState"], apart := false, laid := [("millrace/states.errNoState", laid_millrace_states_errNoState)] }
def SumsSaid : Prop := sumsRow.holds Tryd.pinned (OpenSpec.ofChange sumsSpec)

/-- ITS FALSE NEIGHBOUR: 'it returns false'. Refute it at one input. -/
def sumsWrong : ChangeSpec := { name := "sums", fn := fun _ => fun
  | [d1, d2, d3, d4] => { results := [.lit (.bool false)], args := [d1, d2, d3, d4] }
  | _ => none }
def SumsWrongFalsely : Prop := sumsRow.holds Tryd.pinned (OpenSpec.ofChange sumsWrong)

/-- 'millracekeep.Prefix': WHATEVER THE INPUT: true; the input reads as it did. -/
def prefixSpec : ChangeSpec := { name := "prefix", fn := fun _ => fun
  | [d1, d2, d3, d4] => { results := [.lit (.bool true)], args := [d1, d2, d3, d4] }
  | _ => none }
def prefixRow : OpenClaim := { program := "ythfdgdfnflilfaadoor", sum := "83a15e4b9e669d5ab471274cd5023b552e337025aa6d9c49180dbfe02310bbed", func := "millrace/millracekeep.Prefix", spec := "prefix", unfollowed := true, recurses := true, named := ["millrace/states.errNoState"], apart := false, laid := [("millrace/states.errNoState", laid_millrace_states_errNoState)] }
def PrefixSaid : Prop := prefixRow.holds Tryd.pinned (OpenSpec.ofChange prefixSpec)

/-- ITS FALSE NEIGHBOUR: 'it returns false'. Refute it at one input. -/
def prefixWrong : ChangeSpec := { name := "prefix", fn := fun _ => fun
  | [d1, d2, d3, d4] => { results := [.lit (.bool false)], args := [d1, d2, d3, d4] }
  | _ => none }
def PrefixWrongFalsely : Prop := prefixRow.holds Tryd.pinned (OpenSpec.ofChange prefixWrong)

/-- 'millracekeep.Local': WHATEVER THE INPUT: true; the input reads as it did. -/
def localSpec : ChangeSpec := { name := "local", fn := fun _ => fun
  | [d1, d2, d3, d4] => { results := [.lit (.bool true)], args := [d1, d2, d3, d4] }
  | _ => none }
def localRow : OpenClaim := { program := "ythfdgdfnflilfaadoor", sum := "83a15e4b9e669d5ab471274cd5023b552e337025aa6d9c49180dbfe02310bbed", func := "millrace/millracekeep.Local", spec := "local", unfollowed := true, recurses := true, named := ["millrace/states.errNoState"], apart := false, laid := [("millrace/states.errNoState", laid_millrace_states_errNoState)] }
def LocalSaid : Prop := localRow.holds Tryd.pinned (OpenSpec.ofChange localSpec)

/-- ITS FALSE NEIGHBOUR: 'it returns false'. Refute it at one input. -/
def localWrong : ChangeSpec := { name := "local", fn := fun _ => fun
  | [d1, d2, d3, d4] => { results := [.lit (.bool false)], args := [d1, d2, d3, d4] }
  | _ => none }
def LocalWrongFalsely : Prop := localRow.holds Tryd.pinned (OpenSpec.ofChange localWrong)

/-- 'millracekeep.Settled': WHATEVER THE INPUT: true; the input reads as it did. -/
def settledSpec : ChangeSpec := { name := "settled", fn := fun _ => fun
  | [d1, d2, d3, d4] => { results := [.lit (.bool true)], args := [d1, d2, d3, d4] }
  | _ => none }
def settledRow : OpenClaim := { program := "ythfdgdfnflilfaadoor", sum := "83a15e4b9e669d5ab471274cd5023b552e337025aa6d9c49180dbfe02310bbed", func := "millrace/millracekeep.Settled", spec := "settled", unfollowed := true, recurses := true, named := ["millrace/states.errNoState"], apart := false, laid := [("millrace/states.errNoState", laid_millrace_states_errNoState)] }
def SettledSaid : Prop := settledRow.holds Tryd.pinned (OpenSpec.ofChange settledSpec)

/-- ITS FALSE NEIGHBOUR: 'it returns false'. Refute it at one input. -/
def settledWrong : ChangeSpec := { name := "settled", fn := fun _ => fun
  | [d1, d2, d3, d4] => { results := [.lit (.bool false)], args := [d1, d2, d3, d4] }
  | _ => none }
def SettledWrongFalsely : Prop := settledRow.holds Tryd.pinned (OpenSpec.ofChange settledWrong)

/-- 'millracekeep.Resumed': WHATEVER THE INPUT: true; the input reads as it did. -/
def resumedSpec : ChangeSpec := { name := "resumed", fn := fun _ => fun
  | [d1, d2, d3] => { results := [.lit (.bool true)], args := [d1, d2, d3] }
  | _ => none }
def resumedRow : OpenClaim := { program := "ythfdgdfnflilfaadoor", sum := "83a15e4b9e669d5ab471274cd5023b552e337025aa6d9c49180dbfe02310bbed", func := "millrace/millracekeep.Resumed", spec := "resumed", unfollowed := true, recurses := true, named := ["millrace/states.errNoState"], apart := false, laid := [("millrace/states.errNoState", laid_millrace_states_errNoState)] }
def ResumedSaid : Prop := resumedRow.holds Tryd.pinned (OpenSpec.ofChange resumedSpec)

/-- ITS FALSE NEIGHBOUR: 'it returns false'. Refute it at one input. -/
def resumedWrong : ChangeSpec := { name := "resumed", fn := fun _ => fun
  | [d1, d2, d3] => { results := [.lit (.bool false)], args := [d1, d2, d3] }
  | _ => none }
def ResumedWrongFalsely : Prop := resumedRow.holds Tryd.pinned (OpenSpec.ofChange resumedWrong)

/- THE SECOND FORM. 'bulk': how many values and letters a reading holds, each counted each time it is reached (what is shared counts as often as it is met; a slice's spare places count too). A statement '..UptoSaid' is the law's where the arguments, and the package variables that the reading takes, are together of bulk at most 1048576: NARROWER than '..Said'. Prove '..Said' where nothing that the law and all that it calls make is longer than what came in: it says more and counts as full. Else prove '..UptoSaid'. A law counts once. -/
mutual
def uptoBulk {H : Type} : DataW H → Nat
  | .lit (.string bytes) => bytes.length + 1
  | .lit _ => 1
  | .nil => 1
  | .ptr d => uptoBulk d + 1
  | .slice elems spare => uptoBulkAll elems + uptoBulkAll spare + 1
  | .agg parts => uptoBulkAll parts + 1
  | .iface _ d => uptoBulk d + 1
  | .map entries => uptoBulkEntries entries + 1
  | .held _ => 1
def uptoBulkAll {H : Type} : List (DataW H) → Nat
  | [] => 0
  | d :: r => uptoBulk d + uptoBulkAll r
def uptoBulkEntries {H : Type} : List (Lit × DataW H) → Nat
  | [] => 0
  | x :: r => uptoBulkEntry x + uptoBulkEntries r
def uptoBulkEntry {H : Type} : Lit × DataW H → Nat
  | (.string bytes, d) => bytes.length + uptoBulk d + 1
  | (_, d) => uptoBulk d + 1
 end
def uptoSmall : (H : Type) → List (DataW H) → Bool := fun _ ds => decide (uptoBulkAll ds ≤ 1048576)
def OpenSpec.upto (s : _root_.Go.ChangeSpec) : _root_.Go.OpenSpec := { _root_.Go.OpenSpec.ofChange s with cond := some uptoSmall }

/-- 'millracekeep.Sums', WHERE WHAT IT READS IS OF BULK AT MOST 1048576: true; the input reads as it did. -/
def sumsUptoRow : OpenClaim := { program := "ythfdgdfnflilfaadoor", sum := "83a15e4b9e669d5ab471274cd5023b552e337025aa6d9c49180dbfe02310bbed", func := "millrace/millracekeep.Sums", spec := "sums", unfollowed := true, recurses := true, named := ["millrace/states.errNoState"], apart := false, laid := [("millrace/states.errNoState", laid_millrace_states_errNoState)], narrowed := true }
def SumsUptoSaid : Prop := sumsUptoRow.holds Tryd.pinned (OpenSpec.upto sumsSpec)

/-- 'millracekeep.Prefix', WHERE WHAT IT READS IS OF BULK AT MOST 1048576: true; the input reads as it did. -/
def prefixUptoRow : OpenClaim := { program := "ythfdgdfnflilfaadoor", sum := "83a15e4b9e669d5ab471274cd5023b552e337025aa6d9c49180dbfe02310bbed", func := "millrace/millracekeep.Prefix", spec := "prefix", unfollowed := true, recurses := true, named := ["millrace/states.errNoState"], apart := false, laid := [("millrace/states.errNoState", laid_millrace_states_errNoState)], narrowed := true }
def PrefixUptoSaid : Prop := prefixUptoRow.holds Tryd.pinned (OpenSpec.upto prefixSpec)

/-- 'millracekeep.Local', WHERE WHAT IT READS IS OF BULK AT MOST 1048576: true; the input reads as it did. -/
def localUptoRow : OpenClaim := { program := "ythfdgdfnflilfaadoor", sum := "83a15e4b9e669d5ab471274cd5023b552e337025aa6d9c49180dbfe02310bbed", func := "millrace/millracekeep.Local", spec := "local", unfollowed := true, recurses := true, named := ["millrace/states.errNoState"], apart := false, laid := [("millrace/states.errNoState", laid_millrace_states_errNoState)], narrowed := true }
def LocalUptoSaid : Prop := localUptoRow.holds Tryd.pinned (OpenSpec.upto localSpec)

/-- 'millracekeep.Settled', WHERE WHAT IT READS IS OF BULK AT MOST 1048576: true; the input reads as it did. -/
def settledUptoRow : OpenClaim := { program := "ythfdgdfnflilfaadoor", sum := "83a15e4b9e669d5ab471274cd5023b552e337025aa6d9c49180dbfe02310bbed", func := "millrace/millracekeep.Settled", spec := "settled", unfollowed := true, recurses := true, named := ["millrace/states.errNoState"], apart := false, laid := [("millrace/states.errNoState", laid_millrace_states_errNoState)], narrowed := true }
def SettledUptoSaid : Prop := settledUptoRow.holds Tryd.pinned (OpenSpec.upto settledSpec)

/-- 'millracekeep.Resumed', WHERE WHAT IT READS IS OF BULK AT MOST 1048576: true; the input reads as it did. -/
def resumedUptoRow : OpenClaim := { program := "ythfdgdfnflilfaadoor", sum := "83a15e4b9e669d5ab471274cd5023b552e337025aa6d9c49180dbfe02310bbed", func := "millrace/millracekeep.Resumed", spec := "resumed", unfollowed := true, recurses := true, named := ["millrace/states.errNoState"], apart := false, laid := [("millrace/states.errNoState", laid_millrace_states_errNoState)], narrowed := true }
def ResumedUptoSaid : Prop := resumedUptoRow.holds Tryd.pinned (OpenSpec.upto resumedSpec)

end Rows
end Go.Proofs.YthfdgdfnflilfaaDoor

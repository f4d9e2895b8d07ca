/- Part 5: Model2. -/
import Derived.Test.YthfdgdfnflilfaaGreatDoorPart1
namespace Go.Proofs.YthfdgdfnflilfaaGreatDoor
open Go.RowKit
theorem doStep_w_ne (N:Net) (R:Rc) (j k:Nat) (h:k≠j):(doStep N R j).w k=R.w k:=by
 simp only [doStep]
 split
 ·rfl
 ·exact getD_set_ne _ _ _ _ _ (fun e=>h e.symm)
end Go.Proofs.YthfdgdfnflilfaaGreatDoor

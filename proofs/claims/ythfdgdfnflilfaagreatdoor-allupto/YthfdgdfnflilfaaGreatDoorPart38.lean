/- Part 38: Open2. -/
import Derived.Deep.DeepHandedRow
import Derived.Deep.DeepWitnessRowRef
import Derived.Lay
import Derived.Handy
import Derived.Test.YthfdgdfnflilfaaGreatDoorCards
import Derived.Test.YthfdgdfnflilfaaGreatDoorTie
import Derived.Test.YthfdgdfnflilfaaGreatDoorPart3
import Derived.Test.YthfdgdfnflilfaaGreatDoorPart30
namespace Go.Proofs.YthfdgdfnflilfaaGreatDoor
open Go.ChangeShapes Go.WideShapes Go.ChangeAt Go.RowKit
theorem door_own:ownKnob Tryz.prog.godebug=none:=by kernel_rfl
theorem fits_of_short {n:Net} (h:ShortNet n):NetFits n:=by
 refine ⟨fun k hk i hi=>?_,fun s hs x hx=>(h.2.2.2.1 s hs).2 x hx⟩
 have hm:codeOf n k∈n.workers:=by unfold codeOf;rw [getD_eq _ _ _ hk];exact List.getElem_mem hk
 exact (h.2.2.2.2 _ hm).2 i hi
theorem slice_one {v v':Value} (h:v.cells.toList=[v']) (hs:∃ a len cap,v=.slice a len cap):v=v':=by
 obtain ⟨a,len,cap,rfl⟩:=hs
 simpa [Value.cells] using h
end Go.Proofs.YthfdgdfnflilfaaGreatDoor

/- Steps of the proof: FolFromBase, EncChoice, MapB, CnfFunc. -/
import Derived.Test.YthaaaecmeafofaaGreatDoorOs12
import Derived.Test.YthaaaecmeafofaaGreatDoorOs13
import Derived.Lib.OwnBridge
import Derived.Lib.SliceRun
import Derived.Test.YthaaaecmeafofaaGreatDoorRows
import Derived.Maps.Own
import Derived.Maps.OwnSet
import Derived.Shelf.Abstract
set_option maxHeartbeats 16000000
set_option maxRecDepth 100000
namespace Go.Proofs.YthaaaecmeafofaaGreatDoor.Cn
open Go.RowKit Go.Lib Go.Sort
end Go.Proofs.YthaaaecmeafofaaGreatDoor.Cn
namespace Go.Proofs.YthaaaecmeafofaaGreatDoor.Cn
end Go.Proofs.YthaaaecmeafofaaGreatDoor.Cn
namespace Go.Proofs.YthaaaecmeafofaaGreatDoor.Cn
open Go.RowKit Go.Lib
theorem vI {v:Value} {z:DataW Unit × List MemPlace} (h:plainElem Tryz.prog 4 v=some z) : ∃ c,v=.bool c/\z=(.lit (.bool c),[]):=by
 unfold plainElem at h
 rw [Tryz.underlying4] at h
 cases v<;>simp at h
 exact ⟨_,rfl,h.symm⟩
end Go.Proofs.YthaaaecmeafofaaGreatDoor.Cn

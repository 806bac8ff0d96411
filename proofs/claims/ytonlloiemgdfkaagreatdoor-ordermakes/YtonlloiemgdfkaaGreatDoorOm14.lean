/- Steps of the proof: FolFromBase, EncChoice, MapB, CnfFunc, CnfCheck, CnfHolds, FolFrom, CnfFollows, RupBase, SatSpec, EncSteps, EncOk, EncVal, EncDraft, MapP. -/
import Derived.Test.YtonlloiemgdfkaaGreatDoorOm12
import Derived.Test.YtonlloiemgdfkaaGreatDoorOm13
import Derived.Lib.OwnBridge
import Derived.Lib.SliceRun
import Derived.Test.YtonlloiemgdfkaaGreatDoorRows
import Derived.Maps.Own
import Derived.Maps.OwnSet
import Derived.Shelf.Abstract
import Derived.WideKeyPair
set_option maxHeartbeats 16000000
set_option maxRecDepth 100000
namespace Go.Proofs.YtonlloiemgdfkaaGreatDoor.Cn
open Go.RowKit Go.Lib Go.Sort
end Go.Proofs.YtonlloiemgdfkaaGreatDoor.Cn
namespace Go.Proofs.YtonlloiemgdfkaaGreatDoor.Cn
end Go.Proofs.YtonlloiemgdfkaaGreatDoor.Cn
namespace Go.Proofs.YtonlloiemgdfkaaGreatDoor.Cn
open Go.RowKit Go.Lib
theorem tG {v:Value} {z:DataW Unit × List MemPlace} (h:plainElem Tryz.prog 4 v=some z) : ∃ c,v=.bool c/\z=(.lit (.bool c),[]):=by
 unfold plainElem at h
 rw [Tryz.underlying4] at h
 cases v<;>simp at h
 exact ⟨_,rfl,h.symm⟩
end Go.Proofs.YtonlloiemgdfkaaGreatDoor.Cn
namespace Go.Proofs.YtonlloiemgdfkaaGreatDoor.Cn
open Go.RowKit Go.Lib Go.Sort
end Go.Proofs.YtonlloiemgdfkaaGreatDoor.Cn
namespace Go.Proofs.YtonlloiemgdfkaaGreatDoor.Cn
open Go.RowKit Go.Lib
end Go.Proofs.YtonlloiemgdfkaaGreatDoor.Cn
namespace Go.Proofs.YtonlloiemgdfkaaGreatDoor.Cn
end Go.Proofs.YtonlloiemgdfkaaGreatDoor.Cn
namespace Go.Proofs.YtonlloiemgdfkaaGreatDoor.Cn
open Go.RowKit Go.Lib
end Go.Proofs.YtonlloiemgdfkaaGreatDoor.Cn

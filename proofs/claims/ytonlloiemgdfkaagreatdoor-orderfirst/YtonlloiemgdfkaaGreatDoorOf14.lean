/- Steps of the proof: FolFromBase, EncChoice, MapB. -/
import Derived.Test.YtonlloiemgdfkaaGreatDoorOf12
import Derived.Test.YtonlloiemgdfkaaGreatDoorOf13
import Derived.Lib.OwnBridge
import Derived.Lib.SliceRun
import Derived.Test.YtonlloiemgdfkaaGreatDoorRows
import Derived.Maps.Own
import Derived.Maps.OwnSet
set_option maxHeartbeats 16000000
set_option maxRecDepth 100000
namespace Go.Proofs.YtonlloiemgdfkaaGreatDoor.Cn
open Go.RowKit Go.Lib Go.Sort
end Go.Proofs.YtonlloiemgdfkaaGreatDoor.Cn
namespace Go.Proofs.YtonlloiemgdfkaaGreatDoor.Cn
end Go.Proofs.YtonlloiemgdfkaaGreatDoor.Cn
namespace Go.Proofs.YtonlloiemgdfkaaGreatDoor.Cn
open Go.RowKit Go.Lib
end Go.Proofs.YtonlloiemgdfkaaGreatDoor.Cn

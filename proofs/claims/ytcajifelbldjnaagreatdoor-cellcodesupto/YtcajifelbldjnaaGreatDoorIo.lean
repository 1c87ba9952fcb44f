import Derived.Test.YtcajifelbldjnaaGreatDoorIm
import Derived.WalkKit
import Derived.LaidEql
import Derived.Stop.Asserts
import Derived.RowKitTokens
import Derived.Test.YtcajifelbldjnaaGreatDoorIn
import Derived.Laws.StructEq
set_option maxRecDepth 100000
set_option maxHeartbeats 25600000
set_option linter.unusedVariables false
namespace Go.Proofs.YtcajifelbldjnaaGreatDoor.K
open Go.RowKit Go.Extern.Stop Go.Stop Go.Extern
end Go.Proofs.YtcajifelbldjnaaGreatDoor.K
namespace Go.Proofs.YtcajifelbldjnaaGreatDoor.K
open Go.RowKit
end Go.Proofs.YtcajifelbldjnaaGreatDoor.K

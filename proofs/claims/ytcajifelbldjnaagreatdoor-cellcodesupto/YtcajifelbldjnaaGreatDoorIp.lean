import Derived.Test.YtcajifelbldjnaaGreatDoorIo
import Derived.Maps.OwnSet
import Derived.Maps.Ext
set_option maxRecDepth 100000
set_option maxHeartbeats 25600000
set_option linter.unusedVariables false
namespace Go.Proofs.YtcajifelbldjnaaGreatDoor.K
open Go.RowKit Go.Maps
end Go.Proofs.YtcajifelbldjnaaGreatDoor.K

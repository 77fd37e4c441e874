import Derived.Test.YtkejaepmoabikaaGreatDoorZ1b
import Derived.Test.YtkejaepmoabikaaGreatDoorZ1c
namespace Go.Proofs.YtkejaepmoabikaaGreatDoor.W
open Go.RowKit

end Go.Proofs.YtkejaepmoabikaaGreatDoor.W

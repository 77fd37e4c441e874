import Derived.Test.YtkejaepmoabikaaGreatDoorZ1c
import Derived.Test.YtkejaepmoabikaaGreatDoorZ0g
namespace Go.Proofs.YtkejaepmoabikaaGreatDoor.W
open Go.RowKit

end Go.Proofs.YtkejaepmoabikaaGreatDoor.W

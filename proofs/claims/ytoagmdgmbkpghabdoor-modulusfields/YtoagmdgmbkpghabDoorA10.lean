/- words.takeTimes, words.putBack -/
import Derived.Test.YtoagmdgmbkpghabDoorA9
import Derived.BigRegion
namespace Go.Proofs.YtoagmdgmbkpghabDoor
open Go.RowKit

end Go.Proofs.YtoagmdgmbkpghabDoor

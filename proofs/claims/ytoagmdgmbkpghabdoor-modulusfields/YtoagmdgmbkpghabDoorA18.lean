/- words.divideStep -/
import Derived.Test.YtoagmdgmbkpghabDoorA17
import Derived.BigQuiet
namespace Go.Proofs.YtoagmdgmbkpghabDoor
open Go.RowKit

end Go.Proofs.YtoagmdgmbkpghabDoor

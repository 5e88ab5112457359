/- The cells whose rows lie between two. -/
import Derived.Test.YtkomnnijnggbpaaGreatDoorZ0
namespace Go.Proofs.YtkomnnijnggbpaaGreatDoor
open Go.RowKit
set_option linter.unusedVariables false

def between (lo hi : List UInt8) (x : Cel) : Bool := !ahead x.row.data.toList lo && ahead x.row.data.toList hi
end Go.Proofs.YtkomnnijnggbpaaGreatDoor

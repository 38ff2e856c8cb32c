/- The laws' helpers: a valid sequence parameter set out of any numbers. -/
import Derived.Test.YtjjjfmnhdnajkaaGreatDoorHmB
import Derived.Test.YtjjjfmnhdnajkaaGreatDoorHlE
namespace Go.Proofs.YtjjjfmnhdnajkaaGreatDoor
open Go.RowKit
set_option linter.unusedVariables false
set_option linter.unusedSimpArgs false

/-- The three bytes that are not looked at. -/
def bytesN (n : N8) : Int × Int × Int := (IntKind.u8.wrap n.a, IntKind.u8.wrap (n.a / 256), IntKind.u8.wrap (n.a / 65536))
end Go.Proofs.YtjjjfmnhdnajkaaGreatDoor

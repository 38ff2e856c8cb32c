/- The laws' helpers: valid commands out of any. -/
import Derived.Test.YtjjjfmnhdnajkaaGreatDoorHmA
namespace Go.Proofs.YtjjjfmnhdnajkaaGreatDoor
open Go.RowKit
set_option linter.unusedVariables false
set_option linter.unusedSimpArgs false

theorem i64_and20 (n : Int) : bits .and .i64 n 1048575 = n % 1048576 := i64_mask n 20 (by decide)
end Go.Proofs.YtjjjfmnhdnajkaaGreatDoor

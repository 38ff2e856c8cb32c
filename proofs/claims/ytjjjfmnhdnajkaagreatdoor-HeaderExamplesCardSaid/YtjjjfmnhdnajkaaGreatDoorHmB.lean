/- The laws' helpers: valid parameter sets out of any numbers. -/
import Derived.Test.YtjjjfmnhdnajkaaGreatDoorHmA
import Derived.Test.YtjjjfmnhdnajkaaGreatDoorMg19
import Derived.Test.YtjjjfmnhdnajkaaGreatDoorQheld
import Derived.StillTailTactics
namespace Go.Proofs.YtjjjfmnhdnajkaaGreatDoor
open Go.RowKit
set_option linter.unusedVariables false
set_option linter.unusedSimpArgs false

def nL (n : N8) : List Value := [.int .i64 n.a, .int .i64 n.b, .int .i64 n.c, .int .i64 n.d, .int .i64 n.e, .int .i64 n.f, .int .i64 n.g, .int .i64 n.h]
def nV (n : N8) : Value := .agg (nL n).toArray
end Go.Proofs.YtjjjfmnhdnajkaaGreatDoor

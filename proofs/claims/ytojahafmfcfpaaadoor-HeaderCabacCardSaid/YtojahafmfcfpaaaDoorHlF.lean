/- HeaderChecks: the walk. -/
import Derived.Test.YtojahafmfcfpaaaDoorMg19
import Derived.Test.YtojahafmfcfpaaaDoorMg15
import Derived.Test.YtojahafmfcfpaaaDoorHlE
import Derived.Test.YtojahafmfcfpaaaDoorMg20
namespace Go.Proofs.YtojahafmfcfpaaaDoor
open Go.RowKit
set_option linter.unusedVariables false
set_option linter.unusedSimpArgs false

/-- The header, its lists cut. -/
def cutH (x : HV) : HV := { x with mods := x.mods.take 80, marks := x.marks.take 80 }
theorem oks_take {l : List (Int × Int × Int)} (h : OksM l) (n : Nat) : OksM (l.take n) := fun j x hx => h j x (by
  obtain ⟨q1, q2⟩ := List.getElem?_eq_some_iff.1 hx
  rw [List.length_take] at q1
  rw [← hx, List.getElem?_take, if_pos (by omega)])
theorem hV_cut (x : HV) (mv kv : Value) : hV x mv kv = hV (cutH x) mv kv := rfl
end Go.Proofs.YtojahafmfcfpaaaDoor

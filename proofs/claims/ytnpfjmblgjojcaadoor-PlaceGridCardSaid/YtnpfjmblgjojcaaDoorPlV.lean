/- The two variables of place that the rows list: the columns and the rows of luma blocks. -/
import Derived.Test.YtnpfjmblgjojcaaDoorRows
import Derived.Test.YtnpfjmblgjojcaaDoorPlN
import Derived.Lib.LaidU8
import Derived.ChangeSame
namespace Go.Proofs.YtnpfjmblgjojcaaDoor
open Go.RowKit
set_option linter.unusedVariables false

def plL : Bool → List Int
  | false => [0, 1, 0, 1, 2, 3, 2, 3, 0, 1, 0, 1, 2, 3, 2, 3]
  | true => [0, 0, 1, 1, 0, 0, 1, 1, 2, 2, 3, 3, 2, 2, 3, 3]
def plG : Bool → Nat
  | false => 0
  | true => 1
/-- The two variables hold what the program's text lays. -/
def PlV (w : World) : Prop := ∀ (m : Bool) (j : Nat), j < 16 → w.cell? ⟨plG m, j, none⟩ = some (.int .i64 ((plL m).getD j 0))
theorem PlV.only {S : List Nat} {w w' : World} (h : PlV w) (k : Only S w w') (hS : ∀ m, plG m ∉ S) : PlV w' := fun m j hj => k.cell (h m j hj) (hS m)
theorem PlV.only0 {w w' : World} (h : PlV w) (k : Only [] w w') : PlV w' := h.only k (fun _ => by simp)
theorem PlV.alloc {w : World} (h : PlV w) b : PlV (w.alloc b) := h.only0 ((Only.refl [] w).alloc b)
theorem PlV.drewN {w : World} (h : PlV w) (n : Nat) : PlV (w.drewN n) := h
theorem PlV.lt {w : World} (h : PlV w) (m : Bool) : plG m < w.heap.size := World.block_lt_of_cell? _ _ (h m 0 (by omega))
/-- What lies in blocks that are new to a world with the variables. -/
theorem PlV.new {S : List Nat} {w w' w0 : World} (h : PlV w) (h0 : PlV w0) (k : Only S w w') (hS : ∀ b, b ∈ S → w0.heap.size ≤ b) : PlV w' := h.only k (fun m hm => by have := hS _ hm; have := h0.lt m; omega)

/-- One variable's cells. -/
theorem cells_of_pl {W : World} {n : String} {zs : List Int} {g : Nat} (hg : Tryd.prog.globalNamed n = some g) (ht : (Tryd.prog.globals[g]?).map (·.type) = some 43)
    (h : Lib.VarReads Tryd.prog W n (Lib.tabData .i64 zs)) : ∀ (j : Nat), j < zs.length → W.cell? ⟨g, j, none⟩ = some (.int .i64 (zs.getD j 0)) := by
  obtain ⟨g', t', cs, fuel, p, hg', ht', hvar, hd⟩ := h
  obtain rfl := Option.some.inj (hg.symm.trans hg')
  obtain rfl := Option.some.inj (ht.symm.trans ht')
  have e := Lib.cells_of_tab (k := .i64) (n := 16) (e := 3) (by kernel_rfl) (by kernel_rfl) (by kernel_rfl) (by kernel_rfl) hd
  intro j hj
  have hT : Lib.TabIs Tryd.prog W n .i64 zs := by
    unfold Lib.TabIs
    rw [hvar, ← e]
  exact hT.cell hg j hj
theorem plv_in {W : World} {l : List (String × DataW Unit)} (h : laidMet Tryd.prog l W)
    (h0 : ("spindle/place.columns", Lib.tabData .i64 [0, 1, 0, 1, 2, 3, 2, 3, 0, 1, 0, 1, 2, 3, 2, 3]) ∈ l) (h1 : ("spindle/place.rows", Lib.tabData .i64 [0, 0, 1, 1, 0, 0, 1, 1, 2, 2, 3, 3, 2, 2, 3, 3]) ∈ l) : PlV W := by
  intro m j hj
  cases m with
  | false => exact cells_of_pl (by kernel_rfl) (by kernel_rfl) (Lib.laidMet.reads h h0) j hj
  | true => exact cells_of_pl (by kernel_rfl) (by kernel_rfl) (Lib.laidMet.reads h h1) j hj
theorem plv_of {W : World} (h : laidMet Tryd.prog [("spindle/place.columns", Lib.tabData .i64 [0, 1, 0, 1, 2, 3, 2, 3, 0, 1, 0, 1, 2, 3, 2, 3]), ("spindle/place.rows", Lib.tabData .i64 [0, 0, 1, 1, 0, 0, 1, 1, 2, 2, 3, 3, 2, 2, 3, 3])] W) : PlV W :=
  plv_in h (.head _) (.tail _ (.head _))
end Go.Proofs.YtnpfjmblgjojcaaDoor

/- PlaceGrid: maps whose keys are pairs of numbers; which macroblocks stand in the grid. -/
import Derived.Test.YtnpfjmblgjojcaaDoorPlW
import Derived.Maps.OwnSet
import Derived.DeepKeys4
namespace Go.Proofs.YtnpfjmblgjojcaaDoor
open Go.RowKit Go.Maps
set_option linter.unusedVariables false

theorem key_under : Tryd.prog.underlying 40 = some (.array 2 3) := by kernel_rfl
theorem map_under : Tryd.prog.underlying 39 = some (.map 40 3) := by kernel_rfl
theorem int_under : Tryd.prog.underlying 3 = some (.int .i64) := by kernel_rfl
theorem key_type : Tryd.prog.keyType 40 = true := by kernel_rfl
theorem key_cells : Tryd.prog.cellsOf 40 = 2 := by kernel_rfl
theorem int_cells : Tryd.prog.cellsOf 3 = 1 := by kernel_rfl
theorem key_keyed : Keyed Tryd.prog 40 := Keyed.of_law (deep_law_laid (by kernel_rfl) (m := 2) (by omega) (by decide +kernel) (by kernel_rfl) (by kernel_rfl))
theorem int_zero (w : World) : (zeroValue 3).run Tryd.prog w = .ok (.int .i64 0) w := by kernel_rfl
def pairV (x y : Int) : Value := .agg #[.int .i64 x, .int .i64 y]
def pairL (x y : Int) : Lit := .string (keyBytes [.int .i64 x, .int .i64 y])
theorem keyOf_pair {x y : Int} (hx : (Lit.int .i64 x).wf = true) (hy : (Lit.int .i64 y).wf = true) : keyOf Tryd.prog 40 (.agg #[.int .i64 x, .int .i64 y]) = some (pairL x y) := by
  unfold keyOf
  rw [key_under]
  simp only [key_type, Value.formed, key_under, key_cells, Bool.true_and, Value.cells]
  rw [if_pos (by rfl)]
  unfold Program.keyLits
  rw [key_under]
  simp only [key_cells, int_cells]
  rw [if_pos (by rfl)]
  have h1 : ∀ (d : Nat) (z : Int), (Lit.int .i64 z).wf = true → Tryd.prog.keyLits (d + 1) 3 [.int .i64 z] = some [.int .i64 z] := by
    intro d z hz
    unfold Program.keyLits
    rw [int_under]
    simp [hz]
  obtain ⟨d, hd⟩ : ∃ d, Tryd.prog.types.size = d + 1 := ⟨_, show _ = (Tryd.prog.types.size - 1) + 1 by decide +kernel⟩
  rw [hd]
  simp [List.range_succ, h1 d _ hx, h1 d _ hy, pairL]
theorem wfi {z : Int} (h0 : -9223372036854775808 ≤ z) (h1 : z ≤ 9223372036854775807) : (Lit.int .i64 z).wf = true := WalkArith.wf_i64 ⟨h0, h1⟩
theorem pair_key {x y : Int} (hx : (Lit.int .i64 x).wf = true) (hy : (Lit.int .i64 y).wf = true) : WideAt.IsKeyLit (pairL x y) := key_keyed.key (keyOf_pair hx hy)
theorem pair_inj {x y x' y' : Int} (hx : (Lit.int .i64 x).wf = true) (hy : (Lit.int .i64 y).wf = true) (hx' : (Lit.int .i64 x').wf = true) (hy' : (Lit.int .i64 y').wf = true) (h : pairL x y = pairL x' y') : x = x' ∧ y = y' := by
  have := key_keyed.inj (keyOf_pair hx hy) (by rw [h]; exact keyOf_pair hx' hy')
  simpa using this
/-- The macroblocks from f on, j of them, in rows of v. -/
def gridD (f v : Int) : Nat → DataW Unit
  | 0 => .map []
  | j + 1 => (gridD f v j).put (pairL ((f + j) % v) ((f + j) / v)) (.lit (.int .i64 (f + j)))
theorem grid_isMap (f v : Int) : ∀ j, IsMap (gridD f v j)
  | 0 => isMap_empty
  | j + 1 => (grid_isMap f v j).put _ _
/-- Columns and rows of the numbers that come here are small. -/
theorem col_wf {f v : Int} (f0 : 0 ≤ f) (f1 : f ≤ 999) (v0 : 1 ≤ v) (v1 : v ≤ 20) {j : Nat} (hj : j ≤ 300) : ((0 ≤ (f + j) % v ∧ (f + j) % v < v) ∧ 0 ≤ (f + j) / v ∧ (f + j) / v ≤ 1299) ∧ v * ((f + j) / v) + (f + j) % v = f + j := by
  have h1 := Int.mul_ediv_add_emod (f + j) v
  have h2 := Int.emod_nonneg (f + j) (show v ≠ 0 by omega)
  have h3 := Int.emod_lt_of_pos (f + j) (show 0 < v by omega)
  have h4 : 0 ≤ (f + j) / v := Int.ediv_nonneg (by omega) (by omega)
  have h5 : (f + j) / v ≤ f + j := Int.ediv_le_self _ (by omega)
  exact ⟨⟨⟨h2, h3⟩, h4, by omega⟩, h1⟩
theorem grid_there {f v : Int} (f0 : 0 ≤ f) (f1 : f ≤ 999) (v0 : 1 ≤ v) (v1 : v ≤ 20) (z : DataW Unit) : ∀ (j : Nat), j ≤ 300 → ∀ i, i < j → Maps.has (gridD f v j) (pairL ((f + i) % v) ((f + i) / v)) = true ∧ (gridD f v j).atKey (pairL ((f + i) % v) ((f + i) / v)) z = .lit (.int .i64 (f + i))
  | 0, _, i, h => absurd h (by omega)
  | j + 1, hj, i, hi => by
    obtain ⟨⟨⟨a0, a1⟩, a2, a3⟩, a4⟩ := col_wf f0 f1 v0 v1 (show j ≤ 300 by omega)
    by_cases e : i = j
    · subst e
      have k := pair_key (wfi (show -9223372036854775808 ≤ (f + i) % v by omega) (by omega)) (wfi (show -9223372036854775808 ≤ (f + i) / v by omega) (by omega))
      exact ⟨has_put_same (grid_isMap f v i) k _, atKey_put_same (grid_isMap f v i) k _ z⟩
    · obtain ⟨⟨⟨b0, b1⟩, b2, b3⟩, b4⟩ := col_wf f0 f1 v0 v1 (show i ≤ 300 by omega)
      have ne : pairL ((f + i) % v) ((f + i) / v) ≠ pairL ((f + j) % v) ((f + j) / v) := by
        intro h
        obtain ⟨h1, h2⟩ := pair_inj (wfi (by omega) (by omega)) (wfi (by omega) (by omega)) (wfi (by omega) (by omega)) (wfi (by omega) (by omega)) h
        rw [h1, h2] at b4
        omega
      have ih := grid_there f0 f1 v0 v1 z j (by omega) i (by omega)
      exact ⟨(has_put_other ne _).trans ih.1, (atKey_put_other ne _ z).trans ih.2⟩
theorem grid_not {f v x y : Int} (f0 : 0 ≤ f) (f1 : f ≤ 999) (v0 : 1 ≤ v) (v1 : v ≤ 20) (hx : (Lit.int .i64 x).wf = true) (hy : (Lit.int .i64 y).wf = true) : ∀ (j : Nat), j ≤ 300 → (∀ i : Nat, i < j → ¬ ((f + i) % v = x ∧ (f + i) / v = y)) → Maps.has (gridD f v j) (pairL x y) = false
  | 0, _, _ => rfl
  | j + 1, hj, h => by
    obtain ⟨⟨⟨a0, a1⟩, a2, a3⟩, a4⟩ := col_wf f0 f1 v0 v1 (show j ≤ 300 by omega)
    have ne : pairL x y ≠ pairL ((f + j) % v) ((f + j) / v) := fun e => by
      obtain ⟨h1, h2⟩ := pair_inj hx hy (wfi (by omega) (by omega)) (wfi (by omega) (by omega)) e
      exact h j (by omega) ⟨h1.symm, h2.symm⟩
    exact (has_put_other ne _).trans (grid_not f0 f1 v0 v1 hx hy j (by omega) fun i hi => h i (by omega))
/-- The one number in a column and a row. -/
theorem col_iff {a v x y : Int} (hv : 0 < v) (x0 : 0 ≤ x) (x1 : x < v) : (a % v = x ∧ a / v = y) ↔ x + v * y = a :=
  ⟨fun h => ((Int.ediv_emod_unique hv).1 ⟨h.2, h.1⟩).1, fun h => ((Int.ediv_emod_unique hv).2 ⟨h, x0, x1⟩).symm⟩
/-- What a look at the map answers. -/
theorem look_grid {w : World} {b n : Nat} {D : DataW Unit} (h : w.ownsMap Tryd.prog 40 (plainElem Tryd.prog 3) b n D) {x y c : Int} {ok : Bool} (hx : (Lit.int .i64 x).wf = true) (hy : (Lit.int .i64 y).wf = true) (h1 : Maps.has D (pairL x y) = ok) (h2 : D.atKey (pairL x y) (.lit (.int .i64 0)) = .lit (.int .i64 c)) :
    (Instr.lookup 39 (.map (some b)) (.agg #[.int .i64 x, .int .i64 y]) true).run Tryd.prog w = .ok (.tuple #[.int .i64 c, .bool ok]) w := by
  obtain ⟨v, ps, hrun, hv⟩ := h.look_ok key_keyed map_under (int_zero w) (plainElem_int int_under (by decide)) (keyOf_pair hx hy)
  obtain ⟨c', rfl, hc, _⟩ := plainElem_int_inv int_under hv
  rw [h2] at hc
  obtain ⟨rfl, -⟩ : c = c' ∧ ps = [] := by simpa using hc
  rw [hrun, h1]
theorem look_yes {w : World} {b n : Nat} {f v a x y : Int} {j i : Nat} (h : w.ownsMap Tryd.prog 40 (plainElem Tryd.prog 3) b n (gridD f v j)) (f0 : 0 ≤ f) (f1 : f ≤ 999) (v0 : 1 ≤ v) (v1 : v ≤ 20) (hj : j ≤ 300) (hi : i < j) (ha : f + i = a) (hx : a % v = x) (hy : a / v = y) :
    (Instr.lookup 39 (.map (some b)) (.agg #[.int .i64 x, .int .i64 y]) true).run Tryd.prog w = .ok (.tuple #[.int .i64 a, .bool true]) w := by
  subst ha hx hy
  obtain ⟨⟨⟨b0, b1⟩, b2, b3⟩, b4⟩ := col_wf f0 f1 v0 v1 (show i ≤ 300 by omega)
  have t := grid_there f0 f1 v0 v1 (.lit (.int .i64 0)) j hj i hi
  exact look_grid h (wfi (by omega) (by omega)) (wfi (by omega) (by omega)) t.1 t.2
theorem look_no {w : World} {b n : Nat} {f v x y : Int} {j : Nat} (h : w.ownsMap Tryd.prog 40 (plainElem Tryd.prog 3) b n (gridD f v j)) (f0 : 0 ≤ f) (f1 : f ≤ 999) (v0 : 1 ≤ v) (v1 : v ≤ 20) (hj : j ≤ 300) (hx : (Lit.int .i64 x).wf = true) (hy : (Lit.int .i64 y).wf = true) (hn : ∀ i : Nat, i < j → ¬ ((f + i) % v = x ∧ (f + i) / v = y)) :
    (Instr.lookup 39 (.map (some b)) (.agg #[.int .i64 x, .int .i64 y]) true).run Tryd.prog w = .ok (.tuple #[.int .i64 0, .bool false]) w := by
  have t := grid_not f0 f1 v0 v1 hx hy j hj hn
  exact look_grid h hx hy t (atKey_of_not_has t _)
theorem ownsMap_only {H : Type} {P : Program} {k : TypeId} {R : Value → Option (DataW H × List MemPlace)} {w w' : World} {b n : Nat} {D : DataW H} (h : w.ownsMap P k R b n D) (o : Only [] w w') : w'.ownsMap P k R b n D :=
  h.kept (row := none) ⟨o.os, o.tape, o.output, o.size, fun k hk _ => o.block k hk (by simp)⟩ (by simp)
end Go.Proofs.YtnpfjmblgjojcaaDoor

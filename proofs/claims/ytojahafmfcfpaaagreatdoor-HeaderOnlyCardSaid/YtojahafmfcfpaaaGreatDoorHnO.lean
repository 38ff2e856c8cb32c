/- Eight numbers that come in as an argument. -/
import Derived.Test.YtojahafmfcfpaaaGreatDoorMg21
import Derived.Test.YtojahafmfcfpaaaGreatDoorHmB
namespace Go.Proofs.YtojahafmfcfpaaaGreatDoor
open Go.RowKit Go.ChangeShapes Go.WideShapes Go.ChangeAt Go.Deep
set_option linter.unusedVariables false
set_option linter.unusedSimpArgs false
set_option maxRecDepth 100000

theorem und_n8 : Tryz.prog.underlying 75 = some (.array 8 3) := by kernel_rfl
theorem cells_n8 : Tryz.prog.cellsOf 75 = 8 := by kernel_rfl
theorem len8 (l : List Value) (h : l.length = 8) : l = [l.getD 0 undef, l.getD 1 undef, l.getD 2 undef, l.getD 3 undef, l.getD 4 undef, l.getD 5 undef, l.getD 6 undef, l.getD 7 undef] := by
  match l, h with
  | [a, b, c, d, e, f, g, i], _ => rfl
theorem trod_n8 {H : Type} {enc : TypeId × Value → H} {w : World} {fuel : Nat} {cs : List Value} {x : DataW H × List MemPlace} (hf : DataW.trod enc Tryz.prog w 0 (fun _ => true) true fuel 75 cs = some x) : ∃ n : N8, cs = nL n := by
  obtain ⟨zs, m, _, _, hl, hzl, hz⟩ := DataW.trod_array und_n8 hf
  rw [cells_n8] at hl
  have each : ∀ i, i < 8 → ∃ v, cs.getD i undef = .int .i64 v := by
    intro i hi
    have h := hz i hi
    rw [hdr_cells.2.1, Nat.mul_one, drop_one i (by omega), List.getElem?_eq_getElem (by omega)] at h
    obtain ⟨v, q, _⟩ := DataW.trod_int und_int' h
    simp only [List.cons.injEq, and_true] at q
    exact ⟨v, q⟩
  obtain ⟨a, ha⟩ := each 0 (by omega)
  obtain ⟨b, hb⟩ := each 1 (by omega)
  obtain ⟨c, hc⟩ := each 2 (by omega)
  obtain ⟨d, hd⟩ := each 3 (by omega)
  obtain ⟨e, he⟩ := each 4 (by omega)
  obtain ⟨f, hf'⟩ := each 5 (by omega)
  obtain ⟨g, hg⟩ := each 6 (by omega)
  obtain ⟨i, hi⟩ := each 7 (by omega)
  refine ⟨⟨a, b, c, d, e, f, g, i⟩, ?_⟩
  rw [len8 cs hl, ha, hb, hc, hd, he, hf', hg, hi]
  rfl
theorem open_n8 {H : Type} {enc : TypeId × Value → H} {w : World} {base : Nat} {v : Value} {d : DataW H} {p : List MemPlace} (k : Value.okWide Tryz.prog w .any base 75 v) (h : DataW.Trod enc Tryz.prog w 0 (fun _ => true) true 75 v d p) : ∃ n : N8, v = nV n := by
  obtain ⟨cs, rfl⟩ : ∃ cs, v = .agg cs := by
    simp only [Value.okWide, und_n8] at k
    obtain ⟨cs, e, _⟩ := k
    exact ⟨cs, e⟩
  obtain ⟨fuel, hf⟩ := h
  obtain ⟨n, e⟩ := trod_n8 hf
  have hcs : Value.cells (.agg cs) = cs := by simp [Value.cells]
  rw [hcs] at e
  exact ⟨n, agg_of e⟩
end Go.Proofs.YtojahafmfcfpaaaGreatDoor

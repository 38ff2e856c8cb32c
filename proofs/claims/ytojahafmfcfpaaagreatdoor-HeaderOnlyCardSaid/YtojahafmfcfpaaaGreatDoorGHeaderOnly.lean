/- HeaderOnly: for any string, place, unit and numbers. -/
import Derived.Test.YtojahafmfcfpaaaGreatDoorHnD
import Derived.Test.YtojahafmfcfpaaaGreatDoorHnO
import Derived.ShutString
namespace Go.Proofs.YtojahafmfcfpaaaGreatDoor
open Go.RowKit Go.ChangeShapes Go.WideShapes Go.ChangeAt Go.Deep
open Go.ChangeMaps (open_string shut_string)
set_option linter.unusedVariables false
set_option linter.unusedSimpArgs false
set_option maxRecDepth 100000

theorem open_intN {H : Type} {enc : TypeId × Value → H} {w : World} {v : Value} {d : DataW H} {p : List MemPlace} (h : DataW.Trod enc Tryz.prog w 0 (fun _ => true) true 3 v d p) (base : Nat) (k : Value.okWide Tryz.prog w .any base 3 v) :
    ∃ n : Int, v = .int .i64 n ∧ -9223372036854775808 ≤ n ∧ n ≤ 9223372036854775807 := by
  obtain ⟨x, rfl⟩ := okWide_int und_int' k
  obtain ⟨fuel, hf⟩ := h
  simp only [Value.cells] at hf
  obtain ⟨x2, q2, _, b2⟩ := DataW.trod_int und_int' hf
  simp only [List.cons.injEq, and_true] at q2
  cases q2
  obtain ⟨a, b⟩ := bounds_i64 b2
  exact ⟨x, rfl, a, b⟩
theorem headerOnly_core {H : Type} {enc : TypeId × Value → H} (W : World) (base : Nat) (hV : Vars W)
    (v0 : Value) (d0 : DataW H) (p0 : List MemPlace) (k0 : Value.okWide Tryz.prog W .any base 9 v0) (h0 : DataW.Trod enc Tryz.prog W 0 (fun _ => true) true 9 v0 d0 p0)
    (v1 : Value) (d1 : DataW H) (p1 : List MemPlace) (k1 : Value.okWide Tryz.prog W .any base 3 v1) (h1 : DataW.Trod enc Tryz.prog W 0 (fun _ => true) true 3 v1 d1 p1)
    (v2 : Value) (d2 : DataW H) (p2 : List MemPlace) (k2 : Value.okWide Tryz.prog W .any base 31 v2) (h2 : DataW.Trod enc Tryz.prog W 0 (fun _ => true) true 31 v2 d2 p2)
    (v3 : Value) (d3 : DataW H) (p3 : List MemPlace) (k3 : Value.okWide Tryz.prog W .any base 75 v3) (h3 : DataW.Trod enc Tryz.prog W 0 (fun _ => true) true 75 v3 d3 p3) :
    Calls Tryz.prog 7 #[v0, v1, v2, v3] W fun e w' => e = .returned (.bool true) ∧ Below W.heap.size W w' := by
  obtain ⟨s, rfl, rfl, rfl, w0⟩ := open_string Tryz.underlying9 k0 h0
  obtain ⟨a, rfl, a0, a1⟩ := open_intN h1 base k1
  obtain ⟨un, rfl, ru⟩ := open_unitA k2 h2
  obtain ⟨n, rfl⟩ := open_n8 k3 h3
  exact (honly_any s a un n W hV w0 a0 a1 ru).mono fun e w' ⟨he, ho⟩ => ⟨he, ho.below (Nat.le_refl _) (by simp)⟩
end Go.Proofs.YtojahafmfcfpaaaGreatDoor

/- A unit that comes in by value; numbers that come in. -/
import Derived.Test.YtghdnefaempigaaDoorObj
import Derived.Test.YtghdnefaempigaaDoorRows
import Derived.OpenShut
import Derived.ProofKit
import Derived.Deep.Slices
import Derived.Deep.Fields
import Derived.ChangeSame
namespace Go.Proofs.YtghdnefaempigaaDoor
open Go.RowKit Go.ChangeShapes Go.WideShapes Go.ChangeAt Go.Deep
set_option linter.unusedVariables false

theorem und_u8u : Tryd.prog.underlying 5 = some (.int .u8) := by kernel_rfl
theorem und_stru : Tryd.prog.underlying 9 = some .string := by kernel_rfl
theorem unit_cells : Tryd.prog.cellsOf 27 = 3 := by kernel_rfl
theorem bounds_u8u {k : Int} (h : (Lit.int .u8 k).wf = true) : 0 ≤ k ∧ k ≤ 255 := by
  simpa [Lit.wf, IntKind.min, IntKind.max, IntKind.signed, IntKind.bits] using h
theorem unit_fields : ∃ fs : Array Field, Tryd.prog.underlying 27 = some (.struct fs) ∧ oneCellFields Tryd.prog fs = true ∧ fs.size = 3 ∧ fs.map (·.type) = #[5, 5, 9] := by
  refine ⟨_, Tryd.underlying27, by kernel_rfl, by kernel_rfl, by kernel_rfl⟩
theorem field_at {fs : Array Field} {ts : Array TypeId} (h : fs.map (·.type) = ts) (j : Nat) (t : TypeId) (hj : ts[j]? = some t) : ∃ f, fs[j]? = some f ∧ f.type = t := by
  rw [← h, Array.getElem?_map] at hj
  obtain ⟨f, h1, h2⟩ := Option.map_eq_some_iff.1 hj
  exact ⟨f, h1, h2⟩
theorem open_unit {H : Type} {enc : TypeId × Value → H} {w : World} {base : Nat} {v : Value} {d : DataW H} {p : List MemPlace} (k : Value.okWide Tryd.prog w .any base 27 v) (h : DataW.Trod enc Tryd.prog w 0 (fun _ => true) true 27 v d p) :
    ∃ (x y : Int) (s : ByteArray), v = .agg #[.int .u8 x, .int .u8 y, .string s] ∧ (0 ≤ x ∧ x ≤ 255) ∧ (0 ≤ y ∧ y ≤ 255) ∧ s.size ≤ maxLen := by
  obtain ⟨fuel, hf⟩ := h
  obtain ⟨fs, und, one, size, types⟩ := unit_fields
  obtain ⟨cs, rfl, hsz⟩ := okWide_struct und k
  rw [unit_cells] at hsz
  obtain ⟨xs, n, _, _, _, hxl, hfield⟩ := DataW.trod_struct und hf
  have hcs : Value.cells (.agg cs) = cs := by simp [Value.cells]
  rw [hcs] at hfield
  have each : ∀ (j : Nat) (f : Field), fs[j]? = some f → ∃ y, DataW.trod enc Tryd.prog w 0 (fun _ => true) true n f.type [cs.toList.getD j undef] = some y := by
    intro j f hj
    have hjs : j < fs.size := (Array.getElem?_eq_some_iff.1 hj).1
    have hjc : j < cs.toList.length := by simp; omega
    have one := hone_of one j f hj
    have hr := hfield j f hj
    rw [one.1, one.2, List.drop_eq_getElem_cons hjc, List.take_succ_cons, List.take_zero, List.getElem?_eq_getElem (by omega : j < xs.length)] at hr
    exact ⟨_, by rw [List.getD_eq_getElem?_getD, List.getElem?_eq_getElem hjc, Option.getD_some]; exact hr⟩
  obtain ⟨f0, e0, t0⟩ := field_at types 0 5 rfl
  obtain ⟨f1, e1, t1⟩ := field_at types 1 5 rfl
  obtain ⟨f2, e2, t2⟩ := field_at types 2 9 rfl
  obtain ⟨y0, r0⟩ := each 0 f0 e0
  obtain ⟨y1, r1⟩ := each 1 f1 e1
  obtain ⟨y2, r2⟩ := each 2 f2 e2
  rw [t0] at r0; rw [t1] at r1; rw [t2] at r2
  obtain ⟨x0, q0, _, b0⟩ := DataW.trod_int und_u8u r0
  obtain ⟨x1, q1, _, b1⟩ := DataW.trod_int und_u8u r1
  obtain ⟨s2, q2, _, b2⟩ := DataW.trod_string und_stru r2
  simp only [List.cons.injEq, and_true] at q0 q1 q2
  refine ⟨x0, x1, s2, ?_, bounds_u8u b0, bounds_u8u b1, b2⟩
  congr 1
  apply Array.ext
  · simpa using hsz
  · intro i h1 h2
    have h4 : i < 3 := by simpa using h2
    have g : cs.toList.getD i undef = cs[i] := by simp [List.getD_eq_getElem?_getD, h1]
    rw [← g]
    obtain rfl | rfl | rfl : i = 0 ∨ i = 1 ∨ i = 2 := by omega
    · rw [q0]; rfl
    · rw [q1]; rfl
    · rw [q2]; rfl
end Go.Proofs.YtghdnefaempigaaDoor

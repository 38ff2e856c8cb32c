/- A call that comes in by value. -/
import Derived.Test.YtgfcooaobfpdiaaCalls4
namespace Go.Proofs.Ytgfcooaobfpdiaa
open Go.RowKit Go.ChangeShapes Go.WideShapes Go.ChangeAt Go.Deep
set_option linter.unusedVariables false

theorem open_call {H : Type} {enc : TypeId × Value → H} {w : World} {base : Nat} {v : Value} {d : DataW H} {p : List MemPlace} (k : Value.okWide Try.prog w .any base 31 v) (h : DataW.Trod enc Try.prog w 0 (fun _ => true) true 31 v d p) :
    ∃ x : Int × Int × Int × Int, v = .agg #[.int .u8 x.1, .int .u64 x.2.1, .int .i64 x.2.2.1, .int .u64 x.2.2.2] ∧ CallOk x := by
  obtain ⟨fuel, hf⟩ := h
  obtain ⟨fs, und_call, call_one, call_size, call_types⟩ := call_fields
  obtain ⟨cs, rfl, hsz⟩ := okWide_struct und_call k
  rw [call_cells] at hsz
  obtain ⟨xs, n, _, _, _, hxl, hfield⟩ := DataW.trod_struct und_call hf
  have hcs : Value.cells (.agg cs) = cs := by simp [Value.cells]
  rw [hcs] at hfield
  have each : ∀ (j : Nat) (f : Field), fs[j]? = some f → ∃ y, DataW.trod enc Try.prog w 0 (fun _ => true) true n f.type [cs.toList.getD j undef] = some y := by
    intro j f hj
    have hjs : j < fs.size := (Array.getElem?_eq_some_iff.1 hj).1
    have hjc : j < cs.toList.length := by simp; omega
    have one := hone_of call_one j f hj
    have hr := hfield j f hj
    rw [one.1, one.2, List.drop_eq_getElem_cons hjc, List.take_succ_cons, List.take_zero, List.getElem?_eq_getElem (by omega : j < xs.length)] at hr
    exact ⟨_, by rw [List.getD_eq_getElem?_getD, List.getElem?_eq_getElem hjc, Option.getD_some]; exact hr⟩
  obtain ⟨f0, e0, t0⟩ := field_of call_types 0 5 rfl
  obtain ⟨f1, e1, t1⟩ := field_of call_types 1 28 rfl
  obtain ⟨f2, e2, t2⟩ := field_of call_types 2 3 rfl
  obtain ⟨f3, e3, t3⟩ := field_of call_types 3 28 rfl
  obtain ⟨y0, r0⟩ := each 0 f0 e0
  obtain ⟨y1, r1⟩ := each 1 f1 e1
  obtain ⟨y2, r2⟩ := each 2 f2 e2
  obtain ⟨y3, r3⟩ := each 3 f3 e3
  rw [t0] at r0; rw [t1] at r1; rw [t2] at r2; rw [t3] at r3
  obtain ⟨x0, q0, _, b0⟩ := DataW.trod_int und_u8' r0
  obtain ⟨x1, q1, _, b1⟩ := DataW.trod_int und_u64 r1
  obtain ⟨x2, q2, _, b2⟩ := DataW.trod_int und_int' r2
  obtain ⟨x3, q3, _, b3⟩ := DataW.trod_int und_u64 r3
  simp only [List.cons.injEq, and_true] at q0 q1 q2 q3
  refine ⟨(x0, x1, x2, x3), ?_, bounds_u8 b0, bounds_u64 b1, bounds_i64 b2, bounds_u64 b3⟩
  congr 1
  apply Array.ext
  · simpa using hsz
  · intro i h1 h2
    have h4 : i < 4 := by simpa using h2
    have g : cs.toList.getD i undef = cs[i] := by simp [List.getD_eq_getElem?_getD, h1]
    rw [← g]
    obtain rfl | rfl | rfl | rfl : i = 0 ∨ i = 1 ∨ i = 2 ∨ i = 3 := by omega
    · rw [q0]; rfl
    · rw [q1]; rfl
    · rw [q2]; rfl
    · rw [q3]; rfl
end Go.Proofs.Ytgfcooaobfpdiaa

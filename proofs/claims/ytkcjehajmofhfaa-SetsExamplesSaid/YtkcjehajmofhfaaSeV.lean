/- Parameter sets that come in by value; slices of puts as rows. -/
import Derived.Test.YtkcjehajmofhfaaSeA
import Derived.Test.YtkcjehajmofhfaaRow
namespace Go.Proofs.Ytkcjehajmofhfaa
open Go.RowKit Go.ChangeShapes Go.WideShapes Go.ChangeAt Go.Deep
set_option linter.unusedVariables false

theorem und_u8 : Try.prog.underlying 5 = some (.int .u8) := by kernel_rfl
theorem sps_fields : ∃ fs, Try.prog.underlying 28 = some (.struct fs) ∧ oneCellFields Try.prog fs = true ∧ fs.size = 9 ∧ fs.map (·.type) = #[5, 5, 5, 3, 3, 3, 3, 3, 3] :=
  ⟨_, Try.underlying28, by kernel_rfl, by kernel_rfl, by kernel_rfl⟩
theorem sps_cells : Try.prog.cellsOf 28 = 9 := by kernel_rfl
theorem open_sps {H : Type} {enc : TypeId × Value → H} {w : World} {base : Nat} {v : Value} {d : DataW H} {p : List MemPlace} (k : Value.okWide Try.prog w .any base 28 v) (h : DataW.Trod enc Try.prog w 0 (fun _ => true) true 28 v d p) : ∃ x : SV, v = sV x := by
  obtain ⟨fuel, hf⟩ := h
  obtain ⟨fs, und, one, size, types⟩ := sps_fields
  obtain ⟨cs, rfl, hsz⟩ := okWide_struct und k
  rw [sps_cells] at hsz
  obtain ⟨xs, n, _, _, _, hxl, hfield⟩ := DataW.trod_struct und hf
  have hcs : Value.cells (.agg cs) = cs := by simp [Value.cells]
  rw [hcs] at hfield
  have each : ∀ (j : Nat) (f : Field), fs[j]? = some f → ∃ y, DataW.trod enc Try.prog w 0 (fun _ => true) true n f.type [cs.toList.getD j undef] = some y := by
    intro j f hj
    have hjs : j < fs.size := (Array.getElem?_eq_some_iff.1 hj).1
    have hjc : j < cs.toList.length := by simp; omega
    have one := hone_of one j f hj
    have hr := hfield j f hj
    rw [one.1, one.2, List.drop_eq_getElem_cons hjc, List.take_succ_cons, List.take_zero, List.getElem?_eq_getElem (by omega : j < xs.length)] at hr
    exact ⟨_, by rw [List.getD_eq_getElem?_getD, List.getElem?_eq_getElem hjc, Option.getD_some]; exact hr⟩
  obtain ⟨f0, e0, t0⟩ := field_of types 0 5 rfl
  obtain ⟨y0, r0⟩ := each 0 f0 e0
  rw [t0] at r0
  obtain ⟨x0, q0, _⟩ := DataW.trod_int und_u8 r0
  obtain ⟨f1, e1, t1⟩ := field_of types 1 5 rfl
  obtain ⟨y1, r1⟩ := each 1 f1 e1
  rw [t1] at r1
  obtain ⟨x1, q1, _⟩ := DataW.trod_int und_u8 r1
  obtain ⟨f2, e2, t2⟩ := field_of types 2 5 rfl
  obtain ⟨y2, r2⟩ := each 2 f2 e2
  rw [t2] at r2
  obtain ⟨x2, q2, _⟩ := DataW.trod_int und_u8 r2
  obtain ⟨f3, e3, t3⟩ := field_of types 3 3 rfl
  obtain ⟨y3, r3⟩ := each 3 f3 e3
  rw [t3] at r3
  obtain ⟨x3, q3, _⟩ := DataW.trod_int und_int r3
  obtain ⟨f4, e4, t4⟩ := field_of types 4 3 rfl
  obtain ⟨y4, r4⟩ := each 4 f4 e4
  rw [t4] at r4
  obtain ⟨x4, q4, _⟩ := DataW.trod_int und_int r4
  obtain ⟨f5, e5, t5⟩ := field_of types 5 3 rfl
  obtain ⟨y5, r5⟩ := each 5 f5 e5
  rw [t5] at r5
  obtain ⟨x5, q5, _⟩ := DataW.trod_int und_int r5
  obtain ⟨f6, e6, t6⟩ := field_of types 6 3 rfl
  obtain ⟨y6, r6⟩ := each 6 f6 e6
  rw [t6] at r6
  obtain ⟨x6, q6, _⟩ := DataW.trod_int und_int r6
  obtain ⟨f7, e7, t7⟩ := field_of types 7 3 rfl
  obtain ⟨y7, r7⟩ := each 7 f7 e7
  rw [t7] at r7
  obtain ⟨x7, q7, _⟩ := DataW.trod_int und_int r7
  obtain ⟨f8, e8, t8⟩ := field_of types 8 3 rfl
  obtain ⟨y8, r8⟩ := each 8 f8 e8
  rw [t8] at r8
  obtain ⟨x8, q8, _⟩ := DataW.trod_int und_int r8
  simp only [List.cons.injEq, and_true] at q0 q1 q2 q3 q4 q5 q6 q7 q8
  refine ⟨⟨x0, x1, x2, x3, x4, x5, x6, x7, x8⟩, ?_⟩
  congr 1
  apply Array.ext
  · simpa using hsz
  · intro i h1 h2
    have h4 : i < 9 := by simpa using h2
    have g : cs.toList.getD i undef = cs[i] := by simp [List.getD_eq_getElem?_getD, h1]
    rw [← g]
    obtain rfl | rfl | rfl | rfl | rfl | rfl | rfl | rfl | rfl : i = 0 ∨ i = 1 ∨ i = 2 ∨ i = 3 ∨ i = 4 ∨ i = 5 ∨ i = 6 ∨ i = 7 ∨ i = 8 := by omega
    · rw [q0]; rfl
    · rw [q1]; rfl
    · rw [q2]; rfl
    · rw [q3]; rfl
    · rw [q4]; rfl
    · rw [q5]; rfl
    · rw [q6]; rfl
    · rw [q7]; rfl
    · rw [q8]; rfl
theorem pps_fields : ∃ fs, Try.prog.underlying 30 = some (.struct fs) ∧ oneCellFields Try.prog fs = true ∧ fs.size = 10 ∧ fs.map (·.type) = #[3, 3, 4, 3, 3, 3, 3, 3, 4, 4] :=
  ⟨_, Try.underlying30, by kernel_rfl, by kernel_rfl, by kernel_rfl⟩
theorem pps_cells : Try.prog.cellsOf 30 = 10 := by kernel_rfl
theorem open_pps {H : Type} {enc : TypeId × Value → H} {w : World} {base : Nat} {v : Value} {d : DataW H} {p : List MemPlace} (k : Value.okWide Try.prog w .any base 30 v) (h : DataW.Trod enc Try.prog w 0 (fun _ => true) true 30 v d p) : ∃ x : PV, v = pV x := by
  obtain ⟨fuel, hf⟩ := h
  obtain ⟨fs, und, one, size, types⟩ := pps_fields
  obtain ⟨cs, rfl, hsz⟩ := okWide_struct und k
  rw [pps_cells] at hsz
  obtain ⟨xs, n, _, _, _, hxl, hfield⟩ := DataW.trod_struct und hf
  have hcs : Value.cells (.agg cs) = cs := by simp [Value.cells]
  rw [hcs] at hfield
  have each : ∀ (j : Nat) (f : Field), fs[j]? = some f → ∃ y, DataW.trod enc Try.prog w 0 (fun _ => true) true n f.type [cs.toList.getD j undef] = some y := by
    intro j f hj
    have hjs : j < fs.size := (Array.getElem?_eq_some_iff.1 hj).1
    have hjc : j < cs.toList.length := by simp; omega
    have one := hone_of one j f hj
    have hr := hfield j f hj
    rw [one.1, one.2, List.drop_eq_getElem_cons hjc, List.take_succ_cons, List.take_zero, List.getElem?_eq_getElem (by omega : j < xs.length)] at hr
    exact ⟨_, by rw [List.getD_eq_getElem?_getD, List.getElem?_eq_getElem hjc, Option.getD_some]; exact hr⟩
  obtain ⟨f0, e0, t0⟩ := field_of types 0 3 rfl
  obtain ⟨y0, r0⟩ := each 0 f0 e0
  rw [t0] at r0
  obtain ⟨x0, q0, _⟩ := DataW.trod_int und_int r0
  obtain ⟨f1, e1, t1⟩ := field_of types 1 3 rfl
  obtain ⟨y1, r1⟩ := each 1 f1 e1
  rw [t1] at r1
  obtain ⟨x1, q1, _⟩ := DataW.trod_int und_int r1
  obtain ⟨f2, e2, t2⟩ := field_of types 2 4 rfl
  obtain ⟨y2, r2⟩ := each 2 f2 e2
  rw [t2] at r2
  obtain ⟨x2, q2, _⟩ := DataW.trod_bool und_bool' r2
  obtain ⟨f3, e3, t3⟩ := field_of types 3 3 rfl
  obtain ⟨y3, r3⟩ := each 3 f3 e3
  rw [t3] at r3
  obtain ⟨x3, q3, _⟩ := DataW.trod_int und_int r3
  obtain ⟨f4, e4, t4⟩ := field_of types 4 3 rfl
  obtain ⟨y4, r4⟩ := each 4 f4 e4
  rw [t4] at r4
  obtain ⟨x4, q4, _⟩ := DataW.trod_int und_int r4
  obtain ⟨f5, e5, t5⟩ := field_of types 5 3 rfl
  obtain ⟨y5, r5⟩ := each 5 f5 e5
  rw [t5] at r5
  obtain ⟨x5, q5, _⟩ := DataW.trod_int und_int r5
  obtain ⟨f6, e6, t6⟩ := field_of types 6 3 rfl
  obtain ⟨y6, r6⟩ := each 6 f6 e6
  rw [t6] at r6
  obtain ⟨x6, q6, _⟩ := DataW.trod_int und_int r6
  obtain ⟨f7, e7, t7⟩ := field_of types 7 3 rfl
  obtain ⟨y7, r7⟩ := each 7 f7 e7
  rw [t7] at r7
  obtain ⟨x7, q7, _⟩ := DataW.trod_int und_int r7
  obtain ⟨f8, e8, t8⟩ := field_of types 8 4 rfl
  obtain ⟨y8, r8⟩ := each 8 f8 e8
  rw [t8] at r8
  obtain ⟨x8, q8, _⟩ := DataW.trod_bool und_bool' r8
  obtain ⟨f9, e9, t9⟩ := field_of types 9 4 rfl
  obtain ⟨y9, r9⟩ := each 9 f9 e9
  rw [t9] at r9
  obtain ⟨x9, q9, _⟩ := DataW.trod_bool und_bool' r9
  simp only [List.cons.injEq, and_true] at q0 q1 q2 q3 q4 q5 q6 q7 q8 q9
  refine ⟨⟨x0, x1, x2, x3, x4, x5, x6, x7, x8, x9⟩, ?_⟩
  congr 1
  apply Array.ext
  · simpa using hsz
  · intro i h1 h2
    have h4 : i < 10 := by simpa using h2
    have g : cs.toList.getD i undef = cs[i] := by simp [List.getD_eq_getElem?_getD, h1]
    rw [← g]
    obtain rfl | rfl | rfl | rfl | rfl | rfl | rfl | rfl | rfl | rfl : i = 0 ∨ i = 1 ∨ i = 2 ∨ i = 3 ∨ i = 4 ∨ i = 5 ∨ i = 6 ∨ i = 7 ∨ i = 8 ∨ i = 9 := by omega
    · rw [q0]; rfl
    · rw [q1]; rfl
    · rw [q2]; rfl
    · rw [q3]; rfl
    · rw [q4]; rfl
    · rw [q5]; rfl
    · rw [q6]; rfl
    · rw [q7]; rfl
    · rw [q8]; rfl
    · rw [q9]; rfl
/-- The cells of a put. -/
def uC (x : Bool × Int × Int) : List Value := [.bool x.1, .int .i64 x.2.1, .int .i64 x.2.2]
theorem uC_ok : CellsN uC 3 := ⟨fun _ => rfl, fun x u h => by simp [uC] at h; rcases h with h | h | h <;> (subst h; rfl), by omega⟩
theorem put_row : RowType Try.prog 43 49 (.agg #[.bool false, .int .i64 0, .int .i64 0]) 3 24 := ⟨by kernel_rfl, by kernel_rfl, rfl, by omega⟩
theorem UAt.cells {w : World} {b o : Nat} {x : Bool × Int × Int} (h : UAt w b o x) : CellsAt uC w b o x := by
  intro k v hk
  have hl : k < 3 := by have := (List.getElem?_eq_some_iff.1 hk).1; simpa [uC] using this
  obtain rfl | rfl | rfl : k = 0 ∨ k = 1 ∨ k = 2 := by omega
  · simp [uC] at hk; subst hk; exact h.c0
  · simp [uC] at hk; subst hk; exact h.c1
  · simp [uC] at hk; subst hk; exact h.c2
theorem CellsAt.put {w : World} {b o : Nat} {x : Bool × Int × Int} (h : CellsAt uC w b o x) : UAt w b o x := ⟨h 0 _ rfl, h 1 _ rfl, h 2 _ rfl⟩
theorem HoldsU.g {w : World} {sv : Value} {l : List (Bool × Int × Int)} (h : HoldsU w sv l) : HoldsG uC 3 w sv l := by
  obtain ⟨a, c, e, h1, h2, h3⟩ := h
  exact ⟨a, c, e, h1, h2, h3.imp id (fun ⟨b, o, e, hc⟩ => ⟨b, o, e, fun j x hj => (hc j x hj).cells⟩)⟩
theorem HoldsG.u {w : World} {sv : Value} {l : List (Bool × Int × Int)} (h : HoldsG uC 3 w sv l) : HoldsU w sv l := by
  obtain ⟨a, c, e, h1, h2, h3⟩ := h
  exact ⟨a, c, e, h1, h2, h3.imp id (fun ⟨b, o, e, hc⟩ => ⟨b, o, e, fun j x hj => (hc j x hj).put⟩)⟩
end Go.Proofs.Ytkcjehajmofhfaa

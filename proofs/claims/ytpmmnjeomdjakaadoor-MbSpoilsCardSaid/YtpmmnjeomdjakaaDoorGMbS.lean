/- MbSpoils, for whatever comes in. -/
import Derived.Test.YtpmmnjeomdjakaaDoorMmb6
import Derived.Test.YtpmmnjeomdjakaaDoorMgK
import Derived.ProofKit
import Derived.OpenShut
import Derived.ChangeSame
import Derived.Deep.Slices
import Derived.Deep.Fields
import Derived.Below
namespace Go.Proofs.YtpmmnjeomdjakaaDoor
open Go.RowKit Go.ChangeShapes Go.WideShapes Go.ChangeAt Go.Deep
set_option linter.unusedVariables false

theorem spoil_fields : ∃ fs, Tryd.prog.underlying 43 = some (.struct fs) ∧ oneCellFields Tryd.prog fs = true ∧ fs.size = 3 ∧ fs.map (·.type) = #[3, 3, 3] :=
  ⟨_, Tryd.underlying43, by kernel_rfl, by kernel_rfl, by kernel_rfl⟩
theorem spoil_cells : Tryd.prog.cellsOf 43 = 3 := by kernel_rfl
theorem open_spoil {H : Type} {enc : TypeId × Value → H} {w : World} {base : Nat} {v : Value} {d : DataW H} {p : List MemPlace} (k : Value.okWide Tryd.prog w .any base 43 v) (h : DataW.Trod enc Tryd.prog w 0 (fun _ => true) true 43 v d p) :
    ∃ a b c : Int, v = .agg #[.int .i64 a, .int .i64 b, .int .i64 c] ∧ -9223372036854775808 ≤ c ∧ c ≤ 9223372036854775807 := by
  obtain ⟨fuel, hf⟩ := h
  obtain ⟨fs, und, one, size, types⟩ := spoil_fields
  obtain ⟨cs, rfl, hsz⟩ := okWide_struct und k
  rw [spoil_cells] at hsz
  obtain ⟨xs, n, _, _, _, hxl, hfield⟩ := DataW.trod_struct und hf
  have hcs : Value.cells (.agg cs) = cs := by simp [Value.cells]
  rw [hcs] at hfield
  have each : ∀ (j : Nat) (f : Field), fs[j]? = some f → ∃ y, DataW.trod enc Tryd.prog w 0 (fun _ => true) true n f.type [cs.toList.getD j undef] = some y := by
    intro j f hj
    have hjs : j < fs.size := (Array.getElem?_eq_some_iff.1 hj).1
    have hjc : j < cs.toList.length := by simp; omega
    have ho := hone_of one j f hj
    have hr := hfield j f hj
    rw [ho.1, ho.2, List.drop_eq_getElem_cons hjc, List.take_succ_cons, List.take_zero, List.getElem?_eq_getElem (by omega : j < xs.length)] at hr
    exact ⟨_, by rw [List.getD_eq_getElem?_getD, List.getElem?_eq_getElem hjc, Option.getD_some]; exact hr⟩
  obtain ⟨f0, e0, t0⟩ := field_ofM types 0 3 rfl
  obtain ⟨f1, e1, t1⟩ := field_ofM types 1 3 rfl
  obtain ⟨f2, e2, t2⟩ := field_ofM types 2 3 rfl
  obtain ⟨y0, r0⟩ := each 0 f0 e0
  obtain ⟨y1, r1⟩ := each 1 f1 e1
  obtain ⟨y2, r2⟩ := each 2 f2 e2
  rw [t0] at r0; rw [t1] at r1; rw [t2] at r2
  obtain ⟨x0, q0, _, b0⟩ := DataW.trod_int und_intv r0
  obtain ⟨x1, q1, _, b1⟩ := DataW.trod_int und_intv r1
  obtain ⟨x2, q2, _, b2⟩ := DataW.trod_int und_intv r2
  simp only [List.cons.injEq, and_true] at q0 q1 q2
  refine ⟨x0, x1, x2, ?_, bounds_i64v b2⟩
  congr 1
  apply Array.ext
  · simpa using hsz
  · intro i h1 h2
    have h4 : i < 3 := by simpa using h2
    have g : cs.toList.getD i undef = cs[i] := by simp [List.getD_eq_getElem?_getD, h1]
    rw [← g]
    obtain rfl | rfl | rfl : i = 0 ∨ i = 1 ∨ i = 2 := by omega
    · rw [q0]; rfl
    · rw [q1]; rfl
    · rw [q2]; rfl

theorem mbSpoils_core {H : Type} {enc : TypeId × Value → H} (W : World) (base : Nat) (hV : MbV W)
    (v0 : Value) (d0 : DataW H) (p0 : List MemPlace) (k0 : Value.okWide Tryd.prog W .any base 5 v0) (h0 : DataW.Trod enc Tryd.prog W 0 (fun _ => true) true 5 v0 d0 p0)
    (v1 : Value) (d1 : DataW H) (p1 : List MemPlace) (k1 : Value.okWide Tryd.prog W .any base 5 v1) (h1 : DataW.Trod enc Tryd.prog W 0 (fun _ => true) true 5 v1 d1 p1)
    (v2 : Value) (d2 : DataW H) (p2 : List MemPlace) (k2 : Value.okWide Tryd.prog W .any base 43 v2) (h2 : DataW.Trod enc Tryd.prog W 0 (fun _ => true) true 43 v2 d2 p2) :
    Calls Tryd.prog 6 #[v0, v1, v2] W fun e w' => e = .returned (.bool true) ∧ Below W.heap.size W w' := by
  obtain ⟨a, rfl, rfl, rfl, w1⟩ := open_int und_u8v k0 h0
  obtain ⟨b, rfl, rfl, rfl, w2⟩ := open_int und_u8v k1 h1
  obtain ⟨x, y, z, rfl, z0, z1⟩ := open_spoil k2 h2
  have a' := bounds_u8v w1
  have b' := bounds_u8v w2
  exact (mbspoils_any a b x y z W hV a'.1 a'.2 b'.1 b'.2 z0 z1).mono fun e w' ⟨he, ho⟩ => ⟨he, ho.below (Nat.le_refl _) (by simp)⟩
end Go.Proofs.YtpmmnjeomdjakaaDoor

/- MarksChecks: for any list and any number. -/
import Derived.Test.YtdkmeldcpamnnaaDoorGChecksW
import Derived.Test.YtdkmeldcpamnnaaDoorArgM
namespace Go.Proofs.YtdkmeldcpamnnaaDoor
open Go.RowKit Go.ChangeShapes Go.WideShapes Go.ChangeAt

set_option maxRecDepth 100000 in
theorem open_intM {H : Type} {enc : TypeId × Value → H} {w : World} {v : Value} {d : DataW H} {p : List MemPlace} (h : DataW.Trod enc Tryd.prog w 0 (fun _ => true) true 3 v d p) (base : Nat) (k : Value.okWide Tryd.prog w .any base 3 v) :
    ∃ n : Int, v = .int .i64 n ∧ -9223372036854775808 ≤ n ∧ n ≤ 9223372036854775807 := by
  obtain ⟨x, rfl⟩ := okWide_int und_int' k
  obtain ⟨fuel, hf⟩ := h
  simp only [Value.cells] at hf
  obtain ⟨x2, q2, _, b2⟩ := DataW.trod_int und_int' hf
  simp only [List.cons.injEq, and_true] at q2
  cases q2
  obtain ⟨a, b⟩ := bounds_i64 b2
  exact ⟨x, rfl, a, b⟩
set_option maxRecDepth 100000 in
theorem marksChecks_core {H : Type} {enc : TypeId × Value → H} (W : World) (base : Nat) (hV : Vars W)
    (v0 : Value) (d0 : DataW H) (p0 : List MemPlace) (k0 : Value.okWide Tryd.prog W .any base 22 v0) (h0 : DataW.Trod enc Tryd.prog W 0 (fun _ => true) true 22 v0 d0 p0)
    (v1 : Value) (d1 : DataW H) (p1 : List MemPlace) (k1 : Value.okWide Tryd.prog W .any base 3 v1) (h1 : DataW.Trod enc Tryd.prog W 0 (fun _ => true) true 3 v1 d1 p1) :
    Calls Tryd.prog 3 #[v0, v1] W fun e w' => e = .returned (.bool true) ∧ Below W.heap.size W w' := by
  obtain ⟨l, hl, ho⟩ := open_mods k0 h0
  obtain ⟨n, rfl, n0, n1⟩ := open_intM h1 base k1
  exact (mchecks_any v0 l n W hV hl ho n0 n1).mono fun e w' ⟨he, ho⟩ => ⟨he, ho.below (Nat.le_refl _) (by simp)⟩
end Go.Proofs.YtdkmeldcpamnnaaDoor

/- An argument that is a slice of strings. -/
import Derived.Test.YtfigmjlnjaihnaaSs
import Derived.OpenShut
import Derived.ProofKit
import Derived.SliceStrings
import Derived.ChangeSame
namespace Go.Proofs.Ytfigmjlnjaihnaa
open Go.RowKit Go.ChangeShapes Go.WideShapes Go.ChangeAt
set_option linter.unusedVariables false

theorem cells_str : Try.prog.cellsOf 9 = 1 := by kernel_rfl
theorem open_strsl {H : Type} {enc : TypeId × Value → H} {w : World} {base : Nat} {v : Value} {d : DataW H} {p : List MemPlace} (k : Value.okWide Try.prog w .any base 23 v) (h : DataW.Trod enc Try.prog w 0 (fun _ => true) true 23 v d p) :
    ∃ l, Holds w v l ∧ l.length ≤ maxLen ∧ ∀ (j : Nat) (u : ByteArray), l[j]? = some u → u.size ≤ maxLen := by
  obtain ⟨a, len, cap, rfl⟩ := okWide_slice und_strs k
  obtain ⟨fuel, hf⟩ := h
  rcases open_strings und_strs und_str cells_str hf with ⟨hcs, _⟩ | ⟨a', l', c', ss, hcs, _, hl, hm, hz, _, hcell, hsz⟩
  · simp [Value.cells] at hcs
    obtain ⟨rfl, rfl, rfl⟩ := hcs
    exact ⟨[], ⟨none, 0, rfl, fun j x hj => by simp at hj⟩, by simp, fun j u hj => by simp at hj⟩
  · simp [Value.cells] at hcs
    obtain ⟨rfl, rfl, rfl⟩ := hcs
    have hlen : len ≤ ss.length := by rw [hz]; split <;> omega
    have ln : (ss.take len).length = len := by rw [List.length_take]; omega
    refine ⟨ss.take len, ⟨some a', cap, by rw [ln], fun j x hj => ⟨a', rfl, ?_⟩⟩, by rw [ln]; omega, fun j u hj => ?_⟩
    · obtain ⟨hj1, hj2⟩ := List.getElem?_eq_some_iff.1 hj
      rw [ln] at hj1
      rw [hcell j (by omega)]
      rw [← hj2, List.getElem_take, List.getD_eq_getElem?_getD, List.getElem?_eq_getElem (by omega)]
      rfl
    · exact hsz u (List.mem_of_mem_take (List.mem_of_getElem? hj))
end Go.Proofs.Ytfigmjlnjaihnaa

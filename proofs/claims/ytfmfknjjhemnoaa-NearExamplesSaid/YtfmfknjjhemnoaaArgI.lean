/- An argument that is a slice of numbers: what is known of its cells. -/
import Derived.Test.YtfmfknjjhemnoaaIs
import Derived.OpenShut
import Derived.ProofKit
import Derived.Deep.Slices
import Derived.Deep.Fields
import Derived.ChangeSlices
import Derived.ChangeSame
namespace Go.Proofs.Ytfmfknjjhemnoaa
open Go.RowKit Go.ChangeShapes Go.WideShapes Go.ChangeAt Go.Deep
set_option linter.unusedVariables false

theorem ints_of_trod {H : Type} {enc : TypeId × Value → H} {P : Program} {w : World} {base : Nat} {held : Bool} {t e : TypeId} {q : IntKind} {fuel : Nat} {v : Value} {x : DataW H × List MemPlace} (ht : P.underlying t = some (.slice e)) (he : P.underlying e = some (.int q)) (hc : P.cellsOf e = 1)
    (h : DataW.trod enc P w base (fun _ => true) held fuel t [v] = some x) : ∃ l, HoldsI q w v l ∧ l.length ≤ maxLen ∧ ∀ y ∈ l, (Lit.int q y).wf = true := by
  rcases Go.ChangeShapes.open_ints ht he hc h with ⟨hcs, _⟩ | ⟨a, len, cap, zs, hcs, _, hl, hm, hz, _, hcell, hwf⟩
  · obtain rfl : v = .slice none 0 0 := by simpa using hcs
    exact ⟨[], holdsI_none q w, by simp, by simp⟩
  · obtain rfl : v = .slice (some a) len cap := by simpa using hcs
    simp only [if_true] at hz
    have lt : (zs.take len).length = len := by rw [List.length_take]; omega
    obtain ⟨b, o, spot⟩ := a
    by_cases h0 : len = 0
    · subst h0
      exact ⟨[], ⟨_, cap, rfl, by simp, hm, .inl rfl⟩, by simp, by simp⟩
    · obtain rfl : spot = none := by
        have := World.cell?_spot (hcell 0 (by omega))
        simpa [Addr.add] using this
      refine ⟨zs.take len, ⟨_, cap, by rw [lt], by omega, hm, .inr ⟨b, o, rfl, fun j y hj => ?_⟩⟩, by omega, fun y hy => hwf y (List.mem_of_mem_take hy)⟩
      obtain ⟨hlt, hv⟩ := List.getElem?_eq_some_iff.1 hj
      have h1 := hcell j (by omega)
      rw [addI] at h1
      rw [h1, ← hv]
      simp [List.getElem_take, List.getD_eq_getElem?_getD, List.getElem?_eq_getElem (show j < zs.length by omega)]
/-- A slice of numbers that came in. -/
theorem open_intsI {H : Type} {enc : TypeId × Value → H} {P : Program} {w : World} {base : Nat} {t e : TypeId} {q : IntKind} {v : Value} {d : DataW H} {p : List MemPlace} (ht : P.underlying t = some (.slice e)) (he : P.underlying e = some (.int q)) (hc : P.cellsOf e = 1)
    (k : Value.okWide P w .any base t v) (h : DataW.Trod enc P w 0 (fun _ => true) true t v d p) : ∃ l, HoldsI q w v l ∧ l.length ≤ maxLen ∧ ∀ y ∈ l, (Lit.int q y).wf = true := by
  obtain ⟨a, len, cap, rfl⟩ := okWide_slice ht k
  obtain ⟨fuel, hf⟩ := h
  exact ints_of_trod ht he hc hf
end Go.Proofs.Ytfmfknjjhemnoaa

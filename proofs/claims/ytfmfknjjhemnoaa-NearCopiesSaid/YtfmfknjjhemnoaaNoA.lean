/- Macroblocks that come in as an argument: a slice of them. -/
import Derived.Test.YtfmfknjjhemnoaaMcV
import Derived.Test.YtfmfknjjhemnoaaNhB
namespace Go.Proofs.Ytfmfknjjhemnoaa
open Go.RowKit Go.ChangeShapes Go.WideShapes Go.ChangeAt Go.Deep
set_option linter.unusedVariables false
set_option linter.unusedSimpArgs false

theorem cells_mb29 : Try.prog.cellsOf 40 = 29 := by kernel_rfl
theorem trod_mbs {H : Type} {enc : TypeId × Value → H} {w : World} {fuel : Nat} {v : Value} {x : DataW H × List MemPlace} (hf : DataW.trod enc Try.prog w 0 (fun _ => true) true fuel 22 [v] = some x) : ∃ us, LIn w v us := by
  rcases open_slice und_mbs hf with ⟨hcs, _⟩ | ⟨a', len, cap, m, n, D, Pl, hcs, _, hl, hm, hmm, _, hall⟩
  · obtain rfl : v = .slice none 0 0 := by simpa using hcs
    exact ⟨[], holdsG_none w, by simp⟩
  · obtain rfl : v = .slice (some a') len cap := by simpa using hcs
    obtain ⟨b, o, spot⟩ := a'
    by_cases h0 : len = 0
    · subst h0
      exact ⟨[], ⟨_, cap, rfl, hl, hm, .inl rfl⟩, by simp⟩
    have each0 : ∀ i, i < len → ∃ e : El, EAt w e ∧ ∀ (j : Nat) (u : Value), (elC e)[j]? = some u → w.cell? ((⟨b, o, spot⟩ : Addr).add (i * 29 + j)) = some u := by
      intro i hi
      have him : i < m := by rw [hmm]; split <;> omega
      obtain ⟨cells, hc, hread⟩ := hall i him
      obtain ⟨_, hlen, hat⟩ := World.cells?_some hc
      rw [cells_mb29] at hlen hat
      obtain ⟨y, rv, vv, bv, hcs, hM, _, _⟩ := trod_mb hread
      obtain ⟨s1, s2, s3, rfl, rfl, rfl⟩ := hM.sl
      refine ⟨(y, s1, s2, s3), hM, fun j u hj => ?_⟩
      have hj' : j < 29 := by
        have := (List.getElem?_eq_some_iff.1 hj).1
        rwa [elC_ok.len] at this
      have := hat j hj'
      rw [add_add] at this
      rw [this, hcs]
      exact hj
    obtain rfl : spot = none := by
      obtain ⟨e, _, c⟩ := each0 0 (by omega)
      have := World.cell?_spot (c 0 _ rfl)
      simpa [Addr.add] using this
    have add : ∀ k : Nat, (⟨b, o, none⟩ : Addr).add k = ⟨b, o + k, none⟩ := fun k => by cases k <;> simp [Addr.add]
    have each : ∀ i : Nat, ∃ e : El, i < len → EAt w e ∧ CellsAt elC w b (o + i * 29) e := by
      intro i
      by_cases hil : i < len
      · obtain ⟨e, h1, h2⟩ := each0 i hil
        exact ⟨e, fun _ => ⟨h1, fun j u hj => by have := h2 j u hj; rwa [add, ← Nat.add_assoc] at this⟩⟩
      · exact ⟨(m0, (none, 0, 0), (none, 0, 0), (none, 0, 0)), fun h => absurd h hil⟩
    obtain ⟨f, hf⟩ := Classical.axiomOfChoice each
    refine ⟨(List.range len).map f, ⟨_, cap, by simp, by simpa using hl, hm, .inr ⟨b, o, rfl, fun j x hj => ?_⟩⟩, fun e he => ?_⟩
    · rw [List.getElem?_map] at hj
      obtain ⟨i, h1, rfl⟩ := Option.map_eq_some_iff.1 hj
      obtain ⟨h2, h3⟩ := List.getElem?_eq_some_iff.1 h1
      simp at h2 h3
      subst h3
      exact (hf j h2).2
    · obtain ⟨i, hi, rfl⟩ := List.mem_map.1 he
      exact (hf i (by simpa using hi)).1
theorem open_mbs {H : Type} {enc : TypeId × Value → H} {w : World} {base : Nat} {v : Value} {d : DataW H} {p : List MemPlace} (k : Value.okWide Try.prog w .any base 22 v) (h : DataW.Trod enc Try.prog w 0 (fun _ => true) true 22 v d p) : ∃ us, LIn w v us := by
  obtain ⟨a, len, cap, rfl⟩ := okWide_slice und_mbs k
  obtain ⟨fuel, hf⟩ := h
  exact trod_mbs hf
end Go.Proofs.Ytfmfknjjhemnoaa

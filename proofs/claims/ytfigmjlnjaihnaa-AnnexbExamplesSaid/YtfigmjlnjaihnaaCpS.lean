/- The kit's CopyStrings. -/
import Derived.Test.YtfigmjlnjaihnaaSs
import Derived.Deep.LoopGhost
import Derived.Deep.DeepCutAuto
namespace Go.Proofs.Ytfigmjlnjaihnaa
open Go.RowKit
set_option linter.unusedVariables false

theorem append_nothing (w : World) (a : Option Addr) (c : Nat) :
    (Builtin.append_ #[23, 23] 23 #[.slice none 0 0, .slice a 0 c]).run Try.prog w = .ok (.slice none 0 0) w := by
  obtain ⟨i0, hi0, hz0, hs0, hb0⟩ := info_parts info_str
  cases a with
  | none => simp [Builtin.append_, run_underlying und_strs, sizeOf, typeInfo, hi0, Builtin.lenOf, Builtin.firstCells]
  | some a =>
    have hfc := run_firstCells_some (P := Try.prog) w i0.size 0 a 0 c [] (by simp) (by simp)
    simp [Builtin.append_, run_underlying und_strs, sizeOf, typeInfo, hi0, Builtin.lenOf, hfc]
set_option maxHeartbeats 1000000 in
theorem cps_any (a : Value) (ss : List ByteArray) (w : World) (ha : Holds w a ss) (h1 : ss.length ≤ 1000000) :
    Calls Try.prog 15 #[a] w fun e w' => ∃ sv, e = .returned sv ∧ RowS w' sv ss ∧ Only [] w w' ∧ ∀ g, g ∈ ownOf sv → w.heap.size ≤ g := by
  obtain ⟨a, c, rfl, HA⟩ := ha
  have HA := hid HA
  have nilRow : RowS w (.slice none 0 0) [] := ⟨rfl, .inl ⟨rfl, rfl⟩⟩
  by_cases h0 : ss.length = 0
  · obtain rfl : ss = [] := List.length_eq_zero_iff.1 h0
    have hrun := append_nothing w a c
    have NR := hid nilRow
    clear h0 nilRow
    go_enter Try.func15, Try.ntmps15
    go_wp2_with (at_builtin; refine Lib.wpList_append_run _ rfl _ _ _ _ rfl _ _ rfl rfl _ _ hrun ?_)
    go_ret
    exact ⟨_, rfl, NR.out, Only.refl _ _, by simp [ownOf, Value.ownBlock]⟩
  · obtain ⟨x, hx⟩ : ∃ x, ss[0]? = some x := ⟨ss[0], List.getElem?_eq_getElem (by omega)⟩
    obtain ⟨ad, rfl, _⟩ := HA.out 0 x hx
    obtain ⟨sv2, w2, hrun, hrow, honly, hown⟩ := run_append_strs w 23 _ [] nilRow ad c ss (fun j v hj => by
      rw [List.getElem?_map] at hj
      cases hq : ss[j]? with
      | none => rw [hq] at hj; cases hj
      | some y =>
        rw [hq] at hj
        cases hj
        obtain ⟨ad2, e, h⟩ := HA.out j y hq
        cases e
        exact h) (by simp; omega)
    have F := hid (⟨hrow, honly, hown⟩ : _ ∧ _ ∧ _)
    clear h0 nilRow hx hrow honly hown
    go_enter Try.func15, Try.ntmps15
    go_wp2_with (at_builtin; refine Lib.wpList_append_run _ rfl _ _ _ _ rfl _ _ rfl rfl _ _ hrun ?_)
    go_ret
    obtain ⟨hrow, honly, hown⟩ := F.out
    refine ⟨_, rfl, hrow, honly.mono (fun k hk h => by simp [ownOf, Value.ownBlock] at h), fun g hg => ?_⟩
    rcases hown g hg with e | e
    · simp [ownOf, Value.ownBlock] at e
    · exact e
end Go.Proofs.Ytfigmjlnjaihnaa

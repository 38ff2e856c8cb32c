/- The statements' known. -/
import Derived.Test.YtfigmjlnjaihnaaLawM
import Derived.Test.YtfigmjlnjaihnaaEqS
import Derived.Test.YtfigmjlnjaihnaaSplit
import Derived.Test.YtfigmjlnjaihnaaJoin
import Derived.Test.YtfigmjlnjaihnaaRSplit
import Derived.Test.YtfigmjlnjaihnaaRJoin
namespace Go.Proofs.Ytfigmjlnjaihnaa
open Go.RowKit
set_option linter.unusedVariables false

theorem holds_cells (w : World) (g c : Nat) (us : List ByteArray) (h : ∀ (j : Nat) (x : ByteArray), us[j]? = some x → w.cell? ⟨g, j, none⟩ = some (.string x)) : Holds w (.slice (some ⟨g, 0, none⟩) us.length c) us :=
  ⟨_, _, rfl, fun j x hj => ⟨_, rfl, by rw [addr_add]; exact h j x hj⟩⟩
theorem holds_two (w : World) (a b : ByteArray) : Holds (w.alloc (.cells #[.string a, .string b] 9)) (.slice (some ⟨w.heap.size, 0, none⟩) 2 2) [a, b] :=
  holds_cells _ _ 2 [a, b] (fun j x hj => by
    rw [World.cell?_alloc_new]
    have : j < 2 := (List.getElem?_eq_some_iff.1 hj).1
    rcases (show j = 0 ∨ j = 1 by omega) with rfl | rfl <;> (simp at hj; subst hj; rfl))
theorem join_known : joinR [⟨#[9]⟩, ⟨#[39, 77]⟩] = (⟨#[0, 0, 0, 1, 9, 0, 0, 0, 1, 39, 77]⟩, 0) := by decide +kernel
theorem split_known : splitR ⟨#[0, 0, 1, 9, 0, 0, 1, 39, 77]⟩ = ([⟨#[9]⟩, ⟨#[39, 77]⟩], 0) := by decide +kernel

set_option maxHeartbeats 2000000 in
theorem known_any (w : World) (hM : MaxL w) : Calls Try.prog 11 #[] w fun e w' => e = .returned (.bool true) ∧ Only [] w w' := by
  have JC := hid (fun (w : World) (hM : MaxL w) => join_any _ [⟨#[9]⟩, ⟨#[39, 77]⟩] _ (hM.alloc _) (holds_two w ⟨#[9]⟩ ⟨#[39, 77]⟩) (by decide) (fun j u hj => by
    have := List.mem_of_getElem? hj
    rcases (by simpa using this : u = ⟨#[9]⟩ ∨ u = ⟨#[39, 77]⟩) with rfl | rfl <;> decide))
  rw [join_known] at JC
  have SC := hid (fun (w : World) (hM : MaxL w) => split_any ⟨#[0, 0, 1, 9, 0, 0, 1, 39, 77]⟩ w hM (by decide))
  rw [split_known] at SC
  go_enter Try.func11, Try.ntmps11
  go_wp2_with fail
  refine (JC.out _ hM).mono ?_
  rintro e w1 ⟨rfl, h1⟩
  have O1 := hid (((Only.refl [] w).alloc _).trans h1)
  clear h1
  go_wp2_with fail
  refine (SC.out _ (hM.only0 O1.out)).mono ?_
  rintro e w2 ⟨sv, rfl, hh, h2⟩
  have O2 := hid (O1.out.trans h2)
  have H2 := hid hh
  clear h2 hh
  go_wp2_with fail
  refine (eqs_any _ _ _ _ _ (H2.out.only ((Only.refl [] w2).alloc _) (by simp)) (holds_two w2 _ _) (by decide) (by decide)).mono ?_
  rintro e w3 ⟨rfl, h3⟩
  have O3 := hid ((O2.out.alloc _).trans h3)
  clear h3
  go_wp2_with fail
  go_ret
  exact ⟨rfl, O3.out⟩
end Go.Proofs.Ytfigmjlnjaihnaa

/- AnnexbSplits: the walk. -/
import Derived.Test.YtfigmjlnjaihnaaKnown4
import Derived.ProofKit
import Derived.OpenShut
import Derived.ShutString
import Derived.ChangeOld
namespace Go.Proofs.Ytfigmjlnjaihnaa
open Go.RowKit
open Go.ChangeMaps (open_string shut_string)
set_option linter.unusedVariables false

theorem split_size (s : ByteArray) : (splitR s).1.length ≤ 4096 := by
  unfold splitR
  split
  · simp
  · split
    · simp
    · split
      · simp
      · rename_i h; simp only [List.length_map]; omega
set_option maxHeartbeats 2000000 in
theorem splits_walk (s : ByteArray) (W : World) (hM : MaxL W) (hm0 : s.size ≤ maxLen) : Calls Try.prog 3 #[.string s] W fun e w' => e = .returned (.bool true) ∧ Only [] W w' := by
  have KN := hid (fun w (o : Only [] W w) => known_any w (hM.only0 o))
  have hm' : (s.size : Int) ≤ 9223372036854775807 := by unfold maxLen at hm0; omega
  clear hm0
  by_cases hm : 3000 < s.size
  · have i1 : (3000 : Int) < (s.size : Int) := by omega
    clear hm
    go_enter Try.func3, Try.ntmps3
    go_wp2_with fail
    refine (KN.out _ (Only.refl _ _)).mono ?_
    rintro e w1 ⟨rfl, ho⟩
    have O := hid ho
    clear ho
    go_wp2_with fail
    go_ret
    exact ⟨rfl, O.out⟩
  · have i1 : ¬ (3000 : Int) < (s.size : Int) := by omega
    have C1 := hid (split_any s W hM (by omega))
    have C2 := hid (fun w => rsplit_any s w (by omega))
    have SZ := hid (split_size s)
    generalize splitR s = r at *
    obtain ⟨us, er⟩ := r
    clear hm
    go_enter Try.func3, Try.ntmps3
    go_wp2_with fail
    refine C1.out.mono ?_
    rintro e w1 ⟨sv, rfl, hh, ho⟩
    have O1 := hid ho
    have H1 := hid hh
    clear ho hh
    go_wp2_with fail
    refine (C2.out _).mono ?_
    rintro e w2 ⟨sv2, rfl, hr, ho, hf⟩
    have O2 := hid (O1.out.trans ho)
    have H2 := hid (H1.out.only ho (by simp))
    have R2 := hid hr.holds
    clear ho hr hf
    go_wp2_with fail
    refine (eqs_any _ _ _ _ _ H2.out R2.out (Nat.le_trans SZ.out (by omega)) (Nat.le_trans SZ.out (by omega))).mono ?_
    rintro e w3 ⟨rfl, ho⟩
    have O3 := hid (O2.out.trans ho)
    have ED : decide (us = us) = true := decide_eq_true rfl
    clear ho
    rw [ED]
    clear ED
    go_wp2_with fail
    refine (KN.out _ O3.out).mono ?_
    rintro e w4 ⟨rfl, ho⟩
    have O4 := hid (O3.out.trans ho)
    clear ho
    go_wp2_with fail
    go_ret
    exact ⟨rfl, O4.out⟩
open Go.ChangeShapes Go.WideShapes Go.ChangeAt
theorem annexbSplits_core {H : Type} {enc : TypeId × Value → H} (W : World) (hM : MaxL W) (base : Nat)
    (v0 : Value) (d0 : DataW H) (p0 : List MemPlace) (k0 : Value.okWide Try.prog W .any base 9 v0) (h0 : DataW.Trod enc Try.prog W 0 (fun _ => true) true 9 v0 d0 p0) :
    Calls Try.prog 3 #[v0] W fun e w' => e = .returned (.bool true) ∧ Below W.heap.size W w' := by
  obtain ⟨s, rfl, rfl, rfl, w0⟩ := open_string Try.underlying9 k0 h0
  exact (splits_walk s W hM w0).mono fun e w' ⟨he, ho⟩ => ⟨he, ho.below (Nat.le_refl _) (by simp)⟩
end Go.Proofs.Ytfigmjlnjaihnaa

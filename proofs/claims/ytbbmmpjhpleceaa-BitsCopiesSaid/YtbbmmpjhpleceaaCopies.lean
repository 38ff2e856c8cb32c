/- BitsCopies: a copy of a reader is independent of it. -/
import Derived.Test.YtbbmmpjhpleceaaKnown
import Derived.OpenShut
import Derived.ProofKit
namespace Go.Proofs.Ytbbmmpjhpleceaa
open Go.RowKit
set_option linter.unusedVariables false

set_option maxHeartbeats 1000000 in
theorem copies_walk (s : ByteArray) (a b : Int) (w : World) (hs : s.size ≤ maxLen) (ha : 0 ≤ a) (ha2 : a ≤ 255) (hb : 0 ≤ b) (hb2 : b ≤ 255) :
    Calls Try.prog 10 #[.string s, .int .u8 a, .int .u8 b] w fun e w' => e = .returned (.bool true) ∧ Only [] w w' := by
  by_cases h0 : 200 < s.size
  · have h0' : (200 : Int) < (s.size : Int) := by omega
    go_enter Try.func10, Try.ntmps10
    go_wp2_with (go_at_call 11; refine (known_any _).mono ?_; rintro e w1 ⟨rfl, ho1⟩)
    go_ret
    exact ⟨rfl, ho1⟩
  · have h0' : (s.size : Int) ≤ 200 := by omega
    go_enter Try.func10, Try.ntmps10
    go_wp2_with fail
    refine (read_any s w (by omega)).mono ?_
    rintro e w1 ⟨rfl, hr1, ho1⟩
    have hge : w.heap.size ≤ w.heap.size := Nat.le_refl _
    generalize hr : w.heap.size = r at hr1 hge ⊢
    have hge' : w.heap.size ≤ r := by omega
    clear hr hge
    go_wp2_with fail
    refine (left_any r s 0 w1 hr1).mono ?_
    rintro e w2 ⟨rfl, n2, rfl⟩
    go_wp2_with fail
    obtain ⟨n, hn⟩ : ∃ n : Nat, (n : Int) = min (a % 65) (8 * (s.size : Int)) := ⟨(min (a % 65) (8 * (s.size : Int))).toNat, by omega⟩
    have hn64 : n ≤ 64 := by omega
    have hns : n ≤ 8 * s.size := by omega
    rw [← hn]
    have HN := hid hn
    clear hn
    refine (u_yes r s 0 n _ (hr1.drewN n2) hn64 (by omega)).mono ?_
    rw [Nat.zero_add]
    rintro e w3 ⟨rfl, hr3, ho3⟩
    have ho13 : Only [r] w1 w3 := ((Only.refl [r] w1).drewN n2).trans ho3
    clear ho3
    go_wp2_with fail
    refine (copy_any r s n w3 hr3).mono ?_
    rintro e w4 ⟨rfl, hr4, ho4⟩
    have hrc : r < w3.heap.size := hr3.lt
    generalize hc : w3.heap.size = c at *
    have hcr : c ≠ r := by omega
    have hrc' : r < c := hrc
    clear hc
    have hr4' := hr3.only ho4 (by simp)
    go_wp2_with fail
    refine (pos_any c s n w4 hr4).mono ?_
    rintro e w5 ⟨rfl, rfl⟩
    go_wp2_with fail
    refine (u_any c s n _ w4 hr4).mono ?_
    rintro e w5 ⟨rfl, hr5, ho5⟩
    have hr5' := hr4'.only ho5 (by simpa using Ne.symm hcr)
    have hu := fun w h => u_any r s n (b % 65) w h
    generalize rdU s n (b % 65) = p at *
    obtain ⟨x, y, z⟩ := p
    go_wp2_with fail
    refine (pos_any r s n w5 hr5').mono ?_
    rintro e w6 ⟨rfl, rfl⟩
    go_wp2_with fail
    refine (hu w5 hr5').mono ?_
    rintro e w6 ⟨rfl, hr6, ho6⟩
    have hr6' := hr5.only ho6 (by simpa using hcr)
    clear hu
    go_wp2_with fail
    refine (pos_any r s z w6 hr6).mono ?_
    rintro e w7 ⟨rfl, rfl⟩
    go_wp2_with fail
    refine (pos_any c s z w6 hr6').mono ?_
    rintro e w7 ⟨rfl, rfl⟩
    go_wp2_with fail
    refine (known_any w6).mono ?_
    rintro e w7 ⟨rfl, ho7⟩
    go_wp2_with fail
    go_ret
    have o3 : Only [] w w3 := ho1.trans2 ho13 (fun x hx => .inr (by rw [List.mem_singleton.1 hx]; exact hge'))
    have o5 : Only [] w w5 := (o3.trans ho4).trans2 ho5 (fun x hx => .inr (by rw [List.mem_singleton.1 hx]; omega))
    have o6 : Only [] w w6 := o5.trans2 ho6 (fun x hx => .inr (by rw [List.mem_singleton.1 hx]; exact hge'))
    exact ⟨rfl, o6.trans ho7⟩

open Go.ChangeShapes Go.WideShapes Go.ChangeAt
open Go.ChangeMaps (open_string)
theorem bitsCopies_core {H : Type} {enc : TypeId × Value → H} (W : World) (base : Nat) (v0 : Value) (d0 : DataW H) (p0 : List MemPlace) (k0 : Value.okWide Try.prog W .any base 9 v0) (h0 : DataW.Trod enc Try.prog W 0 (fun _ => true) true 9 v0 d0 p0)
    (v1 : Value) (d1 : DataW H) (p1 : List MemPlace) (k1 : Value.okWide Try.prog W .any base 5 v1) (h1 : DataW.Trod enc Try.prog W 0 (fun _ => true) true 5 v1 d1 p1)
    (v2 : Value) (d2 : DataW H) (p2 : List MemPlace) (k2 : Value.okWide Try.prog W .any base 5 v2) (h2 : DataW.Trod enc Try.prog W 0 (fun _ => true) true 5 v2 d2 p2) :
    Calls Try.prog 10 #[v0, v1, v2] W fun e w' => e = .returned (.bool true) ∧ Below W.heap.size W w' := by
  obtain ⟨s, rfl, rfl, rfl, w0⟩ := open_string Try.underlying9 k0 h0
  obtain ⟨a, rfl, rfl, rfl, w1⟩ := open_int Try.underlying5 k1 h1
  obtain ⟨b, rfl, rfl, rfl, w2⟩ := open_int Try.underlying5 k2 h2
  have ba := bounds_u8 w1
  have bb := bounds_u8 w2
  exact (copies_walk s a b W w0 ba.1 ba.2 bb.1 bb.2).mono fun e w' ⟨he, ho⟩ => ⟨he, ho.below (Nat.le_refl _) (by simp)⟩
end Go.Proofs.Ytbbmmpjhpleceaa

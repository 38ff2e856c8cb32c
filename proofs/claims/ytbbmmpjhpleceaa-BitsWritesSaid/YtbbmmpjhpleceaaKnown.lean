/- The check that every statement makes of the bits: a closed run. -/
import Derived.Test.YtbbmmpjhpleceaaRdV
import Derived.Test.YtbbmmpjhpleceaaWr2
namespace Go.Proofs.Ytbbmmpjhpleceaa
open Go.RowKit
set_option linter.unusedVariables false

theorem u_lit {b : Nat} {s : ByteArray} {pos : Nat} {n : Int} {w : World} (h : Rd w b s pos) (v e : Int) (q : Nat) (h1 : ((rdU s pos n).1 : Int) = v) (h2 : (rdU s pos n).2.1 = e) (h3 : (rdU s pos n).2.2 = q) :
    Calls Try.prog 18 #[.pointer (some ⟨b, 0, none⟩), .int .i64 n] w fun x w' => x = .returned (.tuple #[.int .u64 v, .int .i64 e]) ∧ Rd w' b s q ∧ Only [b] w w' := by
  subst h1 h2 h3; exact u_any b s pos n w h
theorem bit_lit {b : Nat} {s : ByteArray} {pos : Nat} {w : World} (h : Rd w b s pos) (v e : Int) (q : Nat) (h1 : ((rdU s pos 1).1 : Int) = v) (h2 : (rdU s pos 1).2.1 = e) (h3 : (rdU s pos 1).2.2 = q) :
    Calls Try.prog 14 #[.pointer (some ⟨b, 0, none⟩)] w fun x w' => x = .returned (.tuple #[.int .u8 v, .int .i64 e]) ∧ Rd w' b s q ∧ Only [b] w w' := by
  subst h1 h2 h3; exact bit_any b s pos w h
theorem put_lit {b : Nat} {sv : Value} {l : List Bool} {n v : Int} {w : World} (h : Wr w b sv l) (e : Int) (l' : List Bool) (hsz : l.length + 64 ≤ 281474976710656) (hv : 0 ≤ v) (h1 : (wrP l n v.toNat).1 = e) (h2 : (wrP l n v.toNat).2 = l') :
    Calls Try.prog 26 #[.pointer (some ⟨b, 0, none⟩), .int .i64 n, .int .u64 v] w fun x w' => x = .returned (.int .i64 e) ∧ ∃ sv', PutLeft w w' b sv sv' l' := by
  subst h1 h2
  obtain ⟨k, rfl⟩ := Int.eq_ofNat_of_zero_le hv
  exact put_any b sv l n k w h hsz

set_option maxHeartbeats 1000000 in
theorem known_any (w : World) : Calls Try.prog 11 #[] w fun e w' => e = .returned (.bool true) ∧ Only [] w w' := by
  go_enter Try.func11, Try.ntmps11
  go_wp2_with fail
  refine (read_any _ w (by decide)).mono ?_
  rintro e w1 ⟨rfl, hr1, ho1⟩
  generalize hb : w.heap.size = b at *
  have hlt1 : b < w1.heap.size := hr1.lt
  go_wp2_with fail
  refine (write_any w1).mono ?_
  rintro e w2 ⟨rfl, hw2, ho2⟩
  generalize hc : w1.heap.size = c at *
  have hr2 := hr1.only ho2 (by simp)
  have hcb : b ≠ c := by omega
  have hlt2 : c < w2.heap.size := hw2.lt
  go_wp2_with fail
  refine (bit_lit hr2 1 0 1 (by decide +kernel) (by decide +kernel) (by decide +kernel)).mono ?_
  rintro e w3 ⟨rfl, hr3, ho3⟩
  have hw3 := hw2.only ho3 (by simpa using Ne.symm hcb) (by simp [ownOf, Value.ownBlock])
  go_wp2_with fail
  refine (u_lit hr3 2 0 4 (by decide +kernel) (by decide +kernel) (by decide +kernel)).mono ?_
  rintro e w4 ⟨rfl, hr4, ho4⟩
  have hw4 := hw3.only ho4 (by simpa using Ne.symm hcb) (by simp [ownOf, Value.ownBlock])
  go_wp2_with fail
  refine (u_lit hr4 80 0 12 (by decide +kernel) (by decide +kernel) (by decide +kernel)).mono ?_
  rintro e w5 ⟨rfl, hr5, ho5⟩
  have hw5 := hw4.only ho5 (by simpa using Ne.symm hcb) (by simp [ownOf, Value.ownBlock])
  go_wp2_with fail
  refine (put_lit hw5 0 [true] (by decide) (by decide) (by decide +kernel) (by decide +kernel)).mono ?_
  rintro e w6 ⟨rfl, sv6, hp6⟩
  go_wp2_with fail
  refine (put_lit hp6.wr 0 [true, false, true, false] (by decide) (by decide) (by decide +kernel) (by decide +kernel)).mono ?_
  rintro e w7 ⟨rfl, sv7, hp7⟩
  have o6 : ∀ g, g ∈ ownOf sv6 → w5.heap.size ≤ g := fun g hg => by rcases hp6.own g hg with h | h; simp [ownOf, Value.ownBlock] at h; exact h
  have hr6 := hr5.only hp6.only (by simp [ownOf, Value.ownBlock]; exact hcb)
  have hb5 := hr5.lt
  have hr7 := hr6.only hp7.only (fun h => by rcases List.mem_cons.1 h with h | h; exact hcb h; have := o6 b h; omega)
  have hB := bits_any c sv7 _ w7 hp7.wr
  rw [show chars [true, false, true, false] = ⟨#[49, 48, 49, 48]⟩ from rfl] at hB
  go_wp2_with fail
  refine (pos_any b _ 12 w7 hr7).mono ?_
  rintro e w8 ⟨rfl, rfl⟩
  go_wp2_with fail
  refine (left_any b _ 12 w7 hr7).mono ?_
  rintro e w9 ⟨rfl, n9, rfl⟩
  go_wp2_with fail
  refine (bits_any c sv7 _ (w7.drewN n9) (hp7.wr.only ((Only.refl [] w7).drewN n9) (by simp) (by simp))).mono ?_
  rintro e w10 ⟨rfl, ho10⟩
  rw [show chars [true, false, true, false] = ⟨#[49, 48, 49, 48]⟩ from rfl]
  have hw10 := (hp7.wr.only ((Only.refl [] w7).drewN n9) (by simp) (by simp)).only ho10 (by simp) (by simp)
  go_wp2_with fail
  refine (bytes_any c sv7 _ w10 hw10).mono ?_
  rintro e w11 ⟨rfl, ho11⟩
  rw [show pack [true, false, true, false] = ⟨#[160]⟩ from rfl]
  go_wp2_with fail
  go_ret
  refine ⟨rfl, ?_⟩
  have kb : ∀ x, x ∈ [b] → x ∈ ([] : List Nat) ∨ w.heap.size ≤ x := fun x hx => .inr (by rw [List.mem_singleton.1 hx]; omega)
  have o5 : Only [] w w5 := (((ho1.trans ho2).trans2 ho3 kb).trans2 ho4 kb).trans2 ho5 kb
  have hs5 := o5.size
  have o6' : Only [] w w6 := o5.trans2 hp6.only (fun x hx => .inr (by simp [ownOf, Value.ownBlock] at hx; omega))
  have o7 : Only [] w w7 := o6'.trans2 hp7.only (fun x hx => .inr (by rcases List.mem_cons.1 hx with h | h; omega; have := o6 x h; omega))
  exact ((o7.drewN n9).trans ho10).trans ho11
end Go.Proofs.Ytbbmmpjhpleceaa

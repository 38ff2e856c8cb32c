/- The check that every statement makes of the codes: a closed run; calls of codes on literals. -/
import Derived.Test.YtgfcooaobfpdiaaLit
import Derived.Test.YtgfcooaobfpdiaaTe
import Derived.Test.YtgfcooaobfpdiaaUw
namespace Go.Proofs.Ytgfcooaobfpdiaa
open Go.RowKit
set_option linter.unusedVariables false

theorem ue_lit {b : Nat} {s : ByteArray} {pos : Nat} {w : World} (h : Rd w b s pos) (v e : Int) (q : Nat) (h1 : ((rdUk s pos 0).1 : Int) = v) (h2 : (rdUk s pos 0).2.1 = e) (h3 : (rdUk s pos 0).2.2 = q) :
    Calls Try.prog 14 #[.pointer (some ⟨b, 0, none⟩)] w fun x w' => x = .returned (.tuple #[.int .u64 v, .int .i64 e]) ∧ Rd w' b s q ∧ Only [b] w w' := by
  subst h1 h2 h3; exact ue_any b s pos w h
theorem putue_lit {b : Nat} {sv : Value} {l : List Bool} {v : Int} {w : World} (h : Wr w b sv l) (e : Int) (l' : List Bool) (hsz : l.length + 128 ≤ 281474976710656) (h0 : 0 ≤ v) (hv : v < 18446744073709551616) (h1 : (wrUe l v.toNat).1 = e) (h2 : (wrUe l v.toNat).2 = l') :
    Calls Try.prog 26 #[.pointer (some ⟨b, 0, none⟩), .int .u64 v] w fun x w' => x = .returned (.int .i64 e) ∧ ∃ sv', PutLeft w w' b sv sv' l' := by
  subst h1 h2
  obtain ⟨k, rfl⟩ := Int.eq_ofNat_of_zero_le h0
  exact putue_any b sv l k w h (by omega) hsz

theorem only_put {w0 w w' : World} {c : Nat} {sv sv' : Value} {l : List Bool} (h : PutLeft w w' c sv sv' l) (k : Only [] w0 w ∧ w0.heap.size ≤ c ∧ ∀ g, g ∈ ownOf sv → w0.heap.size ≤ g) : Only [] w0 w' ∧ w0.heap.size ≤ c ∧ ∀ g, g ∈ ownOf sv' → w0.heap.size ≤ g :=
  ⟨k.1.trans2 h.only (fun x hx => .inr (by rcases List.mem_cons.1 hx with e | e; rw [e]; exact k.2.1; exact k.2.2 x e)), k.2.1, fun g hg => by
    rcases h.own g hg with e | e
    · exact k.2.2 g e
    · exact Nat.le_trans k.1.size e⟩

def l47 : List Bool := [false, false, false, false, false, true, true, false, false, false, false]
set_option maxHeartbeats 1000000 in
theorem known_any (w : World) : Calls Try.prog 11 #[] w fun e w' => e = .returned (.bool true) ∧ Only [] w w' := by
  go_enter Try.func11, Try.ntmps11
  go_wp2_with fail
  refine (write_any w).mono ?_
  rintro e w1 ⟨rfl, hw1, ho1⟩
  have hc0 : w.heap.size ≤ w.heap.size := Nat.le_refl _
  generalize hc : w.heap.size = c at hw1 hc0 ⊢
  have C := hid hc
  clear hc
  go_wp2_with fail
  refine (putue_lit hw1 0 l47 (by decide) (by decide) (by decide) (by decide +kernel) (by decide +kernel)).mono ?_
  rintro e w2 ⟨rfl, sv2, hp2⟩
  have W2 := hid hp2.wr
  have O2 := hid (only_put hp2 ⟨ho1, by rw [C.out]; exact Nat.le_refl _, by simp [ownOf, Value.ownBlock]⟩)
  clear hp2 hw1 ho1
  go_wp2_with fail
  refine (bytes_any c sv2 l47 w2 W2.out).mono ?_
  rw [show pack l47 = ⟨#[6, 0]⟩ from by decide +kernel]
  rintro e w3 ⟨rfl, ho3⟩
  have W3 := hid (W2.out.only ho3 (by simp) (by simp))
  have O3 := hid (O2.out.1.trans ho3)
  clear ho3
  go_wp2_with fail
  refine (read_any _ w3 (by decide)).mono ?_
  rintro e w4 ⟨rfl, hr4, ho4⟩
  have W4 := hid (W3.out.only ho4 (by simp) (by simp))
  have O4 := hid (O3.out.trans ho4)
  have hne : c ≠ w3.heap.size := by have := W3.out.lt; omega
  have hb : w.heap.size ≤ w3.heap.size := O3.out.size
  have hown : w3.heap.size ∉ ownOf sv2 := fun h => by have := W3.out.row.lt _ h; omega
  generalize w3.heap.size = r at *
  have HO := hid hown
  clear ho4 hown
  go_wp2_with fail
  refine (ue_lit hr4 47 0 11 (by decide +kernel) (by decide +kernel) (by decide +kernel)).mono ?_
  rintro e w5 ⟨rfl, hr5, ho5⟩
  have W5 := hid (W4.out.only ho5 (by simpa using hne) (fun g hg e => HO.out (List.mem_singleton.1 e ▸ hg)))
  have O5 := hid (O4.out.trans2 ho5 (fun x hx => .inr (by rw [List.mem_singleton.1 hx]; exact hb)))
  clear ho5 hr5 hr4
  go_wp2_with fail
  refine (bits_any c sv2 l47 w5 W5.out).mono ?_
  rw [show chars l47 = ⟨#[48, 48, 48, 48, 48, 49, 49, 48, 48, 48, 48]⟩ from rfl]
  rintro e w6 ⟨rfl, ho6⟩
  go_wp2_with fail
  go_ret
  exact ⟨rfl, O5.out.trans ho6⟩
end Go.Proofs.Ytgfcooaobfpdiaa

/- Calls on literals. -/
import Derived.Test.YtgfcooaobfpdiaaRdV
import Derived.Test.YtgfcooaobfpdiaaWr2
namespace Go.Proofs.Ytgfcooaobfpdiaa
open Go.RowKit
set_option linter.unusedVariables false

theorem u_lit {b : Nat} {s : ByteArray} {pos : Nat} {n : Int} {w : World} (h : Rd w b s pos) (v e : Int) (q : Nat) (h1 : ((rdU s pos n).1 : Int) = v) (h2 : (rdU s pos n).2.1 = e) (h3 : (rdU s pos n).2.2 = q) :
    Calls Try.prog 54 #[.pointer (some ⟨b, 0, none⟩), .int .i64 n] w fun x w' => x = .returned (.tuple #[.int .u64 v, .int .i64 e]) ∧ Rd w' b s q ∧ Only [b] w w' := by
  subst h1 h2 h3; exact u_any b s pos n w h
theorem bit_lit {b : Nat} {s : ByteArray} {pos : Nat} {w : World} (h : Rd w b s pos) (v e : Int) (q : Nat) (h1 : ((rdU s pos 1).1 : Int) = v) (h2 : (rdU s pos 1).2.1 = e) (h3 : (rdU s pos 1).2.2 = q) :
    Calls Try.prog 45 #[.pointer (some ⟨b, 0, none⟩)] w fun x w' => x = .returned (.tuple #[.int .u8 v, .int .i64 e]) ∧ Rd w' b s q ∧ Only [b] w w' := by
  subst h1 h2 h3; exact bit_any b s pos w h
theorem put_lit {b : Nat} {sv : Value} {l : List Bool} {n v : Int} {w : World} (h : Wr w b sv l) (e : Int) (l' : List Bool) (hsz : l.length + 64 ≤ 281474976710656) (hv : 0 ≤ v) (h1 : (wrP l n v.toNat).1 = e) (h2 : (wrP l n v.toNat).2 = l') :
    Calls Try.prog 52 #[.pointer (some ⟨b, 0, none⟩), .int .i64 n, .int .u64 v] w fun x w' => x = .returned (.int .i64 e) ∧ ∃ sv', PutLeft w w' b sv sv' l' := by
  subst h1 h2
  obtain ⟨k, rfl⟩ := Int.eq_ofNat_of_zero_le hv
  exact put_any b sv l n k w h hsz

end Go.Proofs.Ytgfcooaobfpdiaa

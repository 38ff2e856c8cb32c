/- Calls that came in, made valid: their codes, one after another. -/
import Derived.Test.YtgfcooaobfpdiaaCode
import Derived.Test.YtgfcooaobfpdiaaCalls4
namespace Go.Proofs.Ytgfcooaobfpdiaa
open Go.RowKit
set_option linter.unusedVariables false

abbrev CallX := Int × Int × Int × Int
def cN (x : CallX) : Nat := x.1.toNat
def mN (x : CallX) : Nat := x.2.1.toNat % 4294967295
def kN (x : CallX) : Nat := (x.2.2.1 % 9).toNat
def vN (x : CallX) : Nat := fitV (cN x) (mN x) (kN x) x.2.2.2.toNat
def codeX (x : CallX) : List Bool := codeOf (cN x) (mN x) (kN x) (vN x)
theorem cN_le {x : CallX} (h : CallOk x) : cN x ≤ 255 := by have := h.1; unfold cN; omega
theorem okX (x : CallX) : OkV (cN x) (mN x) (kN x) (vN x) := OkV.of_fit _ _ _ _ (by unfold mN; omega) (by unfold kN; omega)
theorem codeX_le (x : CallX) : (codeX x).length ≤ 71 := codeOf_le (okX x)
/-- The value of a valid call. -/
def fitted (x : CallX) : Value := .agg #[.int .u8 (cN x), .int .u64 (mN x), .int .i64 (kN x), .int .u64 (vN x)]
theorem fit_call (x : CallX) (w : World) (h : CallOk x) :
    Calls Try.prog 39 #[.agg #[.int .u8 x.1, .int .u64 x.2.1, .int .i64 x.2.2.1, .int .u64 x.2.2.2]] w fun e w' => e = .returned (.agg #[.int .u8 (cN x), .int .u64 (mN x), .int .i64 (kN x), .int .u64 (vN x)]) ∧ Only [] w w' := by
  obtain ⟨c, m, k, v⟩ := x
  obtain ⟨h1, h2, h3, h4⟩ := h
  simp only at h1 h2 h3 h4
  obtain ⟨c, rfl⟩ := Int.eq_ofNat_of_zero_le h1.1
  obtain ⟨m, rfl⟩ := Int.eq_ofNat_of_zero_le h2.1
  obtain ⟨v, rfl⟩ := Int.eq_ofNat_of_zero_le h4.1
  have := fit_any c m k v w (by omega) (by omega) h3 (by omega)
  refine this.mono fun e w' ⟨he, ho⟩ => ⟨he.trans ?_, ho⟩
  refine ret_call rfl ?_ rfl
  show k % 9 = (((k % 9).toNat : Nat) : Int)
  omega

def codes (f : Nat → CallX) : Nat → List Bool
  | 0 => []
  | n + 1 => codes f n ++ codeX (f n)
theorem codes_le (f : Nat → CallX) (n : Nat) : (codes f n).length ≤ 71 * n := by
  induction n with
  | zero => simp [codes]
  | succ n ih => simp only [codes, List.length_append]; have := codeX_le (f n); omega
theorem codes_more (f : Nat → CallX) {j n : Nat} (h : j ≤ n) : ∃ r, codes f n = codes f j ++ r := by
  induction n with
  | zero => obtain rfl : j = 0 := by omega
            exact ⟨[], by simp⟩
  | succ n ih =>
    by_cases e : j = n + 1
    · subst e; exact ⟨[], by simp⟩
    · obtain ⟨r, hr⟩ := ih (by omega)
      exact ⟨r ++ codeX (f n), by simp only [codes]; rw [hr, List.append_assoc]⟩
theorem bitAt_append_left (s t : ByteArray) (i : Nat) (h : i < 8 * s.size) : bitAt (s ++ t) i = bitAt s i := by
  unfold bitAt
  congr 2
  rw [Array.getD_eq_getD_getElem?, Array.getD_eq_getD_getElem?, ByteArray.data_append, Array.getElem?_append_left (by show i / 8 < s.size; omega)]
theorem begins_codes (f : Nat → CallX) (n : Nat) (after : ByteArray) {j : Nat} (h : j < n) : Begins (pack (codes f n) ++ after) (codes f j).length (codeX (f j)) := by
  obtain ⟨r, hr⟩ := codes_more f (show j + 1 ≤ n from h)
  simp only [codes] at hr
  rw [List.append_assoc] at hr
  have hl := congrArg List.length hr
  simp only [List.length_append] at hl
  have hb := begins_pack (codeX (f j)) (codes f j) r
  rw [← hr] at hb
  have hsz := size_pack (codes f n)
  refine ⟨?_, fun i hi => ?_⟩
  · rw [ByteArray.size_append]; have := hb.1; omega
  · rw [bitAt_append_left _ _ _ (by omega)]; exact hb.2 i hi
end Go.Proofs.Ytgfcooaobfpdiaa

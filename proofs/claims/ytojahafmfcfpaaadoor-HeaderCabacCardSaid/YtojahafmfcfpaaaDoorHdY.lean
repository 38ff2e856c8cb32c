/- The reference's Put. -/
import Derived.Test.YtojahafmfcfpaaaDoorMg15
import Derived.Test.YtojahafmfcfpaaaDoorMg18
import Derived.Test.YtojahafmfcfpaaaDoorMg6
namespace Go.Proofs.YtojahafmfcfpaaaDoor
open Go.RowKit
set_option linter.unusedVariables false
set_option linter.unusedSimpArgs false

/-- The bits that were written since W, and a bound of their number. -/
def PS (W w : World) (b : Nat) (sv : Value) (M : List Bool) (n : Nat) : Prop := M.length ≤ n ∧ ∃ sv', RPut W w b sv sv' M
section
variable {W w : World} {b n : Nat} {sv : Value} {M : List Bool}
theorem PS.only (h : PS W w b sv M n) : Only (b :: ownOf sv) W w := by obtain ⟨_, sv', h⟩ := h; exact h.only
theorem PS.up (h : PS W w b sv M n) {M' : List Bool} {n' : Nat} (e : M = M') (hn : n ≤ n') : PS W w b sv M' n' := by
  subst e; exact ⟨Nat.le_trans h.1 hn, h.2⟩
end
/-- What is known of a valid header's fields. -/
structure Vals (un : UN) (x : HV) : Prop where
  fr : 0 ≤ x.fr ∧ x.fr ≤ 2 ^ un.s.fb.toNat - 1
  fr2 : x.fr ≤ 65535
  idr : un.idr = true → 0 ≤ x.idr ∧ x.idr ≤ 65535
  poc : 0 ≤ x.poc ∧ x.poc ≤ 2 ^ un.s.pb.toNat - 1
  poc2 : x.poc ≤ 65535
  over : x.intra = true → x.over = false
  refs : x.over = true → 1 ≤ x.refs ∧ x.refs ≤ 32
  listed : x.intra = true → x.listed = false
  mods : x.listed = true → checkI false x.mods = 0
  ad : adH un = false → x.ad = false
  marks : x.ad = true → checkI true x.marks = 0
  ini : iniH un x = true → 0 ≤ x.ini ∧ x.ini ≤ 2
  qp : -100 ≤ x.qp ∧ x.qp ≤ 100
  fil : un.p.db = true → 0 ≤ x.fil ∧ x.fil ≤ 2
  a : fltH un x = true → -6 ≤ x.a ∧ x.a ≤ 6
  b : fltH un x = true → -6 ≤ x.b ∧ x.b ≤ 6
theorem pow_le16 {k : Int} (h0 : 0 ≤ k) (h1 : k ≤ 16) {v : Int} (hv : v ≤ 2 ^ k.toNat - 1) : v ≤ 65535 := by
  obtain ⟨K, rfl⟩ := Int.eq_ofNat_of_zero_le h0
  have e : (2 : Int) ^ K = ((2 ^ K : Nat) : Int) := by rw [Int.natCast_pow]; rfl
  have h2 : 2 ^ K ≤ 2 ^ 16 := Nat.pow_le_pow_right (by decide) (by omega)
  have p16 : (2 : Nat) ^ 16 = 65536 := by decide
  simp only [Int.ofNat_eq_natCast, Int.toNat_natCast] at hv
  rw [e] at hv
  omega
theorem numE_has {has : Bool} {v : Int} {c : Cd} (h : numE has v c = 0) (hh : has = true) : c.lo ≤ v ∧ v ≤ c.hi := by
  subst hh; exact numC_iff.1 h
theorem vals_of {un : UN} {x : HV} (hs : okS un.s = true) (hp : okP un.p = true) (h : restE un x 15 0 = 0) : Vals un x := by
  obtain ⟨c1, c2, c3⟩ := unOk_cd hs hp
  have R := fun j => rest_all h j
  have f0 := numE_has (R 0) rfl
  have f2 := numE_has (R 2) rfl
  have f11 := numE_has (R 11) rfl
  refine ⟨f0, pow_le16 c1.1 c1.2 f0.2, fun h => numE_has (R 1) h, f2, pow_le16 c2.1 c2.2 f2.2, fun h => ?_, fun h => numE_has (R 4) h, fun h => ?_, fun h => ?_, fun h => ?_, fun h => ?_, fun h => numE_has (R 10) h, ?_, fun h => numE_has (R 12) h, fun h => numE_has (R 13) h, fun h => numE_has (R 14) h⟩
  · have := R 3
    simp only [stepE, flagE, h] at this
    cases k : x.over
    · rfl
    · rw [k] at this; exact absurd this (by decide)
  · have := R 5
    simp only [stepE, flagE, h] at this
    cases k : x.listed
    · rfl
    · rw [k] at this; exact absurd this (by decide)
  · have := R 6
    simp only [stepE, lstE, h, if_true] at this
    exact this
  · have := R 8
    simp only [stepE, flagE, h] at this
    cases k : x.ad
    · rfl
    · rw [k] at this; exact absurd this (by decide)
  · have := R 9
    simp only [stepE, lstE, h, if_true] at this
    exact this
  · simp only [qpC, Cd.lo, Cd.hi] at f11
    simp only [cdOk, qpC] at c3
    omega
theorem ue_zero (v : Int) (hi : Int) : cdBits (.ue 0 hi) v = ueBits v.toNat := by simp only [cdBits, Int.sub_zero]

theorem stepB_no {un : UN} {x : HV} {M : List Bool} {j : Nat} (h : stepB un x j = []) : M = M ++ stepB un x j := by rw [h, List.append_nil]
theorem numB_no {has : Bool} {v : Int} {c : Cd} (h : has = false) : numB has v c = [] := by subst h; rfl
theorem flagB_no {has v : Bool} (h : has = false) : flagB has v = [] := by subst h; rfl
theorem lstB_no {has m : Bool} {l : List (Int × Int × Int)} (h : has = false) : lstB has m l = [] := by subst h; rfl
theorem numB_ue {has : Bool} {v hi : Int} (h : has = true) : numB has v (.ue 0 hi) = ueBits v.toNat := by subst h; rw [numB, if_pos rfl, ue_zero]
theorem numB_se {has : Bool} {v lo hi : Int} (h : has = true) : numB has v (.se lo hi) = ueBits (seNum v) := by subst h; rfl
theorem flagB_yes {has v : Bool} (h : has = true) : flagB has v = [v] := by subst h; rfl
theorem lstB_yes {has m : Bool} {l : List (Int × Int × Int)} (h : has = true) : lstB has m l = listB m l := by subst h; rfl
end Go.Proofs.YtojahafmfcfpaaaDoor

/- NalLengths' walk. -/
import Derived.Test.YtghdnefaempigaaDoorKn
import Derived.Test.YtghdnefaempigaaDoorRUn
import Derived.Test.YtghdnefaempigaaDoorCl
import Derived.ShutString
import Derived.ChangeOld
import Derived.ProofKit
import Derived.OpenShut
namespace Go.Proofs.YtghdnefaempigaaDoor
open Go.RowKit
open Go.ChangeMaps (open_string shut_string)
set_option linter.unusedVariables false

/-- A byte is inserted behind place i + 1. -/
def InsAt (l : List UInt8) (i : Nat) : Prop := l[i]? = some 0 ∧ l[i + 1]? = some 0 ∧ EndAt l (i + 2)
theorem same_iff (l : List UInt8) : esc l = l ↔ ∀ i, ¬ InsAt l i := by
  rw [esc_same_iff]
  exact ⟨fun h i x => h i x.1 x.2.1 x.2.2, fun h i a b c => h i ⟨a, b, c⟩⟩
theorem ins_step {l : List UInt8} {j : Nat} {q : Bool} (h : q = true ↔ ∀ i, i < j → ¬ InsAt l i) : (InsAt l j → (false = true ↔ ∀ i, i < j + 1 → ¬ InsAt l i)) ∧ (¬ InsAt l j → (q = true ↔ ∀ i, i < j + 1 → ¬ InsAt l i)) := by
  constructor
  · intro a
    constructor
    · intro e; cases e
    · intro e; exact absurd a (e j (by omega))
  · intro a
    rw [h]
    constructor
    · intro e i hi
      by_cases hij : i = j
      · subst hij; exact a
      · exact e i (by omega)
    · intro e i hi
      exact e i (by omega)
theorem ins_end {l : List UInt8} {j : Nat} {q : Bool} (h : q = true ↔ ∀ i, i < j → ¬ InsAt l i) (hj : l.length ≤ j + 1) : decide (esc l = l) = q := by
  have e : esc l = l ↔ q = true := by
    rw [same_iff, h]
    constructor
    · intro a i _; exact a i
    · intro a i x
      by_cases hij : i < j
      · exact a i hij x
      · have := (List.getElem?_eq_some_iff.1 x.2.1).1
        omega
  cases q with
  | true => exact decide_eq_true (e.2 rfl)
  | false => exact decide_eq_false (fun x => by cases e.1 x)

set_option maxHeartbeats 4000000 in
theorem nlen_walk (s : ByteArray) (w : World) (hm : s.size ≤ maxLen) : Calls Tryd.prog 7 #[.string s] w fun e w' => e = .returned (.bool true) ∧ Only [] w w' := by
  have hm' : (s.size : Int) ≤ 9223372036854775807 := by unfold maxLen at hm; omega
  have KN := hid (fun w => known_any w)
  clear hm
  by_cases h : (1000 : Int) < (s.size : Int)
  · go_enter Tryd.func7, Tryd.ntmps7
    go_wp2_with (go_at_call 11; refine (KN.out _).mono ?_; rintro e w3 ⟨rfl, ho3⟩; have O3 := hid ho3; clear ho3)
    go_ret
    exact ⟨rfl, O3.out⟩
  · have hs : s.size ≤ 1000 := by omega
    have el := esc_len s.data.toList
    have sl : s.data.toList.length = s.size := by simp
    have C1 := hid (fun w => esc_any s w (by omega))
    have hA : (bytesOf (esc s.data.toList)).size = (esc s.data.toList).length := by simp [bytesOf, ByteArray.size]
    have EQ := hid (eqB (esc s.data.toList) s)
    have n1 : ¬ ((bytesOf (esc s.data.toList)).size : Int) < (s.size : Int) := by omega
    have n2 : ¬ (s.size : Int) + (s.size : Int) / 2 < ((bytesOf (esc s.data.toList)).size : Int) := by omega
    have n3 : ((bytesOf (esc s.data.toList)).size : Int) ≤ 2000 := by omega
    have SL := hid sl
    generalize bytesOf (esc s.data.toList) = A at *
    clear el hA sl
    go_enter Tryd.func7, Tryd.ntmps7
    go_wp2_with fail
    refine (C1.out _).mono ?_
    rintro e w3 ⟨rfl, ho3⟩
    have O3 := hid ho3
    clear ho3
    go_wp2_with fail
    have e1 : decide (A.size < s.size) = false := by rw [decide_eq_false_iff_not]; omega
    have e2 : decide ((s.size : Int) + (s.size : Int) / 2 < (A.size : Int)) = false := by rw [decide_eq_false_iff_not]; omega
    simp only [e1, e2, Bool.or_self]
    clear n1 n2 n3 e1 e2
    go_loopg [4, 5] s.size (fun g b i wr => ∃ (j : Nat) (q : Bool), j + g = s.size ∧ i = .int .i64 j ∧ b = .bool q ∧ (q = true ↔ ∀ i, i < j → ¬ InsAt s.data.toList i) ∧ wr = w3)
    case atStart => exact ⟨0, true, by omega, rfl, rfl, ⟨fun _ i hi => by omega, fun _ => rfl⟩, rfl⟩
    case round =>
      obtain ⟨j, q, hj, rfl, rfl, hq, rfl⟩ := hrel
      have jb : (j : Int) ≤ 1000 := by omega
      have j0 : (0 : Int) ≤ (j : Int) := by omega
      have J := hid hj
      have Q := hid hq
      clear hq
      by_cases hg : j + 1 < s.size
      · have i1 : (j : Int) + 1 < (s.size : Int) := by omega
        have i0 : (j : Int) < (s.size : Int) := by omega
        have n1' : j + 1 < s.size := by omega
        have n0 : j < s.size := by omega
        obtain ⟨g, rfl⟩ : ∃ g, gk = g + 1 := ⟨gk - 1, by omega⟩
        clear hj hg
        have ST := hid (ins_step Q.out)
        by_cases a : s[j] = 0
        · have a' := (u8_zeroI _).1 a
          by_cases b : s[j + 1] = 0
          · have b' := (u8_zeroI _).1 b
            by_cases c : j + 2 = s.size
            · have c' : (j : Int) + 2 = (s.size : Int) := by omega
              have P : InsAt s.data.toList j := ⟨by rw [at_get s j n0, a], by rw [at_get s (j + 1) n1', b], .inl (by rw [List.getElem?_eq_none_iff]; have := SL.out; omega)⟩
              have Z := hid (ST.out.1 P)
              clear a b c P ST
              go_wp2_with fail
              go_roundg g
              case measure => omega
              case rel => exact ⟨j + 1, false, by have := J.out; omega, by go_num, rfl, Z.out, rfl⟩
            · have c' : ¬ (j : Int) + 2 = (s.size : Int) := by omega
              have cb : ((j : Int) + 2 == (s.size : Int)) = false := by rw [beq_eq_false_iff_ne]; exact c'
              have i2 : (j : Int) + 2 < (s.size : Int) := by omega
              have n2' : j + 2 < s.size := by omega
              by_cases d : (s[j + 2].toNat : Int) ≤ 3
              · have P : InsAt s.data.toList j := ⟨by rw [at_get s j n0, a], by rw [at_get s (j + 1) n1', b], .inr ⟨s[j + 2], at_get s (j + 2) n2', (u8_leI _ 3 (by omega)).2 d⟩⟩
                have Z := hid (ST.out.1 P)
                clear a b c P ST
                go_wp2_with fail
                go_roundg g
                case measure => omega
                case rel => exact ⟨j + 1, false, by have := J.out; omega, by go_num, rfl, Z.out, rfl⟩
              · have P : ¬ InsAt s.data.toList j := by
                  rintro ⟨_, _, e | ⟨x, e, hx⟩⟩
                  · rw [at_get s (j + 2) n2'] at e; cases e
                  · rw [at_get s (j + 2) n2'] at e; injection e with e; subst e; exact d ((u8_leI _ 3 (by omega)).1 hx)
                have Z := hid (ST.out.2 P)
                clear a b c P ST
                go_wp2_with fail
                go_roundg g
                case measure => omega
                case rel => exact ⟨j + 1, q, by have := J.out; omega, by go_num, rfl, Z.out, rfl⟩
          · have b' := mt (u8_zeroI _).2 b
            have P : ¬ InsAt s.data.toList j := by
              rintro ⟨_, e, _⟩
              rw [at_get s (j + 1) n1'] at e; injection e with e; exact b e
            have Z := hid (ST.out.2 P)
            clear a b P ST
            go_wp2_with fail
            go_roundg g
            case measure => omega
            case rel => exact ⟨j + 1, q, by have := J.out; omega, by go_num, rfl, Z.out, rfl⟩
        · have a' := mt (u8_zeroI _).2 a
          have P : ¬ InsAt s.data.toList j := by
            rintro ⟨e, _, _⟩
            rw [at_get s j n0] at e; injection e with e; exact a e
          have Z := hid (ST.out.2 P)
          clear a P ST
          go_wp2_with fail
          go_roundg g
          case measure => omega
          case rel => exact ⟨j + 1, q, by have := J.out; omega, by go_num, rfl, Z.out, rfl⟩
      · have i1 : ¬ (j : Int) + 1 < (s.size : Int) := by omega
        have hq2 : (A.toList == s.toList) = q := by rw [EQ.out]; exact ins_end Q.out (by have := SL.out; omega)
        cases q
        all_goals
          go_wp2_with (go_at_call 11; refine (KN.out _).mono ?_; rintro e w9 ⟨rfl, ho9⟩; have O9 := hid ho9; clear ho9)
          go_ret
          exact ⟨rfl, O3.out.trans O9.out⟩
open Go.ChangeShapes Go.WideShapes Go.ChangeAt
theorem nalLengths_core {H : Type} {enc : TypeId × Value → H} (W : World) (base : Nat)
    (v0 : Value) (d0 : DataW H) (p0 : List MemPlace) (k0 : Value.okWide Tryd.prog W .any base 9 v0) (h0 : DataW.Trod enc Tryd.prog W 0 (fun _ => true) true 9 v0 d0 p0) :
    Calls Tryd.prog 7 #[v0] W fun e w' => e = .returned (.bool true) ∧ Below W.heap.size W w' := by
  obtain ⟨s, rfl, rfl, rfl, w0⟩ := open_string Tryd.underlying9 k0 h0
  exact (nlen_walk s W w0).mono fun e w' ⟨he, ho⟩ => ⟨he, ho.below (Nat.le_refl _) (by simp)⟩
end Go.Proofs.YtghdnefaempigaaDoor

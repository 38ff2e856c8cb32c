/- NalZeros' walk. -/
import Derived.Test.YtghdnefaempigaaDoorZerosM
import Derived.ChangeOld
namespace Go.Proofs.YtghdnefaempigaaDoor
open Go.RowKit
set_option linter.unusedVariables false

set_option maxHeartbeats 4000000 in
theorem zeros_walk (n : Nat) (last : UInt8) (w : World) (hn : n ≤ 255) : Calls Tryd.prog 10 #[.int .u8 n, .int .u8 last.toNat] w fun e w' => e = .returned (.bool true) ∧ Only [] w w' := by
  obtain ⟨k, hk⟩ : ∃ k, k = n % 201 := ⟨_, rfl⟩
  have hkI : (n : Int) % 201 = (k : Int) := by omega
  have hkb : k ≤ 200 := by omega
  have n0 : (0 : Int) ≤ (n : Int) := by omega
  have n1 : (n : Int) ≤ 255 := by omega
  have KN := hid (fun w => known_any w)
  have WA := hid (want_all k last)
  have kb : (k : Int) ≤ 200 := by omega
  have l255 : (last.toNat : Int) ≤ 255 := by have := last.toNat_lt; omega
  clear hk
  go_enter Tryd.func10, Tryd.ntmps10
  go_wp2_with fail
  simp only [hkI]
  clear hkI
  go_loopg [6, 7, 8] k (fun g z m i wr => ∃ j : Nat, j + g = k ∧ i = .int .i64 ((j : Int) + 1) ∧ z = .string (bytesOf (zs j)) ∧ m = .string (bytesOf (wantL k last j)) ∧ wr = w)
  case atStart => exact ⟨0, by omega, rfl, rfl, rfl, rfl⟩
  case round =>
    obtain ⟨j, hj, rfl, rfl, rfl, rfl⟩ := hrel
    have J := hid hj
    have jb : (j : Int) ≤ 200 := by omega
    have j0 : (0 : Int) ≤ (j : Int) := by omega
    have zl : (bytesOf (zs j)).size ≤ 200 := by rw [size_bytesOf, zs_len]; omega
    have ml : (bytesOf (wantL k last j)).size ≤ 400 := by rw [size_bytesOf]; have := want_len k last j; omega
    by_cases hg : j < k
    · have i1 : (j : Int) + 1 ≤ (k : Int) := by omega
      obtain ⟨g, rfl⟩ : ∃ g, gk = g + 1 := ⟨gk - 1, by omega⟩
      have Z2 := hid (show bytesOf (zs j) ++ ⟨#[0]⟩ = bytesOf (zs (j + 1)) from by rw [bytes_snoc, zs_succ])
      have W2 : wantL k last (j + 1) = wantL k last j ++ [0] ++ if (j + 1) % 2 = 0 ∧ (j + 1 < k ∨ last ≤ 3) then [3] else [] := rfl
      have zb : (bytesOf (zs j)).size + 1 ≤ 9223372036854775807 := by omega
      have mb : (bytesOf (wantL k last j)).size + 1 ≤ 9223372036854775807 := by omega
      have mc : (bytesOf (wantL k last j)).size + 1 + 1 ≤ 9223372036854775807 := by omega
      clear hj
      by_cases a : (j + 1) % 2 = 0
      · have a' : ((j : Int) + 1) % 2 = 0 := by omega
        by_cases b : j + 1 < k
        · have b' : (j : Int) + 1 < (k : Int) := by omega
          rw [if_pos ⟨a, .inl b⟩] at W2
          have W3 := hid (show bytesOf (wantL k last j) ++ ⟨#[0]⟩ ++ ⟨#[3]⟩ = bytesOf (wantL k last (j + 1)) from by rw [W2, bytes_snoc, bytes_snoc])
          clear W2 a b hg
          generalize bytesOf (zs j) = Z at *
          generalize bytesOf (wantL k last j) = M at *
          go_wp2_with fail
          go_roundg g
          case measure => omega
          case rel => exact ⟨j + 1, by have := J.out; omega, by go_num, by rw [Z2.out], by rw [W3.out], rfl⟩
        · have b' : ¬ (j : Int) + 1 < (k : Int) := by omega
          by_cases c : last ≤ 3
          · have c' : (last.toNat : Int) ≤ 3 := (u8_leI _ 3 (by omega)).1 c
            rw [if_pos ⟨a, .inr c⟩] at W2
            have W3 := hid (show bytesOf (wantL k last j) ++ ⟨#[0]⟩ ++ ⟨#[3]⟩ = bytesOf (wantL k last (j + 1)) from by rw [W2, bytes_snoc, bytes_snoc])
            clear W2 a b c hg
            generalize bytesOf (zs j) = Z at *
            generalize bytesOf (wantL k last j) = M at *
            go_wp2_with fail
            go_roundg g
            case measure => omega
            case rel => exact ⟨j + 1, by have := J.out; omega, by go_num, by rw [Z2.out], by rw [W3.out], rfl⟩
          · have c' : ¬ (last.toNat : Int) ≤ 3 := fun e => c ((u8_leI _ 3 (by omega)).2 e)
            rw [if_neg (fun e => by rcases e.2 with e | e; exact b e; exact c e)] at W2
            have W3 := hid (show bytesOf (wantL k last j) ++ ⟨#[0]⟩ = bytesOf (wantL k last (j + 1)) from by rw [W2, bytes_snoc, List.append_nil])
            clear W2 a b c hg
            generalize bytesOf (zs j) = Z at *
            generalize bytesOf (wantL k last j) = M at *
            go_wp2_with fail
            go_roundg g
            case measure => omega
            case rel => exact ⟨j + 1, by have := J.out; omega, by go_num, by rw [Z2.out], by rw [W3.out], rfl⟩
      · have a' : ¬ ((j : Int) + 1) % 2 = 0 := by omega
        have a2 : (((j : Int) + 1) % 2 == 0) = false := by rw [beq_eq_false_iff_ne]; exact a'
        rw [if_neg (fun e => a e.1)] at W2
        have W3 := hid (show bytesOf (wantL k last j) ++ ⟨#[0]⟩ = bytesOf (wantL k last (j + 1)) from by rw [W2, bytes_snoc, List.append_nil])
        clear W2 a hg
        generalize bytesOf (zs j) = Z at *
        generalize bytesOf (wantL k last j) = M at *
        go_wp2_with fail
        go_roundg g
        case measure => omega
        case rel => exact ⟨j + 1, by have := J.out; omega, by go_num, by rw [Z2.out], by rw [W3.out], rfl⟩
    · obtain rfl : j = k := by omega
      have i1 : ¬ (j : Int) + 1 ≤ (j : Int) := by omega
      by_cases h0 : last = 0
      · have h0' := (u8_zeroI _).1 h0
        have C1 := hid (fun w => esc_any (bytesOf (zs j)) w (by omega))
        rw [show (bytesOf (zs j)).data.toList = zs j from by simp [bytesOf], WA.out.1 h0] at C1
        clear hg h0
        generalize bytesOf (zs j) = Z at *
        generalize bytesOf (wantL j last j) = M at *
        go_wp2_with (first
          | (go_at_call 16; refine (C1.out _).mono ?_; rintro e w3 ⟨rfl, ho3⟩; have O3 := hid ho3; clear ho3)
          | (go_at_call 11; refine (KN.out _).mono ?_; rintro e w9 ⟨rfl, ho9⟩; have O9 := hid ho9; clear ho9))
        go_ret
        exact ⟨rfl, O3.out.trans O9.out⟩
      · have h0' := mt (u8_zeroI _).2 h0
        have zb : (bytesOf (zs j)).size + (bytesOf [last]).size ≤ 9223372036854775807 := by rw [size_bytesOf [last]]; simp only [List.length_cons, List.length_nil]; omega
        have mb : (bytesOf (wantL j last j)).size + (bytesOf [last]).size ≤ 9223372036854775807 := by rw [size_bytesOf [last]]; simp only [List.length_cons, List.length_nil]; omega
        have CA := conv_new last wr
        have E1 : bytesOf (zs j) ++ bytesOf [last] = bytesOf (zs j ++ [last]) := bytes_snoc _ _
        have E2 : bytesOf (wantL j last j) ++ bytesOf [last] = bytesOf (wantL j last j ++ [last]) := bytes_snoc _ _
        have C1 := hid (fun w => esc_any (bytesOf (zs j) ++ bytesOf [last]) w (by rw [E1, size_bytesOf]; simp [zs]; omega))
        rw [show (bytesOf (zs j) ++ bytesOf [last]).data.toList = zs j ++ [last] from by rw [E1]; simp [bytesOf], WA.out.2 h0, ← E2] at C1
        clear hg h0 E1 E2
        generalize bytesOf (zs j) = Z at *
        generalize bytesOf (wantL j last j) = M at *
        generalize bytesOf [last] = L at *
        go_wp2_with (first
          | (go_at_call 16; refine (C1.out _).mono ?_; rintro e w3 ⟨rfl, ho3⟩; have O3 := hid ho3; clear ho3)
          | (go_at_call 11; refine (KN.out _).mono ?_; rintro e w9 ⟨rfl, ho9⟩; have O9 := hid ho9; clear ho9))
        go_ret
        exact ⟨rfl, (((Only.refl [] _).alloc _).trans O3.out).trans O9.out⟩
open Go.ChangeShapes Go.WideShapes Go.ChangeAt
theorem nalZeros_core {H : Type} {enc : TypeId × Value → H} (W : World) (base : Nat)
    (v0 : Value) (d0 : DataW H) (p0 : List MemPlace) (k0 : Value.okWide Tryd.prog W .any base 5 v0) (h0 : DataW.Trod enc Tryd.prog W 0 (fun _ => true) true 5 v0 d0 p0)
    (v1 : Value) (d1 : DataW H) (p1 : List MemPlace) (k1 : Value.okWide Tryd.prog W .any base 5 v1) (h1 : DataW.Trod enc Tryd.prog W 0 (fun _ => true) true 5 v1 d1 p1) :
    Calls Tryd.prog 10 #[v0, v1] W fun e w' => e = .returned (.bool true) ∧ Below W.heap.size W w' := by
  obtain ⟨a, rfl, rfl, rfl, w1⟩ := open_int Tryd.underlying5 k0 h0
  obtain ⟨b, rfl, rfl, rfl, w2⟩ := open_int Tryd.underlying5 k1 h1
  have b1 := bounds_u8u w1
  have b2 := bounds_u8u w2
  obtain ⟨n, rfl⟩ := Int.eq_ofNat_of_zero_le b1.1
  obtain ⟨m, rfl⟩ := Int.eq_ofNat_of_zero_le b2.1
  have hm : (UInt8.ofNat m).toNat = m := by rw [UInt8.toNat_ofNat']; omega
  have := zeros_walk n (UInt8.ofNat m) W (by omega)
  rw [hm] at this
  exact this.mono fun e w' ⟨he, ho⟩ => ⟨he, ho.below (Nat.le_refl _) (by simp)⟩
end Go.Proofs.YtghdnefaempigaaDoor

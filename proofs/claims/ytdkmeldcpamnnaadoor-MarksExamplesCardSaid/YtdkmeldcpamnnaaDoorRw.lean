/- The reference's writer of codes. -/
import Derived.Test.YtdkmeldcpamnnaaDoorApp
import Derived.Test.YtdkmeldcpamnnaaDoorUw
import Derived.Deep.LoopGhost
namespace Go.Proofs.YtdkmeldcpamnnaaDoor
open Go.RowKit
set_option linter.unusedVariables false

theorem RPut.same {w : World} {b : Nat} {sv : Value} {l : List Bool} (h : RWr w b sv l) : RPut w w b sv sv l := ⟨h, fun g hg => .inl hg, Only.refl _ _⟩
theorem RPut.trans {w w1 w2 : World} {b : Nat} {sv sv1 sv2 : Value} {l1 l2 : List Bool} (h : RPut w w1 b sv sv1 l1) (k : RPut w1 w2 b sv1 sv2 l2) : RPut w w2 b sv sv2 l2 :=
  ⟨k.wr, fun g hg => by
    rcases k.own g hg with e | e
    · exact h.own g e
    · exact .inr (Nat.le_trans h.only.size e),
   h.only.trans2 k.only (fun x hx => by
    rcases List.mem_cons.1 hx with e | e
    · exact .inl (by rw [e]; exact List.mem_cons_self)
    · rcases h.own x e with e | e
      · exact .inl (List.mem_cons_of_mem _ e)
      · exact .inr e)⟩

theorem ueBits_two (v n : Nat) (hn : Lib.bitLen (v + 1) = n + 1) (h : v + 1 < 2 ^ (n + 1)) : ueBits v = bitsOf n 0 ++ bitsOf (n + 1) (v + 1) := by
  unfold ueBits
  rw [hn, show 2 * (n + 1) - 1 = n + (n + 1) from by omega, bitsOf_small _ _ h]

set_option maxHeartbeats 1000000 in
theorem rputue_yes (b : Nat) (sv : Value) (l : List Bool) (v : Nat) (w : World) (h : RWr w b sv l) (hv : v ≤ 4294967294) (hsz : l.length + 128 ≤ 140737488355328) :
    Calls Tryd.prog 39 #[.pointer (some ⟨b, 0, none⟩), .int .u64 v] w fun e w' => e = .returned (.int .i64 0) ∧ ∃ sv', RPut w w' b sv sv' (l ++ ueBits v) := by
  have H := hid h
  have p32 : (2 : Nat) ^ 32 = 4294967296 := by decide
  obtain ⟨b1, b2, b3, b4⟩ := bitLen_mid (v + 1) (by omega) (by omega)
  obtain ⟨N, hN⟩ : ∃ N, Lib.bitLen (v + 1) = N + 1 := ⟨Lib.bitLen (v + 1) - 1, by omega⟩
  have TW := hid (ueBits_two v N hN (hN ▸ b4))
  rw [hN] at b2 b3 b4
  rw [Nat.add_sub_cancel] at b3
  have P1 := hid (fun w h => rput_yes b sv l N 0 w h (by omega) (Nat.pow_pos (by omega)) (by omega))
  have P2 := hid (fun sv1 w h => rput_yes b sv1 (l ++ bitsOf N 0) (N + 1) (v + 1) w h (by omega) b4 (by rw [List.length_append, length_bitsOf]; omega))
  have c1 : ((N + 1 : Nat) : Int) = (N : Int) + 1 := by omega
  have c2 : ((v + 1 : Nat) : Int) = (v : Int) + 1 := by omega
  have c3 : ((0 : Nat) : Int) = 0 := rfl
  rw [c1, c2] at P2
  rw [c3] at P1
  have B3 := hid b3
  have B4 := hid b4
  have hN31 : N ≤ 31 := by omega
  have hv' : (v : Int) ≤ 4294967294 := by omega
  clear h p32 b1 b2 b3 b4 hN c1 c2 c3 hv hsz
  go_enter Tryd.func39, Tryd.ntmps39
  go_wp2_with fail
  go_loopg [5] N (fun g i wr => ∃ n : Nat, n + g = N ∧ i = .int .i64 n ∧ wr = w)
  case atStart => exact ⟨0, by omega, rfl, rfl⟩
  case round =>
    obtain ⟨n, hn, rfl, rfl⟩ := hrel
    have J := hid hn
    have hn31 : (n : Int) ≤ 31 := by omega
    have ht : ((n : Int) + 1).toNat = n + 1 := by omega
    obtain ⟨X, hX⟩ : ∃ X : Nat, X = 2 ^ (n + 1) := ⟨_, rfl⟩
    have hp : (2 : Int) ^ (n + 1) = (X : Int) := by rw [hX, Int.natCast_pow]; rfl
    have hX32 : (X : Int) ≤ 4294967296 := by
      have : 2 ^ (n + 1) ≤ 2 ^ 32 := Nat.pow_le_pow_right (by omega) (by omega)
      have p32 : (2 : Nat) ^ 32 = 4294967296 := by decide
      omega
    by_cases hg : gk = 0
    · obtain rfl : n = N := by omega
      have hlt : (v : Int) + 1 < (X : Int) := by have := B4.out; omega
      clear hn hX
      go_wp2_with fail
      refine (P1.out wr H.out).mono ?_
      rintro e w1 ⟨rfl, sv1, hp1⟩
      have L1 := hid hp1
      have C2 := hid (P2.out sv1 w1 hp1.wr)
      clear hp1
      go_wp2_with fail
      refine C2.out.mono ?_
      rintro e w2 ⟨rfl, sv2, hp2⟩
      go_wp2_with fail
      go_ret
      refine ⟨rfl, sv2, ?_⟩
      rw [TW.out, ← List.append_assoc]
      exact L1.out.trans hp2
    · have hle : (X : Int) ≤ (v : Int) + 1 := by
        have := B3.out
        have : 2 ^ (n + 1) ≤ 2 ^ N := Nat.pow_le_pow_right (by omega) (by omega)
        omega
      clear hn hX
      go_wp2_with fail
      go_roundg (gk - 1)
      case measure => omega
      case rel => exact ⟨n + 1, by have := J.out; omega, by go_num, rfl⟩

set_option maxHeartbeats 400000 in
theorem rputue_range (b : Nat) (v : Int) (w : World) (h : 4294967294 < v) :
    Calls Tryd.prog 39 #[.pointer (some ⟨b, 0, none⟩), .int .u64 v] w fun e w' => e = .returned (.int .i64 3) ∧ w = w' := by
  go_enter Tryd.func39, Tryd.ntmps39
  go_wp2
  go_ret
  exact ⟨rfl, rfl⟩
theorem rputue_any (b : Nat) (sv : Value) (l : List Bool) (v : Nat) (w : World) (h : RWr w b sv l) (hsz : l.length + 128 ≤ 140737488355328) :
    Calls Tryd.prog 39 #[.pointer (some ⟨b, 0, none⟩), .int .u64 v] w fun e w' => e = .returned (.int .i64 (wrUe l v).1) ∧ ∃ sv', RPut w w' b sv sv' (wrUe l v).2 := by
  unfold wrUe
  by_cases h1 : 4294967294 < v
  · rw [if_pos h1]
    exact (rputue_range b v w (by omega)).mono fun e w' ⟨he, hw⟩ => ⟨he, sv, hw ▸ RPut.same h⟩
  · rw [if_neg h1]
    exact rputue_yes b sv l v w h (by omega) hsz

end Go.Proofs.YtdkmeldcpamnnaaDoor

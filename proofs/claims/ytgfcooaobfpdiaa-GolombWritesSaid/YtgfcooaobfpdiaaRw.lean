/- The reference's writer of codes. -/
import Derived.Test.YtgfcooaobfpdiaaApp
import Derived.Test.YtgfcooaobfpdiaaUw
import Derived.Deep.LoopGhost
namespace Go.Proofs.Ytgfcooaobfpdiaa
open Go.RowKit
set_option linter.unusedVariables false

theorem RPut.same {w : World} {b : Nat} {sv : Value} {l : List Bool} (h : RWr w b sv l) : RPut w w b sv sv l := ⟨h, fun g hg => .inl hg, Only.refl _ _⟩
theorem RPut.trans {w w1 w2 : World} {b : Nat} {sv sv1 sv2 : Value} {l1 l2 : List Bool} (h : RPut w w1 b sv sv1 l1) (k : RPut w1 w2 b sv1 sv2 l2) : RPut w w2 b sv sv2 l2 :=
  ⟨k.wr, fun g hg => by
    rcases k.own g hg with e | e
    · exact h.own g e
    · exact .inr (Nat.le_trans h.only.size e),
   h.only.trans2 k.only (fun x hx => by
    rcases List.mem_cons.1 hx with e | e
    · exact .inl (by rw [e]; exact List.mem_cons_self)
    · rcases h.own x e with e | e
      · exact .inl (List.mem_cons_of_mem _ e)
      · exact .inr e)⟩

theorem ueBits_two (v n : Nat) (hn : Lib.bitLen (v + 1) = n + 1) (h : v + 1 < 2 ^ (n + 1)) : ueBits v = bitsOf n 0 ++ bitsOf (n + 1) (v + 1) := by
  unfold ueBits
  rw [hn, show 2 * (n + 1) - 1 = n + (n + 1) from by omega, bitsOf_small _ _ h]

set_option maxHeartbeats 1000000 in
theorem rputue_yes (b : Nat) (sv : Value) (l : List Bool) (v : Nat) (w : World) (h : RWr w b sv l) (hv : v ≤ 4294967294) (hsz : l.length + 128 ≤ 140737488355328) :
    Calls Try.prog 27 #[.pointer (some ⟨b, 0, none⟩), .int .u64 v] w fun e w' => e = .returned (.int .i64 0) ∧ ∃ sv', RPut w w' b sv sv' (l ++ ueBits v) := by
  have H := hid h
  have p32 : (2 : Nat) ^ 32 = 4294967296 := by decide
  obtain ⟨b1, b2, b3, b4⟩ := bitLen_mid (v + 1) (by omega) (by omega)
  obtain ⟨N, hN⟩ : ∃ N, Lib.bitLen (v + 1) = N + 1 := ⟨Lib.bitLen (v + 1) - 1, by omega⟩
  have TW := hid (ueBits_two v N hN (hN ▸ b4))
  rw [hN] at b2 b3 b4
  rw [Nat.add_sub_cancel] at b3
  have P1 := hid (fun w h => rput_yes b sv l N 0 w h (by omega) (Nat.pow_pos (by omega)) (by omega))
  have P2 := hid (fun sv1 w h => rput_yes b sv1 (l ++ bitsOf N 0) (N + 1) (v + 1) w h (by omega) b4 (by rw [List.length_append, length_bitsOf]; omega))
  have c1 : ((N + 1 : Nat) : Int) = (N : Int) + 1 := by omega
  have c2 : ((v + 1 : Nat) : Int) = (v : Int) + 1 := by omega
  have c3 : ((0 : Nat) : Int) = 0 := rfl
  rw [c1, c2] at P2
  rw [c3] at P1
  have B3 := hid b3
  have B4 := hid b4
  have hN31 : N ≤ 31 := by omega
  have hv' : (v : Int) ≤ 4294967294 := by omega
  clear h p32 b1 b2 b3 b4 hN c1 c2 c3 hv hsz
  go_enter Try.func27, Try.ntmps27
  go_wp2_with fail
  go_loopg [5] N (fun g i wr => ∃ n : Nat, n + g = N ∧ i = .int .i64 n ∧ wr = w)
  case atStart => exact ⟨0, by omega, rfl, rfl⟩
  case round =>
    obtain ⟨n, hn, rfl, rfl⟩ := hrel
    have J := hid hn
    have hn31 : (n : Int) ≤ 31 := by omega
    have ht : ((n : Int) + 1).toNat = n + 1 := by omega
    obtain ⟨X, hX⟩ : ∃ X : Nat, X = 2 ^ (n + 1) := ⟨_, rfl⟩
    have hp : (2 : Int) ^ (n + 1) = (X : Int) := by rw [hX, Int.natCast_pow]; rfl
    have hX32 : (X : Int) ≤ 4294967296 := by
      have : 2 ^ (n + 1) ≤ 2 ^ 32 := Nat.pow_le_pow_right (by omega) (by omega)
      have p32 : (2 : Nat) ^ 32 = 4294967296 := by decide
      omega
    by_cases hg : gk = 0
    · obtain rfl : n = N := by omega
      have hlt : (v : Int) + 1 < (X : Int) := by have := B4.out; omega
      clear hn hX
      go_wp2_with fail
      refine (P1.out wr H.out).mono ?_
      rintro e w1 ⟨rfl, sv1, hp1⟩
      have L1 := hid hp1
      have C2 := hid (P2.out sv1 w1 hp1.wr)
      clear hp1
      go_wp2_with fail
      refine C2.out.mono ?_
      rintro e w2 ⟨rfl, sv2, hp2⟩
      go_wp2_with fail
      go_ret
      refine ⟨rfl, sv2, ?_⟩
      rw [TW.out, ← List.append_assoc]
      exact L1.out.trans hp2
    · have hle : (X : Int) ≤ (v : Int) + 1 := by
        have := B3.out
        have : 2 ^ (n + 1) ≤ 2 ^ N := Nat.pow_le_pow_right (by omega) (by omega)
        omega
      clear hn hX
      go_wp2_with fail
      go_roundg (gk - 1)
      case measure => omega
      case rel => exact ⟨n + 1, by have := J.out; omega, by go_num, rfl⟩

set_option maxHeartbeats 400000 in
theorem rputue_range (b : Nat) (v : Int) (w : World) (h : 4294967294 < v) :
    Calls Try.prog 27 #[.pointer (some ⟨b, 0, none⟩), .int .u64 v] w fun e w' => e = .returned (.int .i64 3) ∧ w = w' := by
  go_enter Try.func27, Try.ntmps27
  go_wp2
  go_ret
  exact ⟨rfl, rfl⟩
theorem rputue_any (b : Nat) (sv : Value) (l : List Bool) (v : Nat) (w : World) (h : RWr w b sv l) (hsz : l.length + 128 ≤ 140737488355328) :
    Calls Try.prog 27 #[.pointer (some ⟨b, 0, none⟩), .int .u64 v] w fun e w' => e = .returned (.int .i64 (wrUe l v).1) ∧ ∃ sv', RPut w w' b sv sv' (wrUe l v).2 := by
  unfold wrUe
  by_cases h1 : 4294967294 < v
  · rw [if_pos h1]
    exact (rputue_range b v w (by omega)).mono fun e w' ⟨he, hw⟩ => ⟨he, sv, hw ▸ RPut.same h⟩
  · rw [if_neg h1]
    exact rputue_yes b sv l v w h (by omega) hsz

set_option maxHeartbeats 400000 in
theorem rputse_range (b : Nat) (v : Int) (w : World) (h : v < -2147483647 ∨ 2147483647 < v) :
    Calls Try.prog 29 #[.pointer (some ⟨b, 0, none⟩), .int .i64 v] w fun e w' => e = .returned (.int .i64 3) ∧ w = w' := by
  rcases h with h | h
  · go_enter Try.func29, Try.ntmps29
    go_wp2
    go_ret
    exact ⟨rfl, rfl⟩
  · have h' : -2147483647 ≤ v := by omega
    go_enter Try.func29, Try.ntmps29
    go_wp2
    go_ret
    exact ⟨rfl, rfl⟩
set_option maxHeartbeats 400000 in
theorem rputse_yes (b : Nat) (sv : Value) (l : List Bool) (v : Int) (w : World) (h : RWr w b sv l) (h1 : -2147483647 ≤ v) (h2 : v ≤ 2147483647) (hsz : l.length + 128 ≤ 140737488355328) :
    Calls Try.prog 29 #[.pointer (some ⟨b, 0, none⟩), .int .i64 v] w fun e w' => e = .returned (.int .i64 0) ∧ ∃ sv', RPut w w' b sv sv' (l ++ ueBits (seNum v)) := by
  have C := hid (fun x (hx : x = seNum v) => rputue_any b sv l x w h hsz)
  have C2 := hid (C.out _ rfl)
  rw [wrUe_se l v h1 h2] at C2
  clear C
  by_cases h0 : 0 < v
  · have e : ((seNum v : Nat) : Int) = 2 * v - 1 := by unfold seNum; rw [if_pos h0]; omega
    rw [e] at C2
    generalize seNum v = x at *
    clear h hsz e
    go_enter Try.func29, Try.ntmps29
    go_wp2_with fail
    refine C2.out.mono ?_
    rintro e w1 ⟨rfl, sv', hP⟩
    go_wp2_with fail
    go_ret
    exact ⟨rfl, sv', hP⟩
  · have e : ((seNum v : Nat) : Int) = -2 * v := by unfold seNum; rw [if_neg h0]; omega
    rw [e] at C2
    have h0' : v ≤ 0 := by omega
    generalize seNum v = x at *
    clear h hsz e h0
    go_enter Try.func29, Try.ntmps29
    go_wp2_with fail
    refine C2.out.mono ?_
    rintro e w1 ⟨rfl, sv', hP⟩
    go_wp2_with fail
    go_ret
    exact ⟨rfl, sv', hP⟩
theorem rputse_any (b : Nat) (sv : Value) (l : List Bool) (v : Int) (w : World) (h : RWr w b sv l) (hsz : l.length + 128 ≤ 140737488355328) :
    Calls Try.prog 29 #[.pointer (some ⟨b, 0, none⟩), .int .i64 v] w fun e w' => e = .returned (.int .i64 (wrSe l v).1) ∧ ∃ sv', RPut w w' b sv sv' (wrSe l v).2 := by
  unfold wrSe
  by_cases h1 : v < -2147483647 ∨ 2147483647 < v
  · rw [if_pos h1]
    exact (rputse_range b v w h1).mono fun e w' ⟨he, hw⟩ => ⟨he, sv, hw ▸ RPut.same h⟩
  · rw [if_neg h1]
    exact rputse_yes b sv l v w h (by omega) (by omega) hsz
set_option maxHeartbeats 400000 in
theorem rputte_range (b : Nat) (most v : Int) (w : World) (h : 4294967294 < most ∨ most < v) :
    Calls Try.prog 31 #[.pointer (some ⟨b, 0, none⟩), .int .u64 most, .int .u64 v] w fun e w' => e = .returned (.int .i64 3) ∧ w = w' := by
  have h' : 4294967294 < most ∨ (most ≤ 4294967294 ∧ most < v) := by omega
  clear h
  rcases h' with h | ⟨h1, h2⟩
  all_goals
    go_enter Try.func31, Try.ntmps31
    go_wp2
    go_ret
    exact ⟨rfl, rfl⟩
set_option maxHeartbeats 400000 in
theorem rputte_zero (b : Nat) (w : World) :
    Calls Try.prog 31 #[.pointer (some ⟨b, 0, none⟩), .int .u64 0, .int .u64 0] w fun e w' => e = .returned (.int .i64 0) ∧ w = w' := by
  go_enter Try.func31, Try.ntmps31
  go_wp2
  go_ret
  exact ⟨rfl, rfl⟩
set_option maxHeartbeats 400000 in
theorem rputte_one (b : Nat) (sv : Value) (l : List Bool) (v : Nat) (w : World) (h : RWr w b sv l) (hv : v ≤ 1) (hsz : l.length + 128 ≤ 140737488355328) :
    Calls Try.prog 31 #[.pointer (some ⟨b, 0, none⟩), .int .u64 1, .int .u64 v] w fun e w' => e = .returned (.int .i64 0) ∧ ∃ sv', RPut w w' b sv sv' (l ++ bitsOf 1 (1 - v)) := by
  have C := hid (rput_yes b sv l 1 (1 - v) w h (by omega) (by omega) (by omega))
  have e : ((1 - v : Nat) : Int) = 1 - (v : Int) := by omega
  rw [e] at C
  generalize bitsOf 1 (1 - v) = m at *
  have hv' : (v : Int) ≤ 1 := by omega
  clear h hv hsz e
  go_enter Try.func31, Try.ntmps31
  go_wp2_with fail
  refine C.out.mono ?_
  rintro e w1 ⟨rfl, sv', hP⟩
  go_wp2_with fail
  go_ret
  exact ⟨rfl, sv', hP⟩
set_option maxHeartbeats 400000 in
theorem rputte_more (b : Nat) (sv : Value) (l : List Bool) (most v : Nat) (w : World) (h : RWr w b sv l) (h1 : most ≤ 4294967294) (h2 : 2 ≤ most) (hv : v ≤ most) (hsz : l.length + 128 ≤ 140737488355328) :
    Calls Try.prog 31 #[.pointer (some ⟨b, 0, none⟩), .int .u64 most, .int .u64 v] w fun e w' => e = .returned (.int .i64 0) ∧ ∃ sv', RPut w w' b sv sv' (l ++ ueBits v) := by
  have C := hid (rputue_any b sv l v w h hsz)
  rw [show wrUe l v = (0, l ++ ueBits v) from by unfold wrUe; rw [if_neg (by omega)]] at C
  generalize ueBits v = m at *
  have m0 : ((most : Int) == 0) = false := by rw [beq_eq_false_iff_ne]; omega
  have m1 : ((most : Int) == 1) = false := by rw [beq_eq_false_iff_ne]; omega
  have hm : (most : Int) ≤ 4294967294 := by omega
  have hv' : (v : Int) ≤ (most : Int) := by omega
  clear h hv hsz h1
  go_enter Try.func31, Try.ntmps31
  go_wp2_with fail
  refine C.out.mono ?_
  rintro e w1 ⟨rfl, sv', hP⟩
  go_wp2_with fail
  go_ret
  exact ⟨rfl, sv', hP⟩
theorem rputte_any (b : Nat) (sv : Value) (l : List Bool) (most v : Nat) (w : World) (h : RWr w b sv l) (hsz : l.length + 128 ≤ 140737488355328) :
    Calls Try.prog 31 #[.pointer (some ⟨b, 0, none⟩), .int .u64 most, .int .u64 v] w fun e w' => e = .returned (.int .i64 (wrTe l most v).1) ∧ ∃ sv', RPut w w' b sv sv' (wrTe l most v).2 := by
  unfold wrTe
  by_cases h1 : 4294967294 < most ∨ most < v
  · rw [if_pos h1]
    exact (rputte_range b most v w (by omega)).mono fun e w' ⟨he, hw⟩ => ⟨he, sv, hw ▸ RPut.same h⟩
  · rw [if_neg h1]
    by_cases h2 : most = 0
    · rw [if_pos h2]
      subst h2
      obtain rfl : v = 0 := by omega
      exact (rputte_zero b w).mono fun e w' ⟨he, hw⟩ => ⟨he, sv, hw ▸ RPut.same h⟩
    · rw [if_neg h2]
      by_cases h3 : most = 1
      · rw [if_pos h3]
        subst h3
        exact rputte_one b sv l v w h (by omega) hsz
      · rw [if_neg h3]
        exact rputte_more b sv l most v w h (by omega) (by omega) (by omega) hsz
set_option maxHeartbeats 400000 in
theorem rputuk_range (b : Nat) (k : Int) (v : Int) (w : World) (h : k < 0 ∨ 8 < k) :
    Calls Try.prog 33 #[.pointer (some ⟨b, 0, none⟩), .int .i64 k, .int .u64 v] w fun e w' => e = .returned (.int .i64 3) ∧ w = w' := by
  rcases h with h | h
  · go_enter Try.func33, Try.ntmps33
    go_wp2
    go_ret
    exact ⟨rfl, rfl⟩
  · have h' : 0 ≤ k := by omega
    go_enter Try.func33, Try.ntmps33
    go_wp2
    go_ret
    exact ⟨rfl, rfl⟩
set_option maxHeartbeats 400000 in
theorem rputuk_big (b : Nat) (k v : Nat) (w : World) (hk : k ≤ 8) (h : 4294967294 < v / 2 ^ k) :
    Calls Try.prog 33 #[.pointer (some ⟨b, 0, none⟩), .int .i64 k, .int .u64 v] w fun e w' => e = .returned (.int .i64 3) ∧ w = w' := by
  have hvq : (v : Int) / 2 ^ k = ((v / 2 ^ k : Nat) : Int) := by rw [Int.natCast_ediv, Int.natCast_pow]; rfl
  generalize v / 2 ^ k = q at *
  have hk' : (k : Int) ≤ 8 := by omega
  have hq' : 4294967294 < (q : Int) := by omega
  generalize (q : Int) = q' at *
  clear hk h
  go_enter Try.func33, Try.ntmps33
  go_wp2
  go_ret
  exact ⟨rfl, rfl⟩
set_option maxHeartbeats 1000000 in
theorem rputuk_yes (b : Nat) (sv : Value) (l : List Bool) (k v : Nat) (w : World) (h : RWr w b sv l) (hk : k ≤ 8) (hv : v < 18446744073709551616) (hq : v / 2 ^ k ≤ 4294967294) (hsz : l.length + 256 ≤ 140737488355328) :
    Calls Try.prog 33 #[.pointer (some ⟨b, 0, none⟩), .int .i64 k, .int .u64 v] w fun e w' => e = .returned (.int .i64 0) ∧ ∃ sv', RPut w w' b sv sv' (l ++ ukBits k v) := by
  have H := hid h
  have hvq : (v : Int) / 2 ^ k = ((v / 2 ^ k : Nat) : Int) := by rw [Int.natCast_ediv, Int.natCast_pow]; rfl
  have hvm : (v : Int) % 2 ^ k = ((v % 2 ^ k : Nat) : Int) := by rw [Int.natCast_emod, Int.natCast_pow]; rfl
  have hul := ueBits_le (v / 2 ^ k) (Nat.lt_succ_of_le hq)
  unfold ukBits
  have hm : v % 2 ^ k < 2 ^ k := Nat.mod_lt _ (Nat.pow_pos (by omega))
  have P2 := hid (fun sv1 l1 w h hl => rput_yes b sv1 l1 k (v % 2 ^ k) w h (by omega) hm hl)
  generalize v % 2 ^ k = m at *
  generalize v / 2 ^ k = q at *
  have P1 := hid (fun w h => rputue_yes b sv l q w h (by omega) (by omega))
  generalize ueBits q = U at *
  have HL := hid (show (l ++ U).length + k ≤ 140737488355328 from by rw [List.length_append]; omega)
  have hk' : (k : Int) ≤ 8 := by omega
  have hq' : (q : Int) ≤ 4294967294 := by omega
  have p8 : 2 ^ k ≤ 2 ^ 8 := Nat.pow_le_pow_right (by omega) hk
  have p8' : (2 : Nat) ^ 8 = 256 := by decide
  have p0 : 0 < 2 ^ k := Nat.pow_pos (by omega)
  have hpow : (2 : Int) ^ k = ((2 ^ k : Nat) : Int) := by rw [Int.natCast_pow]; rfl
  have hw : IntKind.u64.wrap ((2 : Int) ^ k) = (2 : Int) ^ k := by rw [hpow]; exact wrap_nat _ (by omega)
  have i1 : (1 : Int) ≤ 2 ^ k := by rw [hpow]; omega
  have i2 : (2 : Int) ^ k ≤ 256 := by rw [hpow]; omega
  have i3 : ((2 : Int) ^ k == 0) = false := by rw [beq_eq_false_iff_ne]; omega
  clear h hpow p8 p8' p0 hk hv hsz hm hq hul
  go_enter Try.func33, Try.ntmps33
  go_wp2_with fail
  refine (P1.out w H.out).mono ?_
  rintro e w1 ⟨rfl, sv1, a⟩
  have L1 := hid a
  have C2 := hid (P2.out sv1 _ w1 a.wr HL.out)
  clear a
  go_wp2_with fail
  refine C2.out.mono ?_
  rintro e w2 ⟨rfl, sv2, a⟩
  go_wp2_with fail
  go_ret
  refine ⟨rfl, sv2, ?_⟩
  rw [← List.append_assoc]
  exact L1.out.trans a
theorem rputuk_any (b : Nat) (sv : Value) (l : List Bool) (k : Int) (v : Nat) (w : World) (h : RWr w b sv l) (hv : v < 18446744073709551616) (hsz : l.length + 256 ≤ 140737488355328) :
    Calls Try.prog 33 #[.pointer (some ⟨b, 0, none⟩), .int .i64 k, .int .u64 v] w fun e w' => e = .returned (.int .i64 (wrUk l k v).1) ∧ ∃ sv', RPut w w' b sv sv' (wrUk l k v).2 := by
  unfold wrUk
  by_cases h1 : k < 0 ∨ 8 < k
  · rw [if_pos (by omega)]
    exact (rputuk_range b k v w h1).mono fun e w' ⟨he, hw⟩ => ⟨he, sv, hw ▸ RPut.same h⟩
  · obtain ⟨j, rfl⟩ := Int.eq_ofNat_of_zero_le (show 0 ≤ k by omega)
    rw [Int.toNat_natCast]
    by_cases h2 : 4294967294 < v / 2 ^ j
    · rw [if_pos (.inr (.inr h2))]
      exact (rputuk_big b j v w (by omega) h2).mono fun e w' ⟨he, hw⟩ => ⟨he, sv, hw ▸ RPut.same h⟩
    · rw [if_neg (fun e => by rcases e with e | e | e; exact h1 (.inl e); exact h1 (.inr e); exact h2 e)]
      exact rputuk_yes b sv l j v w h (by omega) hv (Nat.le_of_not_lt h2) hsz

end Go.Proofs.Ytgfcooaobfpdiaa

/- Package golomb: what writes. -/
import Derived.Test.YtdkmeldcpamnnaaDoorWr2
import Derived.Test.YtdkmeldcpamnnaaDoorUeM
import Derived.Test.YtdkmeldcpamnnaaDoorLen64
namespace Go.Proofs.YtdkmeldcpamnnaaDoor
open Go.RowKit
set_option linter.unusedVariables false

/-- What PutUk answers, and the bits behind it. -/
def wrUk (l : List Bool) (k : Int) (v : Nat) : Int × List Bool := if k < 0 ∨ 8 < k ∨ 4294967294 < v / 2 ^ k.toNat then (3, l) else (0, l ++ ukBits k.toNat v)

theorem PutLeft.trans {w w1 w2 : World} {b : Nat} {sv sv1 sv2 : Value} {l1 l2 : List Bool} (h : PutLeft w w1 b sv sv1 l1) (k : PutLeft w1 w2 b sv1 sv2 l2) : PutLeft w w2 b sv sv2 l2 :=
  ⟨k.wr, fun g hg => by
    rcases k.own g hg with e | e
    · exact h.own g e
    · exact .inr (Nat.le_trans h.only.size e),
   h.only.trans2 k.only (fun x hx => by
    rcases List.mem_cons.1 hx with e | e
    · exact .inl (by rw [e]; exact List.mem_cons_self)
    · rcases h.own x e with e | e
      · exact .inl (List.mem_cons_of_mem _ e)
      · exact .inr e)⟩

theorem and_mod (v k : Nat) (hv : v < 18446744073709551616) (hk : k ≤ 8) : bits .and .u64 (v : Int) ((2 : Int) ^ k - 1) = ((v % 2 ^ k : Nat) : Int) := by
  have p8 : 2 ^ k ≤ 2 ^ 8 := Nat.pow_le_pow_right (by omega) hk
  have p8' : (2 : Nat) ^ 8 = 256 := by decide
  have p0 : 0 < 2 ^ k := Nat.pow_pos (by omega)
  have p64 : (2 : Nat) ^ 64 = 18446744073709551616 := by decide
  have hpow : (2 : Int) ^ k = ((2 ^ k : Nat) : Int) := by rw [Int.natCast_pow]; rfl
  rw [hpow, show ((2 ^ k : Nat) : Int) - 1 = ((2 ^ k - 1 : Nat) : Int) from by omega, u64_and_nat _ _ (by omega) (by omega), Nat.and_two_pow_sub_one_eq_mod]

set_option maxHeartbeats 1000000 in
theorem putuk_yes (b : Nat) (sv : Value) (l : List Bool) (k v : Nat) (w : World) (h : Wr w b sv l) (hk : k ≤ 8) (hv : v < 18446744073709551616) (hq : v / 2 ^ k ≤ 4294967294) (hsz : l.length + 128 ≤ 281474976710656) :
    Calls Tryd.prog 66 #[.pointer (some ⟨b, 0, none⟩), .int .i64 k, .int .u64 v] w fun e w' => e = .returned (.int .i64 0) ∧ ∃ sv', PutLeft w w' b sv sv' (l ++ ukBits k v) := by
  have H := hid h
  have hvq : (v : Int) / 2 ^ k = ((v / 2 ^ k : Nat) : Int) := by rw [Int.natCast_ediv, Int.natCast_pow]; rfl
  unfold ukBits ueBits
  have AM := and_mod v k hv hk
  have hm : v % 2 ^ k < 2 ^ k := Nat.mod_lt _ (Nat.pow_pos (by omega))
  have P2 := hid (fun sv1 l1 w h hl => put_yes b sv1 l1 k (v % 2 ^ k) w h (by omega) hm hl)
  generalize v % 2 ^ k = m at *
  generalize v / 2 ^ k = q at *
  have p32 : (2 : Nat) ^ 32 = 4294967296 := by decide
  obtain ⟨b1, b2, b3, b4⟩ := bitLen_mid (q + 1) (by omega) (by omega)
  have LN := hid (fun w => len64_any (q + 1) w (by omega))
  generalize Lib.bitLen (q + 1) = L at *
  have P1 := hid (fun w h => put_yes b sv l (2 * L - 1) (q + 1) w h (by omega) (Nat.lt_of_lt_of_le b4 (Nat.pow_le_pow_right (by omega) (by omega))) (by omega))
  have c1 : ((2 * L - 1 : Nat) : Int) = 2 * (L : Int) - 1 := by omega
  have c2 : ((q + 1 : Nat) : Int) = (q : Int) + 1 := by omega
  rw [c1, c2] at P1
  rw [c2] at LN
  have hk' : (k : Int) ≤ 8 := by omega
  have hq' : (q : Int) ≤ 4294967294 := by omega
  have l1 : 1 ≤ (L : Int) := by omega
  have l2 : (L : Int) ≤ 32 := by omega
  have hv' : (v : Int) ≤ 18446744073709551615 := by omega
  have p8 : 2 ^ k ≤ 2 ^ 8 := Nat.pow_le_pow_right (by omega) hk
  have p8' : (2 : Nat) ^ 8 = 256 := by decide
  have p0 : 0 < 2 ^ k := Nat.pow_pos (by omega)
  have hpow : (2 : Int) ^ k = ((2 ^ k : Nat) : Int) := by rw [Int.natCast_pow]; rfl
  have hw : IntKind.u64.wrap ((2 : Int) ^ k) = (2 : Int) ^ k := by rw [hpow]; exact wrap_nat _ (by omega)
  have i1 : (1 : Int) ≤ 2 ^ k := by rw [hpow]; omega
  have i2 : (2 : Int) ^ k ≤ 256 := by rw [hpow]; omega
  have hl2 : ∀ x : Nat, (l ++ bitsOf (2 * L - 1) x).length + k ≤ 281474976710656 := fun x => by rw [List.length_append, length_bitsOf]; omega
  have HL := hid hl2
  clear h c1 c2 hq b1 b2 b3 b4 hpow p8 p8' p0 p32 hk hv hsz hm hl2
  go_enter Tryd.func66, Tryd.ntmps66
  go_wp2_with fail
  refine (LN.out w).mono ?_
  rintro e w0 ⟨rfl, rfl⟩
  go_wp2_with fail
  refine (P1.out w H.out).mono ?_
  rintro e w1 ⟨rfl, sv1, a1, a2, a3⟩
  have L1 := hid (show PutLeft w w1 b sv sv1 _ from ⟨a1, a2, a3⟩)
  have C2 := hid (P2.out sv1 _ w1 a1 (HL.out _))
  clear a1 a2 a3
  go_wp2_with fail
  refine C2.out.mono ?_
  rintro e w2 ⟨rfl, sv2, a1, a2, a3⟩
  have L2 := hid (show PutLeft w1 w2 b sv1 sv2 _ from ⟨a1, a2, a3⟩)
  clear a1 a2 a3
  go_wp2_with fail
  go_ret
  refine ⟨rfl, sv2, ?_⟩
  rw [← List.append_assoc]
  exact L1.out.trans L2.out

set_option maxHeartbeats 400000 in
theorem putuk_range (b : Nat) (k : Int) (v : Int) (w : World) (h : k < 0 ∨ 8 < k) :
    Calls Tryd.prog 66 #[.pointer (some ⟨b, 0, none⟩), .int .i64 k, .int .u64 v] w fun e w' => e = .returned (.int .i64 3) ∧ w = w' := by
  rcases h with h | h
  · go_enter Tryd.func66, Tryd.ntmps66
    go_wp2
    go_ret
    exact ⟨rfl, rfl⟩
  · have h' : 0 ≤ k := by omega
    go_enter Tryd.func66, Tryd.ntmps66
    go_wp2
    go_ret
    exact ⟨rfl, rfl⟩
set_option maxHeartbeats 400000 in
theorem putuk_big (b : Nat) (k v : Nat) (w : World) (hk : k ≤ 8) (h : 4294967294 < v / 2 ^ k) :
    Calls Tryd.prog 66 #[.pointer (some ⟨b, 0, none⟩), .int .i64 k, .int .u64 v] w fun e w' => e = .returned (.int .i64 3) ∧ w = w' := by
  have hvq : (v : Int) / 2 ^ k = ((v / 2 ^ k : Nat) : Int) := by rw [Int.natCast_ediv, Int.natCast_pow]; rfl
  generalize v / 2 ^ k = q at *
  have hk' : (k : Int) ≤ 8 := by omega
  have hq' : 4294967294 < (q : Int) := by omega
  generalize (q : Int) = q' at *
  clear hk h
  go_enter Tryd.func66, Tryd.ntmps66
  go_wp2
  go_ret
  exact ⟨rfl, rfl⟩
set_option maxHeartbeats 400000 in
theorem putuk_nil (k v : Int) (w : World) :
    Calls Tryd.prog 66 #[.pointer none, .int .i64 k, .int .u64 v] w fun e w' => e = .returned (.int .i64 1) ∧ w = w' := by
  go_enter Tryd.func66, Tryd.ntmps66
  go_wp2
  go_ret
  exact ⟨rfl, rfl⟩
theorem putuk_any (b : Nat) (sv : Value) (l : List Bool) (k : Int) (v : Nat) (w : World) (h : Wr w b sv l) (hv : v < 18446744073709551616) (hsz : l.length + 128 ≤ 281474976710656) :
    Calls Tryd.prog 66 #[.pointer (some ⟨b, 0, none⟩), .int .i64 k, .int .u64 v] w fun e w' => e = .returned (.int .i64 (wrUk l k v).1) ∧ ∃ sv', PutLeft w w' b sv sv' (wrUk l k v).2 := by
  unfold wrUk
  by_cases h1 : k < 0 ∨ 8 < k
  · rw [if_pos (by omega)]
    exact (putuk_range b k v w h1).mono fun e w' ⟨he, hw⟩ => ⟨he, sv, hw ▸ PutLeft.same h⟩
  · obtain ⟨j, rfl⟩ := Int.eq_ofNat_of_zero_le (show 0 ≤ k by omega)
    rw [Int.toNat_natCast]
    by_cases h2 : 4294967294 < v / 2 ^ j
    · rw [if_pos (.inr (.inr h2))]
      exact (putuk_big b j v w (by omega) h2).mono fun e w' ⟨he, hw⟩ => ⟨he, sv, hw ▸ PutLeft.same h⟩
    · rw [if_neg (fun e => by rcases e with e | e | e; exact h1 (.inl e); exact h1 (.inr e); exact h2 e)]
      exact putuk_yes b sv l j v w h (by omega) hv (Nat.le_of_not_lt h2) hsz

theorem ukBits_zero (v : Nat) : ukBits 0 v = ueBits v := by
  unfold ukBits; rw [Nat.pow_zero, Nat.div_one]; simp [bitsOf]

/-- What PutUe, PutSe, PutTe answer, and the bits behind it. -/
def wrUe (l : List Bool) (v : Nat) : Int × List Bool := if 4294967294 < v then (3, l) else (0, l ++ ueBits v)
def seNum (v : Int) : Nat := if 0 < v then (2 * v - 1).toNat else (-2 * v).toNat
def wrSe (l : List Bool) (v : Int) : Int × List Bool := if v < -2147483647 ∨ 2147483647 < v then (3, l) else (0, l ++ ueBits (seNum v))
def wrTe (l : List Bool) (most v : Nat) : Int × List Bool :=
  if 4294967294 < most ∨ most < v then (3, l) else if most = 0 then (0, l) else if most = 1 then (0, l ++ bitsOf 1 (1 - v)) else (0, l ++ ueBits v)

theorem wrUk_zero (l : List Bool) (v : Nat) : wrUk l 0 v = wrUe l v := by
  unfold wrUk wrUe
  rw [show (0 : Int).toNat = 0 from rfl, ukBits_zero, Nat.pow_zero, Nat.div_one]
  by_cases h : 4294967294 < v
  · rw [if_pos (by omega), if_pos h]
  · rw [if_neg (by omega), if_neg h]

set_option maxHeartbeats 400000 in
theorem putue_any (b : Nat) (sv : Value) (l : List Bool) (v : Nat) (w : World) (h : Wr w b sv l) (hv : v < 18446744073709551616) (hsz : l.length + 128 ≤ 281474976710656) :
    Calls Tryd.prog 57 #[.pointer (some ⟨b, 0, none⟩), .int .u64 v] w fun e w' => e = .returned (.int .i64 (wrUe l v).1) ∧ ∃ sv', PutLeft w w' b sv sv' (wrUe l v).2 := by
  have C := hid (putuk_any b sv l 0 v w h hv hsz)
  rw [wrUk_zero] at C
  generalize wrUe l v = r at *
  obtain ⟨x, y⟩ := r
  clear h hv hsz
  go_enter Tryd.func57, Tryd.ntmps57
  go_wp2_with fail
  refine C.out.mono ?_
  rintro e w1 ⟨rfl, sv', hP⟩
  go_wp2_with fail
  go_ret
  exact ⟨rfl, sv', hP⟩
set_option maxHeartbeats 400000 in
theorem putue_nil (v : Int) (w : World) :
    Calls Tryd.prog 57 #[.pointer none, .int .u64 v] w fun e w' => e = .returned (.int .i64 1) ∧ w = w' := by
  go_enter Tryd.func57, Tryd.ntmps57
  go_wp2_with fail
  refine (putuk_nil 0 v w).mono ?_
  rintro e w1 ⟨rfl, rfl⟩
  go_wp2_with fail
  go_ret
  exact ⟨rfl, rfl⟩

theorem wrUe_se (l : List Bool) (v : Int) (h1 : -2147483647 ≤ v) (h2 : v ≤ 2147483647) : wrUe l (seNum v) = (0, l ++ ueBits (seNum v)) := by
  unfold wrUe
  rw [if_neg]
  unfold seNum
  split <;> omega
end Go.Proofs.YtdkmeldcpamnnaaDoor

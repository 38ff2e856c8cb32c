/- Package golomb: what writes. -/
/- Plain facts on codes for the later layers: what is read by ue has the bits of its code; strings of bits as characters. -/
/- Plain: what was written is read; what is read was written. Ahead of it: Plain: lists of reference commands, their bits, what reads and what checks them. -/
/- Slices of commands (structs of three cells): those that a call collects, those that are only read. -/
/- The kit's EqualMods and CopyMods. -/
import Derived.Test.YtjjjfmnhdnajkaaGreatDoorMg4
import Derived.Test.YtjjjfmnhdnajkaaGreatDoorUeM
import Derived.Test.YtjjjfmnhdnajkaaGreatDoorLen64
import Derived.Maps.AppendAt
import Derived.Laws.StructEq
import Derived.Deep.LoopGhost
import Derived.Deep.DeepCutAuto
section
set_option maxRecDepth 20000
namespace Go.Proofs.YtjjjfmnhdnajkaaGreatDoor
open Go.RowKit
set_option linter.unusedVariables false

/-- What PutUk answers, and the bits behind it. -/
def wrUk (l : List Bool) (k : Int) (v : Nat) : Int × List Bool := if k < 0 ∨ 8 < k ∨ 4294967294 < v / 2 ^ k.toNat then (3, l) else (0, l ++ ukBits k.toNat v)

theorem PutLeft.trans {w w1 w2 : World} {b : Nat} {sv sv1 sv2 : Value} {l1 l2 : List Bool} (h : PutLeft w w1 b sv sv1 l1) (k : PutLeft w1 w2 b sv1 sv2 l2) : PutLeft w w2 b sv sv2 l2 :=
  ⟨k.wr, fun g hg => by
    rcases k.own g hg with e | e
    · exact h.own g e
    · exact .inr (Nat.le_trans h.only.size e),
   h.only.trans2 k.only (fun x hx => by
    rcases List.mem_cons.1 hx with e | e
    · exact .inl (by rw [e]; exact List.mem_cons_self)
    · rcases h.own x e with e | e
      · exact .inl (List.mem_cons_of_mem _ e)
      · exact .inr e)⟩

theorem and_mod (v k : Nat) (hv : v < 18446744073709551616) (hk : k ≤ 8) : bits .and .u64 (v : Int) ((2 : Int) ^ k - 1) = ((v % 2 ^ k : Nat) : Int) := by
  have p8 : 2 ^ k ≤ 2 ^ 8 := Nat.pow_le_pow_right (by omega) hk
  have p8' : (2 : Nat) ^ 8 = 256 := by decide
  have p0 : 0 < 2 ^ k := Nat.pow_pos (by omega)
  have p64 : (2 : Nat) ^ 64 = 18446744073709551616 := by decide
  have hpow : (2 : Int) ^ k = ((2 ^ k : Nat) : Int) := by rw [Int.natCast_pow]; rfl
  rw [hpow, show ((2 ^ k : Nat) : Int) - 1 = ((2 ^ k - 1 : Nat) : Int) from by omega, u64_and_nat _ _ (by omega) (by omega), Nat.and_two_pow_sub_one_eq_mod]

set_option maxHeartbeats 1000000 in
theorem putuk_yes (b : Nat) (sv : Value) (l : List Bool) (k v : Nat) (w : World) (h : Wr w b sv l) (hk : k ≤ 8) (hv : v < 18446744073709551616) (hq : v / 2 ^ k ≤ 4294967294) (hsz : l.length + 128 ≤ 281474976710656) :
    Calls Tryz.prog 110 #[.pointer (some ⟨b, 0, none⟩), .int .i64 k, .int .u64 v] w fun e w' => e = .returned (.int .i64 0) ∧ ∃ sv', PutLeft w w' b sv sv' (l ++ ukBits k v) := by
  have H := hid h
  have hvq : (v : Int) / 2 ^ k = ((v / 2 ^ k : Nat) : Int) := by rw [Int.natCast_ediv, Int.natCast_pow]; rfl
  unfold ukBits ueBits
  have AM := and_mod v k hv hk
  have hm : v % 2 ^ k < 2 ^ k := Nat.mod_lt _ (Nat.pow_pos (by omega))
  have P2 := hid (fun sv1 l1 w h hl => put_yes b sv1 l1 k (v % 2 ^ k) w h (by omega) hm hl)
  generalize v % 2 ^ k = m at *
  generalize v / 2 ^ k = q at *
  have p32 : (2 : Nat) ^ 32 = 4294967296 := by decide
  obtain ⟨b1, b2, b3, b4⟩ := bitLen_mid (q + 1) (by omega) (by omega)
  have LN := hid (fun w => len64_any (q + 1) w (by omega))
  generalize Lib.bitLen (q + 1) = L at *
  have P1 := hid (fun w h => put_yes b sv l (2 * L - 1) (q + 1) w h (by omega) (Nat.lt_of_lt_of_le b4 (Nat.pow_le_pow_right (by omega) (by omega))) (by omega))
  have c1 : ((2 * L - 1 : Nat) : Int) = 2 * (L : Int) - 1 := by omega
  have c2 : ((q + 1 : Nat) : Int) = (q : Int) + 1 := by omega
  rw [c1, c2] at P1
  rw [c2] at LN
  have hk' : (k : Int) ≤ 8 := by omega
  have hq' : (q : Int) ≤ 4294967294 := by omega
  have l1 : 1 ≤ (L : Int) := by omega
  have l2 : (L : Int) ≤ 32 := by omega
  have hv' : (v : Int) ≤ 18446744073709551615 := by omega
  have p8 : 2 ^ k ≤ 2 ^ 8 := Nat.pow_le_pow_right (by omega) hk
  have p8' : (2 : Nat) ^ 8 = 256 := by decide
  have p0 : 0 < 2 ^ k := Nat.pow_pos (by omega)
  have hpow : (2 : Int) ^ k = ((2 ^ k : Nat) : Int) := by rw [Int.natCast_pow]; rfl
  have hw : IntKind.u64.wrap ((2 : Int) ^ k) = (2 : Int) ^ k := by rw [hpow]; exact wrap_nat _ (by omega)
  have i1 : (1 : Int) ≤ 2 ^ k := by rw [hpow]; omega
  have i2 : (2 : Int) ^ k ≤ 256 := by rw [hpow]; omega
  have hl2 : ∀ x : Nat, (l ++ bitsOf (2 * L - 1) x).length + k ≤ 281474976710656 := fun x => by rw [List.length_append, length_bitsOf]; omega
  have HL := hid hl2
  clear h c1 c2 hq b1 b2 b3 b4 hpow p8 p8' p0 p32 hk hv hsz hm hl2
  go_enter Tryz.func110, Tryz.ntmps110
  go_wp2_with fail
  refine (LN.out w).mono ?_
  rintro e w0 ⟨rfl, rfl⟩
  go_wp2_with fail
  refine (P1.out w H.out).mono ?_
  rintro e w1 ⟨rfl, sv1, a1, a2, a3⟩
  have L1 := hid (show PutLeft w w1 b sv sv1 _ from ⟨a1, a2, a3⟩)
  have C2 := hid (P2.out sv1 _ w1 a1 (HL.out _))
  clear a1 a2 a3
  go_wp2_with fail
  refine C2.out.mono ?_
  rintro e w2 ⟨rfl, sv2, a1, a2, a3⟩
  have L2 := hid (show PutLeft w1 w2 b sv1 sv2 _ from ⟨a1, a2, a3⟩)
  clear a1 a2 a3
  go_wp2_with fail
  go_ret
  refine ⟨rfl, sv2, ?_⟩
  rw [← List.append_assoc]
  exact L1.out.trans L2.out

set_option maxHeartbeats 400000 in
theorem putuk_range (b : Nat) (k : Int) (v : Int) (w : World) (h : k < 0 ∨ 8 < k) :
    Calls Tryz.prog 110 #[.pointer (some ⟨b, 0, none⟩), .int .i64 k, .int .u64 v] w fun e w' => e = .returned (.int .i64 3) ∧ w = w' := by
  rcases h with h | h
  · go_enter Tryz.func110, Tryz.ntmps110
    go_wp2
    go_ret
    exact ⟨rfl, rfl⟩
  · have h' : 0 ≤ k := by omega
    go_enter Tryz.func110, Tryz.ntmps110
    go_wp2
    go_ret
    exact ⟨rfl, rfl⟩
set_option maxHeartbeats 400000 in
theorem putuk_big (b : Nat) (k v : Nat) (w : World) (hk : k ≤ 8) (h : 4294967294 < v / 2 ^ k) :
    Calls Tryz.prog 110 #[.pointer (some ⟨b, 0, none⟩), .int .i64 k, .int .u64 v] w fun e w' => e = .returned (.int .i64 3) ∧ w = w' := by
  have hvq : (v : Int) / 2 ^ k = ((v / 2 ^ k : Nat) : Int) := by rw [Int.natCast_ediv, Int.natCast_pow]; rfl
  generalize v / 2 ^ k = q at *
  have hk' : (k : Int) ≤ 8 := by omega
  have hq' : 4294967294 < (q : Int) := by omega
  generalize (q : Int) = q' at *
  clear hk h
  go_enter Tryz.func110, Tryz.ntmps110
  go_wp2
  go_ret
  exact ⟨rfl, rfl⟩
set_option maxHeartbeats 400000 in
theorem putuk_nil (k v : Int) (w : World) :
    Calls Tryz.prog 110 #[.pointer none, .int .i64 k, .int .u64 v] w fun e w' => e = .returned (.int .i64 1) ∧ w = w' := by
  go_enter Tryz.func110, Tryz.ntmps110
  go_wp2
  go_ret
  exact ⟨rfl, rfl⟩
theorem putuk_any (b : Nat) (sv : Value) (l : List Bool) (k : Int) (v : Nat) (w : World) (h : Wr w b sv l) (hv : v < 18446744073709551616) (hsz : l.length + 128 ≤ 281474976710656) :
    Calls Tryz.prog 110 #[.pointer (some ⟨b, 0, none⟩), .int .i64 k, .int .u64 v] w fun e w' => e = .returned (.int .i64 (wrUk l k v).1) ∧ ∃ sv', PutLeft w w' b sv sv' (wrUk l k v).2 := by
  unfold wrUk
  by_cases h1 : k < 0 ∨ 8 < k
  · rw [if_pos (by omega)]
    exact (putuk_range b k v w h1).mono fun e w' ⟨he, hw⟩ => ⟨he, sv, hw ▸ PutLeft.same h⟩
  · obtain ⟨j, rfl⟩ := Int.eq_ofNat_of_zero_le (show 0 ≤ k by omega)
    rw [Int.toNat_natCast]
    by_cases h2 : 4294967294 < v / 2 ^ j
    · rw [if_pos (.inr (.inr h2))]
      exact (putuk_big b j v w (by omega) h2).mono fun e w' ⟨he, hw⟩ => ⟨he, sv, hw ▸ PutLeft.same h⟩
    · rw [if_neg (fun e => by rcases e with e | e | e; exact h1 (.inl e); exact h1 (.inr e); exact h2 e)]
      exact putuk_yes b sv l j v w h (by omega) hv (Nat.le_of_not_lt h2) hsz

theorem ukBits_zero (v : Nat) : ukBits 0 v = ueBits v := by
  unfold ukBits; rw [Nat.pow_zero, Nat.div_one]; simp [bitsOf]

/-- What PutUe, PutSe, PutTe answer, and the bits behind it. -/
def wrUe (l : List Bool) (v : Nat) : Int × List Bool := if 4294967294 < v then (3, l) else (0, l ++ ueBits v)
def seNum (v : Int) : Nat := if 0 < v then (2 * v - 1).toNat else (-2 * v).toNat
def wrSe (l : List Bool) (v : Int) : Int × List Bool := if v < -2147483647 ∨ 2147483647 < v then (3, l) else (0, l ++ ueBits (seNum v))
def wrTe (l : List Bool) (most v : Nat) : Int × List Bool :=
  if 4294967294 < most ∨ most < v then (3, l) else if most = 0 then (0, l) else if most = 1 then (0, l ++ bitsOf 1 (1 - v)) else (0, l ++ ueBits v)

theorem wrUk_zero (l : List Bool) (v : Nat) : wrUk l 0 v = wrUe l v := by
  unfold wrUk wrUe
  rw [show (0 : Int).toNat = 0 from rfl, ukBits_zero, Nat.pow_zero, Nat.div_one]
  by_cases h : 4294967294 < v
  · rw [if_pos (by omega), if_pos h]
  · rw [if_neg (by omega), if_neg h]

set_option maxHeartbeats 400000 in
theorem putue_any (b : Nat) (sv : Value) (l : List Bool) (v : Nat) (w : World) (h : Wr w b sv l) (hv : v < 18446744073709551616) (hsz : l.length + 128 ≤ 281474976710656) :
    Calls Tryz.prog 64 #[.pointer (some ⟨b, 0, none⟩), .int .u64 v] w fun e w' => e = .returned (.int .i64 (wrUe l v).1) ∧ ∃ sv', PutLeft w w' b sv sv' (wrUe l v).2 := by
  have C := hid (putuk_any b sv l 0 v w h hv hsz)
  rw [wrUk_zero] at C
  generalize wrUe l v = r at *
  obtain ⟨x, y⟩ := r
  clear h hv hsz
  go_enter Tryz.func64, Tryz.ntmps64
  go_wp2_with fail
  refine C.out.mono ?_
  rintro e w1 ⟨rfl, sv', hP⟩
  go_wp2_with fail
  go_ret
  exact ⟨rfl, sv', hP⟩
set_option maxHeartbeats 400000 in
theorem putue_nil (v : Int) (w : World) :
    Calls Tryz.prog 64 #[.pointer none, .int .u64 v] w fun e w' => e = .returned (.int .i64 1) ∧ w = w' := by
  go_enter Tryz.func64, Tryz.ntmps64
  go_wp2_with fail
  refine (putuk_nil 0 v w).mono ?_
  rintro e w1 ⟨rfl, rfl⟩
  go_wp2_with fail
  go_ret
  exact ⟨rfl, rfl⟩

theorem wrUe_se (l : List Bool) (v : Int) (h1 : -2147483647 ≤ v) (h2 : v ≤ 2147483647) : wrUe l (seNum v) = (0, l ++ ueBits (seNum v)) := by
  unfold wrUe
  rw [if_neg]
  unfold seNum
  split <;> omega
set_option maxHeartbeats 400000 in
theorem putse_range (b : Nat) (v : Int) (w : World) (h : v < -2147483647 ∨ 2147483647 < v) :
    Calls Tryz.prog 144 #[.pointer (some ⟨b, 0, none⟩), .int .i64 v] w fun e w' => e = .returned (.int .i64 3) ∧ w = w' := by
  rcases h with h | h
  · go_enter Tryz.func144, Tryz.ntmps144
    go_wp2
    go_ret
    exact ⟨rfl, rfl⟩
  · have h' : -2147483647 ≤ v := by omega
    go_enter Tryz.func144, Tryz.ntmps144
    go_wp2
    go_ret
    exact ⟨rfl, rfl⟩
set_option maxHeartbeats 400000 in
theorem putse_yes (b : Nat) (sv : Value) (l : List Bool) (v : Int) (w : World) (h : Wr w b sv l) (h1 : -2147483647 ≤ v) (h2 : v ≤ 2147483647) (hsz : l.length + 128 ≤ 281474976710656) :
    Calls Tryz.prog 144 #[.pointer (some ⟨b, 0, none⟩), .int .i64 v] w fun e w' => e = .returned (.int .i64 0) ∧ ∃ sv', PutLeft w w' b sv sv' (l ++ ueBits (seNum v)) := by
  have C := hid (fun x (hx : x = seNum v) => putue_any b sv l x w h (by rw [hx]; unfold seNum; split <;> omega) hsz)
  have C2 := hid (C.out _ rfl)
  rw [wrUe_se l v h1 h2] at C2
  clear C
  by_cases h0 : 0 < v
  · have e : ((seNum v : Nat) : Int) = 2 * v - 1 := by unfold seNum; rw [if_pos h0]; omega
    rw [e] at C2
    generalize seNum v = x at *
    clear h hsz e
    go_enter Tryz.func144, Tryz.ntmps144
    go_wp2_with fail
    refine C2.out.mono ?_
    rintro e w1 ⟨rfl, sv', hP⟩
    go_wp2_with fail
    go_ret
    exact ⟨rfl, sv', hP⟩
  · have e : ((seNum v : Nat) : Int) = -2 * v := by unfold seNum; rw [if_neg h0]; omega
    rw [e] at C2
    have h0' : v ≤ 0 := by omega
    generalize seNum v = x at *
    clear h hsz e h0
    go_enter Tryz.func144, Tryz.ntmps144
    go_wp2_with fail
    refine C2.out.mono ?_
    rintro e w1 ⟨rfl, sv', hP⟩
    go_wp2_with fail
    go_ret
    exact ⟨rfl, sv', hP⟩
theorem putse_any (b : Nat) (sv : Value) (l : List Bool) (v : Int) (w : World) (h : Wr w b sv l) (hsz : l.length + 128 ≤ 281474976710656) :
    Calls Tryz.prog 144 #[.pointer (some ⟨b, 0, none⟩), .int .i64 v] w fun e w' => e = .returned (.int .i64 (wrSe l v).1) ∧ ∃ sv', PutLeft w w' b sv sv' (wrSe l v).2 := by
  unfold wrSe
  by_cases h1 : v < -2147483647 ∨ 2147483647 < v
  · rw [if_pos h1]
    exact (putse_range b v w h1).mono fun e w' ⟨he, hw⟩ => ⟨he, sv, hw ▸ PutLeft.same h⟩
  · rw [if_neg h1]
    exact putse_yes b sv l v w h (by omega) (by omega) hsz
set_option maxHeartbeats 400000 in
theorem putse_nil (v : Int) (w : World) :
    Calls Tryz.prog 144 #[.pointer none, .int .i64 v] w fun e w' => e = .returned (.int .i64 1) ∧ w = w' := by
  go_enter Tryz.func144, Tryz.ntmps144
  go_wp2
  go_ret
  exact ⟨rfl, rfl⟩

end Go.Proofs.YtjjjfmnhdnajkaaGreatDoor

end
section
set_option maxRecDepth 20000
namespace Go.Proofs.YtjjjfmnhdnajkaaGreatDoor
set_option linter.unusedVariables false

theorem lead_form {s : ByteArray} {pos f : Nat} : (lead s pos f).2 = 5 → (lead s pos f).1 < f ∧ 8 * s.size ≤ pos + (lead s pos f).1 := by
  induction f generalizing pos with
  | zero => simp [lead]
  | succ f ih =>
    unfold lead
    split
    · simp; omega
    · split
      · simp
      · intro h
        have := ih (pos := pos + 1) h
        simp only
        omega
theorem lead_end {s : ByteArray} {pos f : Nat} : (lead s pos f).2 = 5 → pos ≤ 8 * s.size → pos + (lead s pos f).1 = 8 * s.size := by
  induction f generalizing pos with
  | zero => simp [lead]
  | succ f ih =>
    unfold lead
    split
    · intro _ h; simp; omega
    · split
      · simp
      · intro h hp
        have := ih (pos := pos + 1) h (by omega)
        simp only
        omega
theorem lead_four {s : ByteArray} {pos f : Nat} : (lead s pos f).2 = 4 → (lead s pos f).1 = f := by
  induction f generalizing pos with
  | zero => simp [lead]
  | succ f ih =>
    unfold lead
    split
    · simp
    · split
      · simp
      · intro h
        have := ih (pos := pos + 1) h
        simp only
        omega
/-- What the bits say of the next code. -/
theorem lead_cases (s : ByteArray) (pos : Nat) (h : pos ≤ 8 * s.size) :
    (∃ n, (lead s pos 32).1 = n ∧ n ≤ 31 ∧ 8 * s.size < pos + (2 * n + 1) ∧ rdUk s pos 0 = (0, 5, pos)) ∨ ((lead s pos 32).1 = 32 ∧ rdUk s pos 0 = (0, 4, pos)) ∨
    (∃ n x, (lead s pos 32).1 = n ∧ n ≤ 31 ∧ pos + (2 * n + 1) ≤ 8 * s.size ∧ x ≤ 4294967294 ∧ rdUk s pos 0 = (x, 0, pos + (2 * n + 1)) ∧ (ueBits x).length = 2 * n + 1 ∧ ∀ j, j < 2 * n + 1 → bitL (ueBits x) j = bitAt s (pos + j)) := by
  rcases lead_err s pos 32 with e | e | e
  · obtain ⟨_, _, c, d⟩ := lead_yes e
    by_cases h1 : 8 * s.size < pos + (2 * (lead s pos 32).1 + 1)
    · exact .inl ⟨_, rfl, by omega, h1, by unfold rdUk; rw [if_neg (by simp [e]), if_pos (by omega)]⟩
    · refine .inr (.inr ⟨(lead s pos 32).1, valOf s pos (2 * (lead s pos 32).1 + 1) - 1, rfl, by omega, by omega, ?_, ?_, ?_⟩)
      · have ev := valOf_code e (lead s pos 32).1
        rw [show (lead s pos 32).1 + (1 + (lead s pos 32).1) = 2 * (lead s pos 32).1 + 1 from by omega] at ev
        rw [ev]
        have := valOf_lt s (pos + (lead s pos 32).1 + 1) (lead s pos 32).1
        have : 2 ^ (lead s pos 32).1 ≤ 2 ^ 31 := Nat.pow_le_pow_right (by omega) (by omega)
        have : (2 : Nat) ^ 31 = 2147483648 := by decide
        omega
      · unfold rdUk
        rw [if_neg (by simp [e]), if_neg (by omega)]
        simp [valOf]
      · have ev := valOf_code e (lead s pos 32).1
        rw [show (lead s pos 32).1 + (1 + (lead s pos 32).1) = 2 * (lead s pos 32).1 + 1 from by omega] at ev
        have hl := valOf_lt s (pos + (lead s pos 32).1 + 1) (lead s pos 32).1
        have hp : 2 ^ (lead s pos 32).1 ≤ 2 ^ 31 := Nat.pow_le_pow_right (by omega) (by omega)
        have hp0 : 0 < 2 ^ (lead s pos 32).1 := Nat.pow_pos (by omega)
        have p31 : (2 : Nat) ^ 31 = 2147483648 := by decide
        have p32 : (2 : Nat) ^ 32 = 4294967296 := by decide
        have hx1 : valOf s pos (2 * (lead s pos 32).1 + 1) - 1 + 1 = valOf s pos (2 * (lead s pos 32).1 + 1) := by omega
        have hlen : Lib.bitLen (valOf s pos (2 * (lead s pos 32).1 + 1)) = (lead s pos 32).1 + 1 := by
          obtain ⟨b1, b2, b3, b4⟩ := bitLen_mid (valOf s pos (2 * (lead s pos 32).1 + 1)) (by omega) (by omega)
          generalize Lib.bitLen (valOf s pos (2 * (lead s pos 32).1 + 1)) = L at *
          have g1 : 2 ^ (lead s pos 32).1 < 2 ^ L := Nat.lt_of_le_of_lt (by omega) b4
          have g2 : 2 ^ (L - 1) < 2 ^ ((lead s pos 32).1 + 1) := Nat.lt_of_le_of_lt b3 (by rw [ev, Nat.pow_succ]; omega)
          have g1' := (Nat.pow_lt_pow_iff_right (by omega : 1 < 2)).1 g1
          have g2' := (Nat.pow_lt_pow_iff_right (by omega : 1 < 2)).1 g2
          omega
        unfold ueBits
        rw [hx1, hlen, show 2 * ((lead s pos 32).1 + 1) - 1 = 2 * (lead s pos 32).1 + 1 from by omega]
        refine ⟨length_bitsOf _ _, fun j hj => ?_⟩
        rw [bitL_bitsOf, decide_eq_true hj, Bool.true_and, valOf_eq]
        exact valF_bit _ _ _ _ hj
  · have := lead_four e
    exact .inr (.inl ⟨this, by unfold rdUk; rw [if_pos (by rw [e]; decide), e]⟩)
  · have h1 := lead_form e
    have h2 := lead_end e h
    exact .inl ⟨_, rfl, by omega, by omega, by unfold rdUk; rw [if_pos (by rw [e]; decide), e]⟩
theorem read_ue {s : ByteArray} {pos v : Nat} (hv : v ≤ 4294967294) (h : Begins s pos (ueBits v)) : rdUk s pos 0 = (v, 0, pos + (ueBits v).length) := by
  have := read_uk (s := s) (pos := pos) (k := 0) (v := v) (by rw [Nat.pow_zero, Nat.div_one]; omega) (by rw [ukBits_zero]; exact h)
  rwa [ukBits_zero] at this
theorem begins_pack (l : List Bool) (p r : List Bool) : Begins (pack (p ++ (l ++ r))) p.length l := by
  refine ⟨?_, fun j hj => ?_⟩
  · rw [size_pack]; simp only [List.length_append]; omega
  · rw [bitAt_pack, bitL_append, if_neg (by omega), bitL_append, if_pos (by omega)]; congr 1; omega
theorem chars_inj {a b : List Bool} (h : chars a = chars b) : a = b := by
  unfold chars at h
  have h1 : (a.map fun b => if b then (49 : UInt8) else 48) = b.map fun b => if b then (49 : UInt8) else 48 := by
    have := congrArg (fun x => x.data.toList) h
    simpa using this
  exact (List.map_inj_right (fun x y e => by cases x <;> cases y <;> simp_all)).1 h1

theorem chars_take (a : List Bool) (n : Nat) : ((chars a).extract 0 n).toList = (chars (a.take n)).toList := by
  rw [Lib.toList_data, Lib.toList_data]
  unfold chars
  simp [ByteArray.data_extract]
theorem chars_toList (a : List Bool) : (chars a).toList = a.map fun b => if b then (49 : UInt8) else 48 := by
  rw [Lib.toList_data]
  unfold chars
  simp
theorem chars_eqB (a b : List Bool) : ((chars a).toList == (chars b).toList) = decide (a = b) := by
  rw [chars_toList, chars_toList]
  by_cases h : a = b
  · subst h; simp
  · rw [decide_eq_false h, beq_eq_false_iff_ne]
    exact fun e => h ((List.map_inj_right (fun x y e => by cases x <;> cases y <;> simp_all)).1 e)
/-- What ue reads is a number whose code stands there. -/
theorem ue_back {s : ByteArray} {pos v q : Nat} (hp : pos ≤ 8 * s.size) (h : rdUk s pos 0 = (v, 0, q)) : v ≤ 4294967294 ∧ Begins s pos (ueBits v) ∧ q = pos + (ueBits v).length := by
  rcases lead_cases s pos hp with ⟨n, _, _, _, e⟩ | ⟨_, e⟩ | ⟨n, x, _, _, c, hx, e, hl, hb⟩
  · rw [e] at h; cases h
  · rw [e] at h; cases h
  · rw [e] at h
    cases h
    exact ⟨hx, ⟨by omega, fun j hj => (hb j (by omega)).symm⟩, by omega⟩
theorem Begins.join {s : ByteArray} {pos : Nat} {l m : List Bool} (h : Begins s pos l) (k : Begins s (pos + l.length) m) : Begins s pos (l ++ m) := by
  refine ⟨by have := k.1; rw [List.length_append]; omega, fun j hj => ?_⟩
  rw [List.length_append] at hj
  rw [bitL_append]
  by_cases e : j < l.length
  · rw [if_pos e]; exact h.2 j e
  · rw [if_neg e, ← k.2 (j - l.length) (by omega)]
    congr 1; omega
end Go.Proofs.YtjjjfmnhdnajkaaGreatDoor

end
section
set_option maxRecDepth 20000
namespace Go.Proofs.YtjjjfmnhdnajkaaGreatDoor
set_option linter.unusedVariables false

/-- How many numbers a command has, and whether there is one with this Op. -/
def hasI (m : Bool) (op : Int) : Int × Bool :=
  if m = true then (if op = 1 ∨ op = 2 ∨ op = 4 ∨ op = 6 then (1, true) else if op = 3 then (2, true) else if op = 5 then (0, true) else (0, false))
  else (1, decide (0 ≤ op ∧ op ≤ 2))
/-- The Op that ends a list. -/
def endN (m : Bool) : Nat := if m = true then 0 else 3
/-- The error of one command. -/
def errI (m : Bool) (x : Int × Int × Int) : Int :=
  if (hasI m x.1).2 = false then 9
  else if ((hasI m x.1).1 < 2 ∧ x.2.2 ≠ 0) ∨ ((hasI m x.1).1 < 1 ∧ x.2.1 ≠ 0) then 2
  else if x.2.1 < 0 ∨ 4294967294 < x.2.1 ∨ x.2.2 < 0 ∨ 4294967294 < x.2.2 then 3 else 0
def firstE (m : Bool) : List (Int × Int × Int) → Int
  | [] => 0
  | x :: l => if errI m x ≠ 0 then errI m x else firstE m l
/-- What checks a list. -/
def checkI (m : Bool) (l : List (Int × Int × Int)) : Int := if 66 < l.length then 6 else firstE m l
/-- The bits of a command, of a list. -/
def modBits (m : Bool) (x : Int × Int × Int) : List Bool :=
  ueBits x.1.toNat ++ ((if decide (0 < (hasI m x.1).1) = true then ueBits x.2.1.toNat else []) ++ (if decide (1 < (hasI m x.1).1) = true then ueBits x.2.2.toNat else []))
def modsB (m : Bool) : List (Int × Int × Int) → List Bool
  | [] => []
  | x :: l => modBits m x ++ modsB m l
def listB (m : Bool) (l : List (Int × Int × Int)) : List Bool := modsB m l ++ ueBits (endN m)
/-- What writes a list: the error, the bits behind it. -/
def putI (m : Bool) (L : List Bool) (l : List (Int × Int × Int)) : Int × List Bool := if checkI m l ≠ 0 then (checkI m l, L) else (0, L ++ listB m l)
/-- A number that a command has, or has not. -/
def numR (s : ByteArray) (q : Nat) (b : Bool) : Int × Int × Nat := if b = true then ((rdUk s q 0).1, (rdUk s q 0).2.1, (rdUk s q 0).2.2) else (0, 0, q)
/-- One element of a list: an error; or the end, or a command, and the place behind it. -/
def stepI (m : Bool) (s : ByteArray) (full : Bool) (q : Nat) : Int × Option (Int × Int × Int) × Nat :=
  if (rdUk s q 0).2.1 ≠ 0 then ((rdUk s q 0).2.1, none, 0)
  else if (rdUk s q 0).1 = endN m then (0, none, (rdUk s q 0).2.2)
  else if (hasI m (rdUk s q 0).1).2 = false then (9, none, 0)
  else if full = true then (6, none, 0)
  else if (numR s (rdUk s q 0).2.2 (decide (0 < (hasI m (rdUk s q 0).1).1))).2.1 ≠ 0 then ((numR s (rdUk s q 0).2.2 (decide (0 < (hasI m (rdUk s q 0).1).1))).2.1, none, 0)
  else if (numR s (numR s (rdUk s q 0).2.2 (decide (0 < (hasI m (rdUk s q 0).1).1))).2.2 (decide (1 < (hasI m (rdUk s q 0).1).1))).2.1 ≠ 0 then ((numR s (numR s (rdUk s q 0).2.2 (decide (0 < (hasI m (rdUk s q 0).1).1))).2.2 (decide (1 < (hasI m (rdUk s q 0).1).1))).2.1, none, 0)
  else (0, some (((rdUk s q 0).1 : Int), (numR s (rdUk s q 0).2.2 (decide (0 < (hasI m (rdUk s q 0).1).1))).1, (numR s (numR s (rdUk s q 0).2.2 (decide (0 < (hasI m (rdUk s q 0).1).1))).2.2 (decide (1 < (hasI m (rdUk s q 0).1).1))).1), (numR s (numR s (rdUk s q 0).2.2 (decide (0 < (hasI m (rdUk s q 0).1).1))).2.2 (decide (1 < (hasI m (rdUk s q 0).1).1))).2.2)
/-- Commands, and then what another reading gives. -/
def joinT (done : List (Int × Int × Int)) (t : List (Int × Int × Int) × Int × Nat) : List (Int × Int × Int) × Int × Nat := if t.2.1 ≠ 0 then ([], t.2.1, 0) else (done ++ t.1, 0, t.2.2)
/-- A list, of which k more commands may be read. -/
def readF (m : Bool) (s : ByteArray) : Nat → Nat → List (Int × Int × Int) × Int × Nat
  | 0, q => match stepI m s true q with
    | (e, _, p) => joinT [] ([], e, p)
  | k + 1, q => match stepI m s false q with
    | (e, none, p) => joinT [] ([], e, p)
    | (e, some x, p) => joinT [x] (readF m s k p)
/-- What reads a list: the list, the error, the place behind it. -/
def readI (m : Bool) (s : ByteArray) (pos : Nat) : List (Int × Int × Int) × Int × Nat := ((readF m s 66 pos).1, (readF m s 66 pos).2.1, if (readF m s 66 pos).2.1 = 0 then (readF m s 66 pos).2.2 else pos)

theorem joinT_nil (t : List (Int × Int × Int) × Int × Nat) (h : t.2.1 ≠ 0 → t = ([], t.2.1, 0)) : joinT [] t = t := by
  unfold joinT
  by_cases e : t.2.1 = 0
  · rw [if_neg (fun x => x e), List.nil_append, ← e]
  · rw [if_pos e, ← h e]
theorem joinT_join (a b : List (Int × Int × Int)) (t : List (Int × Int × Int) × Int × Nat) : joinT a (joinT b t) = joinT (a ++ b) t := by
  unfold joinT
  by_cases e : t.2.1 = 0
  · simp [e, List.append_assoc]
  · simp [e]
theorem hasI_le {m : Bool} {op : Int} (h : (hasI m op).2 = true) : 0 ≤ op ∧ op ≤ 6 ∧ op ≠ (endN m : Nat) ∧ 0 ≤ (hasI m op).1 ∧ (hasI m op).1 ≤ 2 := by
  unfold hasI endN at *
  cases m
  · simp at h ⊢; omega
  · simp only [if_true] at h ⊢
    split at h
    · rename_i c; rw [if_pos c]; simp only [Int.ofNat_zero]; omega
    · rename_i c; rw [if_neg c]
      split at h
      · rename_i c; rw [if_pos c]; simp only [Int.ofNat_zero]; omega
      · rename_i c; rw [if_neg c]
        split at h
        · rename_i c; rw [if_pos c]; simp only [Int.ofNat_zero]; omega
        · cases h
theorem errI_ok {m : Bool} {x : Int × Int × Int} (h : errI m x = 0) : (hasI m x.1).2 = true ∧ ((hasI m x.1).1 < 2 → x.2.2 = 0) ∧ ((hasI m x.1).1 < 1 → x.2.1 = 0) ∧ 0 ≤ x.2.1 ∧ x.2.1 ≤ 4294967294 ∧ 0 ≤ x.2.2 ∧ x.2.2 ≤ 4294967294 := by
  unfold errI at h
  split at h
  · cases h
  · rename_i a
    split at h
    · cases h
    · rename_i b
      split at h
      · cases h
      · rename_i c
        refine ⟨by simpa using a, fun e => ?_, fun e => ?_, by omega, by omega, by omega, by omega⟩
        · exact Classical.byContradiction fun z => b (.inl ⟨e, z⟩)
        · exact Classical.byContradiction fun z => b (.inr ⟨e, z⟩)
theorem errI_of {m : Bool} {x : Int × Int × Int} (h : (hasI m x.1).2 = true) (h1 : (hasI m x.1).1 < 2 → x.2.2 = 0) (h2 : (hasI m x.1).1 < 1 → x.2.1 = 0) (a : 0 ≤ x.2.1) (b : x.2.1 ≤ 4294967294) (c : 0 ≤ x.2.2) (d : x.2.2 ≤ 4294967294) : errI m x = 0 := by
  unfold errI
  rw [if_neg (by rw [h]; simp), if_neg, if_neg (by omega)]
  rintro (⟨e, f⟩ | ⟨e, f⟩)
  · exact f (h1 e)
  · exact f (h2 e)
end Go.Proofs.YtjjjfmnhdnajkaaGreatDoor
namespace Go.Proofs.YtjjjfmnhdnajkaaGreatDoor
set_option linter.unusedVariables false

theorem numR_of {s : ByteArray} {q : Nat} {b : Bool} {v : Int} (h0 : 0 ≤ v) (h1 : v ≤ 4294967294) (hb : b = false → v = 0) (h : Begins s q (if b = true then ueBits v.toNat else [])) :
    numR s q b = (v, 0, q + (if b = true then ueBits v.toNat else []).length) := by
  unfold numR
  cases b with
  | false => simp [hb rfl]
  | true =>
    simp only [if_true] at h ⊢
    rw [read_ue (by omega) h]
    simp only [Prod.mk.injEq, and_true]
    omega
theorem numR_back {s : ByteArray} {q p : Nat} {b : Bool} {v : Int} (hq : q ≤ 8 * s.size) (h : numR s q b = (v, 0, p)) : 0 ≤ v ∧ v ≤ 4294967294 ∧ (b = false → v = 0) ∧ Begins s q (if b = true then ueBits v.toNat else []) ∧ p = q + (if b = true then ueBits v.toNat else []).length := by
  unfold numR at h
  cases b with
  | false =>
    simp at h
    obtain ⟨h1, h2⟩ := h
    subst h1 h2
    exact ⟨by omega, by omega, fun _ => rfl, ⟨by simpa using hq, fun j hj => by simp at hj⟩, by simp⟩
  | true =>
    simp only [if_true, Prod.mk.injEq] at h
    obtain ⟨h1, h2, h3⟩ := h
    obtain ⟨a, c, d⟩ := ue_back (v := (rdUk s q 0).1) (q := (rdUk s q 0).2.2) hq (by rw [← h2])
    refine ⟨by omega, by omega, (fun e => by cases e), ?_, ?_⟩
    · simp only [if_true]; rw [← h1, Int.toNat_natCast]; exact c
    · simp only [if_true]; rw [← h1, Int.toNat_natCast, ← h3]; exact d
theorem step_end {m : Bool} {s : ByteArray} {full : Bool} {q : Nat} (h : Begins s q (ueBits (endN m))) : stepI m s full q = (0, none, q + (ueBits (endN m)).length) := by
  have r := read_ue (v := endN m) (by unfold endN; split <;> omega) h
  unfold stepI
  rw [r]
  simp
theorem step_mod {m : Bool} {s : ByteArray} {q : Nat} {x : Int × Int × Int} (hx : errI m x = 0) (h : Begins s q (modBits m x)) : stepI m s false q = (0, some x, q + (modBits m x).length) := by
  obtain ⟨h1, h2, h3, a, b, c, d⟩ := errI_ok hx
  obtain ⟨o1, o2, o3, o4, o5⟩ := hasI_le h1
  have hop : ((x.1.toNat : Nat) : Int) = x.1 := by omega
  have b1 := h.left
  have b2 := h.right.left
  have b3 := h.right.right
  have r := read_ue (v := x.1.toNat) (by omega) b1
  have n1 := numR_of (s := s) (q := q + (ueBits x.1.toNat).length) (b := decide (0 < (hasI m x.1).1)) (v := x.2.1) a b (fun e => h3 (by have := of_decide_eq_false e; omega)) b2
  have n2 := numR_of (s := s) (q := q + (ueBits x.1.toNat).length + (if decide (0 < (hasI m x.1).1) = true then ueBits x.2.1.toNat else []).length) (b := decide (1 < (hasI m x.1).1)) (v := x.2.2) c d (fun e => h2 (by have := of_decide_eq_false e; omega)) b3
  have ne : ¬ x.1.toNat = endN m := by omega
  unfold stepI
  rw [r]
  simp only [hop, n1, n2, h1, ne_eq, not_true_eq_false, if_false, Bool.true_eq_false, Bool.false_eq_true, ne]
  unfold modBits
  simp only [List.length_append, Prod.mk.injEq, true_and]
  omega
theorem firstE_cons {m : Bool} {x : Int × Int × Int} {l : List (Int × Int × Int)} (h : firstE m (x :: l) = 0) : errI m x = 0 ∧ firstE m l = 0 := by
  rw [firstE] at h
  by_cases e : errI m x = 0
  · rw [if_neg (fun z => z e)] at h; exact ⟨e, h⟩
  · rw [if_pos e] at h; exact absurd h e
/-- What was written is read. -/
theorem readF_of (m : Bool) (s : ByteArray) : ∀ (l : List (Int × Int × Int)) (k pos : Nat), firstE m l = 0 → l.length ≤ k → Begins s pos (listB m l) → readF m s k pos = (l, 0, pos + (listB m l).length) := by
  intro l
  induction l with
  | nil =>
    intro k pos _ _ h
    have h' : Begins s pos (ueBits (endN m)) := by simpa [listB, modsB] using h
    have e : (listB m []).length = (ueBits (endN m)).length := by simp [listB, modsB]
    rw [e]
    cases k with
    | zero => rw [readF, step_end h']; simp [joinT]
    | succ k => rw [readF, step_end h']; simp [joinT]
  | cons x l ih =>
    intro k pos hv hk h
    obtain ⟨hx, hl⟩ := firstE_cons hv
    cases k with
    | zero => simp at hk
    | succ k =>
      have e : listB m (x :: l) = modBits m x ++ listB m l := by simp [listB, modsB, List.append_assoc]
      rw [e] at h ⊢
      rw [readF, step_mod hx h.left]
      simp only
      rw [ih k _ hl (by simpa using hk) h.right]
      simp [joinT, Nat.add_assoc]
theorem step_back {m : Bool} {s : ByteArray} {q p : Nat} {full : Bool} {o : Option (Int × Int × Int)} (hq : q ≤ 8 * s.size) (h : stepI m s full q = (0, o, p)) :
    (o = none ∧ Begins s q (ueBits (endN m)) ∧ p = q + (ueBits (endN m)).length) ∨ ∃ x, o = some x ∧ full = false ∧ errI m x = 0 ∧ Begins s q (modBits m x) ∧ p = q + (modBits m x).length := by
  unfold stepI at h
  split at h
  · rename_i c
    simp only [Prod.mk.injEq] at h
    exact absurd h.1 c
  · rename_i c
    have c' : (rdUk s q 0).2.1 = 0 := Classical.byContradiction c
    obtain ⟨a1, a2, a3⟩ := ue_back (v := (rdUk s q 0).1) (q := (rdUk s q 0).2.2) hq (by rw [← c'])
    split at h
    · rename_i e
      simp only [Prod.mk.injEq, true_and] at h
      obtain ⟨h1, h2⟩ := h
      rw [e] at a2 a3
      exact .inl ⟨h1.symm, a2, by rw [← h2]; exact a3⟩
    · split at h
      · simp at h
      · rename_i e1
        have e1' : (hasI m (rdUk s q 0).1).2 = true := by simpa using e1
        split at h
        · simp at h
        · rename_i hf
          have hf' : full = false := by simpa using hf
          generalize hA : numR s (rdUk s q 0).2.2 (decide (0 < (hasI m (rdUk s q 0).1).1)) = A at h
          split at h
          · rename_i z
            simp only [Prod.mk.injEq] at h
            exact absurd h.1 z
          · rename_i z
            have z' : A.2.1 = 0 := Classical.byContradiction z
            obtain ⟨Av, Ae, Ap⟩ := A
            simp only at z'
            subst z'
            obtain ⟨b0, b1, b2, b3, b4⟩ := numR_back (by have := a2.1; omega) hA
            generalize hB : numR s (Av, (0 : Int), Ap).2.2 (decide (1 < (hasI m (rdUk s q 0).1).1)) = B at h
            split at h
            · rename_i y
              simp only [Prod.mk.injEq] at h
              exact absurd h.1 y
            · rename_i y
              have y' : B.2.1 = 0 := Classical.byContradiction y
              obtain ⟨Bv, Be, Bp⟩ := B
              simp only at y'
              subst y'
              simp only at hB
              obtain ⟨d0, d1, d2, d3, d4⟩ := numR_back (by have := b3.1; omega) hB
              simp only [Prod.mk.injEq, true_and] at h
              obtain ⟨h1, h2⟩ := h
              obtain ⟨o1, o2, o3, o4, o5⟩ := hasI_le e1'
              refine .inr ⟨_, h1.symm, hf', errI_of e1' (fun e => d2 (by rw [decide_eq_false_iff_not]; simp only at e; omega)) (fun e => b2 (by rw [decide_eq_false_iff_not]; simp only at e; omega)) b0 b1 d0 d1, ?_, ?_⟩
              · unfold modBits
                simp only [Int.toNat_natCast]
                refine a2.join (Begins.join ?_ ?_)
                · rw [← a3]; exact b3
                · rw [← a3, ← b4]; exact d3
              · unfold modBits
                simp only [Int.toNat_natCast, List.length_append]
                omega
/-- What is read was written. -/
theorem readF_back (m : Bool) (s : ByteArray) : ∀ (k : Nat) (l : List (Int × Int × Int)) (pos q : Nat), pos ≤ 8 * s.size → readF m s k pos = (l, 0, q) → firstE m l = 0 ∧ l.length ≤ k ∧ Begins s pos (listB m l) ∧ q = pos + (listB m l).length := by
  intro k
  induction k with
  | zero =>
    intro l pos q hp h
    rw [readF] at h
    generalize hS : stepI m s true pos = S at h
    obtain ⟨e, o, p⟩ := S
    simp only [joinT] at h
    split at h
    · rename_i c; simp only [Prod.mk.injEq] at h; exact absurd h.2.1 c
    · rename_i c
      have c' : e = 0 := Classical.byContradiction c
      subst c'
      simp only [List.append_nil, Prod.mk.injEq, true_and] at h
      obtain ⟨rfl, rfl⟩ := h
      rcases step_back hp hS with ⟨_, a, b⟩ | ⟨x, _, f, _⟩
      · exact ⟨rfl, Nat.le_refl _, by simpa [listB, modsB] using a, by simpa [listB, modsB] using b⟩
      · cases f
  | succ k ih =>
    intro l pos q hp h
    rw [readF] at h
    generalize hS : stepI m s false pos = S at h
    obtain ⟨e, o, p⟩ := S
    cases o with
    | none =>
      simp only [joinT] at h
      split at h
      · rename_i c; simp only [Prod.mk.injEq] at h; exact absurd h.2.1 c
      · rename_i c
        have c' : e = 0 := Classical.byContradiction c
        subst c'
        simp only [List.append_nil, Prod.mk.injEq, true_and] at h
        obtain ⟨rfl, rfl⟩ := h
        rcases step_back hp hS with ⟨_, a, b⟩ | ⟨x, f, _⟩
        · exact ⟨rfl, by simp, by simpa [listB, modsB] using a, by simpa [listB, modsB] using b⟩
        · cases f
    | some x =>
      have he : e = 0 := by
        unfold stepI at hS
        repeat' split at hS
        all_goals first | (cases hS; rfl) | (simp at hS)
      subst he
      rcases step_back hp hS with ⟨f, _⟩ | ⟨x', f, _, hx, hb, hp'⟩
      · cases f
      · cases f
        dsimp only at h
        generalize hT : readF m s k p = T at h
        obtain ⟨tl, te, tq⟩ := T
        simp only [joinT] at h
        split at h
        · rename_i c; simp only [Prod.mk.injEq] at h; exact absurd h.2.1 c
        · rename_i c
          have c' : te = 0 := Classical.byContradiction c
          subst c'
          simp only [Prod.mk.injEq, true_and] at h
          obtain ⟨rfl, rfl⟩ := h
          obtain ⟨i1, i2, i3, i4⟩ := ih tl p tq (by have := hb.1; omega) hT
          have e : listB m (x :: tl) = modBits m x ++ listB m tl := by simp [listB, modsB, List.append_assoc]
          refine ⟨?_, by simpa using i2, ?_, ?_⟩
          · show firstE m (x :: tl) = 0
            rw [firstE, if_neg (fun z => z hx)]; exact i1
          · show Begins s pos (listB m (x :: tl))
            rw [e]; exact hb.join (by rw [← hp']; exact i3)
          · show tq = pos + (listB m (x :: tl)).length
            rw [e, List.length_append]; omega
end Go.Proofs.YtjjjfmnhdnajkaaGreatDoor

end
section
set_option maxRecDepth 20000
namespace Go.Proofs.YtjjjfmnhdnajkaaGreatDoor
open Go.RowKit
set_option linter.unusedVariables false

theorem info_mod : (Tryz.prog.info? 37).map (fun i => (i.zero, i.size, i.bytes)) = some (some (.agg #[.int .u8 0, .int .i64 0, .int .i64 0]), 3, 24) := by kernel_rfl
theorem und_mods : Tryz.prog.underlying 31 = some (.slice 37) := by kernel_rfl
/-- The cells of a command, of a list. -/
def cellsOfM (x : Int × Int × Int) : List Value := [.int .u8 x.1, .int .i64 x.2.1, .int .i64 x.2.2]
def cellsM : List (Int × Int × Int) → List Value
  | [] => []
  | x :: l => cellsOfM x ++ cellsM l
theorem cellsM_length (l : List (Int × Int × Int)) : (cellsM l).length = l.length * 3 := by
  induction l with
  | nil => rfl
  | cons x l ih => rw [cellsM, List.length_append, ih]; simp [cellsOfM]; omega
theorem cellsM_append (a b : List (Int × Int × Int)) : cellsM (a ++ b) = cellsM a ++ cellsM b := by
  induction a with
  | nil => rfl
  | cons x a ih => rw [List.cons_append, cellsM, cellsM, ih, List.append_assoc]
theorem cellsM_at (l : List (Int × Int × Int)) : ∀ (j : Nat) (x : Int × Int × Int), l[j]? = some x → (cellsM l)[j * 3]? = some (.int .u8 x.1) ∧ (cellsM l)[j * 3 + 1]? = some (.int .i64 x.2.1) ∧ (cellsM l)[j * 3 + 2]? = some (.int .i64 x.2.2) := by
  induction l with
  | nil => intro j x h; simp at h
  | cons y l ih =>
    intro j x h
    cases j with
    | zero =>
      simp at h
      subst h
      simp [cellsM, cellsOfM]
    | succ j =>
      simp at h
      obtain ⟨a, b, c⟩ := ih j x h
      rw [cellsM]
      have e : (cellsOfM y).length = 3 := rfl
      refine ⟨?_, ?_, ?_⟩
      · rw [List.getElem?_append_right (by rw [e]; omega), e, show (j + 1) * 3 - 3 = j * 3 by omega]; exact a
      · rw [List.getElem?_append_right (by rw [e]; omega), e, show (j + 1) * 3 + 1 - 3 = j * 3 + 1 by omega]; exact b
      · rw [List.getElem?_append_right (by rw [e]; omega), e, show (j + 1) * 3 + 2 - 3 = j * 3 + 2 by omega]; exact c
theorem cellsM_one (l : List (Int × Int × Int)) : ∀ u, u ∈ cellsM l → u.oneCell' = true := by
  induction l with
  | nil => intro u h; cases h
  | cons x l ih =>
    intro u h
    rw [cellsM, List.mem_append] at h
    rcases h with h | h
    · simp [cellsOfM] at h; rcases h with h | h | h <;> (subst h; rfl)
    · exact ih u h
/-- The three cells of a command. -/
structure MAt (w : World) (b o : Nat) (x : Int × Int × Int) : Prop where
  c0 : w.cell? ⟨b, o, none⟩ = some (.int .u8 x.1)
  c1 : w.cell? ⟨b, o + 1, none⟩ = some (.int .i64 x.2.1)
  c2 : w.cell? ⟨b, o + 2, none⟩ = some (.int .i64 x.2.2)
theorem MAt.only {S : List Nat} {w w' : World} {b o : Nat} {x : Int × Int × Int} (h : MAt w b o x) (k : Only S w w') (hb : b ∉ S) : MAt w' b o x := ⟨k.cell h.c0 hb, k.cell h.c1 hb, k.cell h.c2 hb⟩
/-- sv is a slice of the commands l, which nobody else holds. -/
def RowM (w : World) (sv : Value) (l : List (Int × Int × Int)) : Prop := w.ownsRow 0 37 3 sv l.length (cellsM l)
theorem RowM.nil (w : World) : RowM w (.slice none 0 0) [] := ⟨rfl, .inl ⟨rfl, rfl⟩⟩
theorem RowM.lt {w : World} {sv : Value} {l : List (Int × Int × Int)} (h : RowM w sv l) : ∀ g, g ∈ ownOf sv → g < w.heap.size := by
  intro g hg
  rcases h.2 with ⟨rfl, _⟩ | ⟨g', cap, cur, rfl, _, hh, _⟩
  · simp [ownOf, Value.ownBlock] at hg
  · simp [ownOf, Value.ownBlock] at hg
    subst hg
    exact (Array.getElem?_eq_some_iff.1 hh).1
theorem RowM.only {S : List Nat} {w w' : World} {sv : Value} {l : List (Int × Int × Int)} (h : RowM w sv l) (k : Only S w w') (hd : ∀ g, g ∈ ownOf sv → g ∉ S) : RowM w' sv l := by
  refine ⟨h.1, ?_⟩
  rcases h.2 with ⟨rfl, h0⟩ | ⟨g', cap, cur, rfl, hb, hh, r⟩
  · exact .inl ⟨rfl, h0⟩
  · exact .inr ⟨g', cap, cur, rfl, hb, by rw [k.block g' (Array.getElem?_eq_some_iff.1 hh).1 (hd g' (by simp [ownOf, Value.ownBlock]))]; exact hh, r⟩
/-- sv, of the commands l, may be read at w: whoever holds it. -/
def HoldsM (w : World) (sv : Value) (l : List (Int × Int × Int)) : Prop := ∃ a c, sv = .slice a l.length c ∧ l.length ≤ c ∧ c ≤ maxLen ∧ (l = [] ∨ ∃ b o, a = some ⟨b, o, none⟩ ∧ ∀ (j : Nat) (x : Int × Int × Int), l[j]? = some x → MAt w b (o + j * 3) x)
theorem RowM.holds {w : World} {sv : Value} {l : List (Int × Int × Int)} (h : RowM w sv l) : HoldsM w sv l := by
  rcases h.2 with ⟨rfl, h0⟩ | ⟨g, cap, cur, rfl, hb, hh, h1, h2, h3, h4⟩
  · exact ⟨none, 0, by rw [h0], by omega, by unfold maxLen; omega, .inl (List.length_eq_zero_iff.1 h0)⟩
  · refine ⟨_, _, rfl, h1, h2, .inr ⟨g, 0, rfl, fun j x hj => ?_⟩⟩
    have C := fun k u => World.ownsRow.cells (g := g) h rfl k u
    have add : ∀ k : Nat, (⟨g, 0, none⟩ : Addr).add k = ⟨g, 0 + k, none⟩ := fun k => by cases k <;> simp [Addr.add]
    obtain ⟨a, b, c⟩ := cellsM_at l j x hj
    exact ⟨by have := C _ _ a; rw [add] at this; exact this, by have := C _ _ b; rw [add, ← Nat.add_assoc] at this; exact this, by have := C _ _ c; rw [add, ← Nat.add_assoc] at this; exact this⟩
theorem HoldsM.only {S : List Nat} {w w' : World} {sv : Value} {l : List (Int × Int × Int)} (h : HoldsM w sv l) (k : Only S w w') (hd : ∀ a n c, sv = .slice (some a) n c → a.block ∉ S) : HoldsM w' sv l := by
  obtain ⟨a, c, rfl, h1, h2, h3⟩ := h
  refine ⟨a, c, rfl, h1, h2, ?_⟩
  rcases h3 with h3 | ⟨b, o, rfl, hc⟩
  · exact .inl h3
  · exact .inr ⟨b, o, rfl, fun j x hj => (hc j x hj).only k (hd _ _ _ rfl)⟩
theorem HoldsM.only0 {w w' : World} {sv : Value} {l : List (Int × Int × Int)} (h : HoldsM w sv l) (k : Only [] w w') : HoldsM w' sv l := h.only k (fun _ _ _ _ => by simp)
theorem holdsM_none (w : World) : HoldsM w (.slice none 0 0) [] := ⟨none, 0, rfl, by simp, by unfold maxLen; omega, .inl rfl⟩
theorem holdsM_part1 {w : World} {a : Option Addr} {c : Nat} {l : List (Int × Int × Int)} (h : HoldsM w (.slice a l.length c) l) (k : Nat) (hk : k ≤ l.length) : HoldsM w (.slice a k c) (l.take k) := by
  obtain ⟨a2, c2, e, h1, h2, h3⟩ := h
  cases e
  refine ⟨a, c, by rw [List.length_take, Nat.min_eq_left hk], by rw [List.length_take]; omega, h2, ?_⟩
  rcases h3 with h3 | ⟨b, o, rfl, hc⟩
  · exact .inl (by rw [h3]; simp)
  · refine .inr ⟨b, o, rfl, fun j x hj => hc j x ?_⟩
    obtain ⟨hlt, hv⟩ := List.getElem?_eq_some_iff.1 hj
    rw [List.length_take] at hlt
    rw [← hj, List.getElem?_take, if_pos (by omega)]
/-- Commands that are written out. -/
theorem holdsM_lit (w : World) (l : List (Int × Int × Int)) (hl : l.length ≤ maxLen) : HoldsM (w.alloc (.cells (cellsM l).toArray 37)) (.slice (some ⟨w.heap.size, 0, none⟩) l.length l.length) l := by
  refine ⟨_, _, rfl, Nat.le_refl _, hl, .inr ⟨_, 0, rfl, fun j x hj => ?_⟩⟩
  obtain ⟨a, b, c⟩ := cellsM_at l j x hj
  refine ⟨?_, ?_, ?_⟩
  · rw [World.cell?_alloc_new]; simpa using a
  · rw [World.cell?_alloc_new]; simpa using b
  · rw [World.cell?_alloc_new]; simpa using c

theorem run_append_mods (w : World) (ty : TypeId) (sv : Value) (l : List (Int × Int × Int)) (hr : RowM w sv l) (ad : Addr) (c : Nat) (cs : List (Int × Int × Int))
    (hcs : ∀ j v, (cellsM cs)[j]? = some v → w.cell? (ad.add j) = some v) (hbig : l.length + cs.length ≤ 1000000000) :
    ∃ sv' w', (Builtin.append_ #[31, 31] ty #[sv, .slice (some ad) cs.length c]).run Tryz.prog w = .ok sv' w' ∧ RowM w' sv' (l ++ cs) ∧ Only (ownOf sv) w w' ∧ (∀ g, g ∈ ownOf sv' → g ∈ ownOf sv ∨ w.heap.size ≤ g) := by
  obtain ⟨i0, hi0, hz0, hs0, hb0⟩ := info_parts info_mod
  obtain ⟨v', w', h1, h2, h3, _, h5⟩ := run_append_own_at (P := Tryz.prog) (w := w) 0 31 ty 37 i0 (.agg #[.int .u8 0, .int .i64 0, .int .i64 0]) 3 24 und_mods hi0 hz0 hs0 hb0 rfl (by omega) sv l.length (cellsM l) hr ad cs.length c (cellsM cs) (cellsM_length cs) hcs (cellsM_one cs) (by unfold maxLen; omega) (by omega) (by omega)
  refine ⟨v', w', h1, by unfold RowM; rw [List.length_append, cellsM_append]; exact h2, grown_only h3, fun g hg => ?_⟩
  unfold ownOf at hg ⊢
  rcases h5 with e | e
  · rw [e] at hg; exact .inl hg
  · rw [e] at hg
    simp at hg
    exact .inr (by omega)
/-- One command more. -/
theorem append_mod (wr : World) (out : Value) (l : List (Int × Int × Int)) (x : Int × Int × Int) (R : RowM wr out l) (hl : l.length + 1 ≤ 1000000000) :
    ∃ sv2 w2, (Builtin.append_ #[31, 31] 31 #[out, .slice (some ⟨wr.heap.size, 0, none⟩) 1 1]).run Tryz.prog (wr.alloc (.cells #[.int .u8 x.1, .int .i64 x.2.1, .int .i64 x.2.2] 37)) = .ok sv2 w2 ∧ RowM w2 sv2 (l ++ [x]) ∧ Only (ownOf out) wr w2 ∧
      ∀ g, g ∈ ownOf sv2 → g ∈ ownOf out ∨ wr.heap.size ≤ g := by
  have ra : Only [] wr (wr.alloc (.cells #[.int .u8 x.1, .int .i64 x.2.1, .int .i64 x.2.2] 37)) := (Only.refl [] wr).alloc _
  have add : ∀ k : Nat, (⟨wr.heap.size, 0, none⟩ : Addr).add k = ⟨wr.heap.size, 0 + k, none⟩ := fun k => by cases k <;> simp [Addr.add]
  obtain ⟨sv2, w2, hrun, hrow, honly, hown⟩ := run_append_mods (wr.alloc (.cells #[.int .u8 x.1, .int .i64 x.2.1, .int .i64 x.2.2] 37)) 31 _ _ (R.only ra (by simp)) ⟨wr.heap.size, 0, none⟩ 1 [x] (fun j u hj => by
    rw [add, World.cell?_alloc_new]
    have e : (#[Value.int .u8 x.1, .int .i64 x.2.1, .int .i64 x.2.2] : Array Value) = (cellsM [x]).toArray := rfl
    rw [e]
    simpa using hj) (by simpa using hl)
  refine ⟨sv2, w2, hrun, hrow, (ra.mono (fun _ _ h => by cases h)).trans honly, fun g hg => ?_⟩
  rcases hown g hg with e | e
  · exact .inl e
  · exact .inr (by simp at e; omega)
theorem append_nothingM (w : World) (a : Option Addr) (c : Nat) :
    (Builtin.append_ #[31, 31] 31 #[.slice none 0 0, .slice a 0 c]).run Tryz.prog w = .ok (.slice none 0 0) w := by
  obtain ⟨i0, hi0, hz0, hs0, hb0⟩ := info_parts info_mod
  cases a with
  | none => simp [Builtin.append_, run_underlying und_mods, sizeOf, typeInfo, hi0, Builtin.lenOf, Builtin.firstCells]
  | some a =>
    have hfc := run_firstCells_some (P := Tryz.prog) w i0.size 0 a 0 c [] (by simp) (by simp)
    simp [Builtin.append_, run_underlying und_mods, sizeOf, typeInfo, hi0, Builtin.lenOf, hfc]
theorem append_zeroM (w : World) (g n c : Nat) (hn : n ≤ c) (x : Option Addr) (d : Nat) :
    (Builtin.append_ #[31, 31] 31 #[.slice (some ⟨g, 0, none⟩) n c, .slice x 0 d]).run Tryz.prog w = .ok (.slice (some ⟨g, 0, none⟩) n c) w := by
  obtain ⟨i0, hi0, hz0, hs0, hb0⟩ := info_parts info_mod
  cases x with
  | none => simp [Builtin.append_, run_underlying und_mods, sizeOf, typeInfo, hi0, Builtin.lenOf, Builtin.firstCells, storeCells, hn]
  | some x =>
    have h := run_append_room_cells (P := Tryz.prog) (w := w) 31 31 37 i0 und_mods hi0 g 0 n c x 0 d [] (by simp) (by simp) (by simp) hn (by simp) (by simp)
    simpa [World.setCells] using h
/-- A slice behind another. -/
theorem append_rowsM (w : World) (out b : Value) (us vs : List (Int × Int × Int)) (hr : RowM w out us) (hb : HoldsM w b vs) (hl : us.length + vs.length ≤ 1000000000) :
    ∃ sv w', (Builtin.append_ #[31, 31] 31 #[out, b]).run Tryz.prog w = .ok sv w' ∧ RowM w' sv (us ++ vs) ∧ Only (ownOf out) w w' ∧ ∀ g, g ∈ ownOf sv → g ∈ ownOf out ∨ w.heap.size ≤ g := by
  obtain ⟨a, d, rfl, _, _, HA⟩ := hb
  by_cases h0 : vs = []
  · subst h0
    refine ⟨out, w, ?_, by rw [List.append_nil]; exact hr, Only.refl _ _, fun g h => .inl h⟩
    rcases hr.2 with ⟨rfl, h1⟩ | ⟨g, cap, cur, rfl, _, _, h1, _⟩
    · exact append_nothingM w a d
    · exact append_zeroM w g us.length cap h1 a d
  · obtain ⟨b, o, rfl, hc⟩ : ∃ b o, a = some ⟨b, o, none⟩ ∧ ∀ (j : Nat) (x : Int × Int × Int), vs[j]? = some x → MAt w b (o + j * 3) x := by
      rcases HA with h | h
      · exact absurd h h0
      · exact h
    have add : ∀ k : Nat, (⟨b, o, none⟩ : Addr).add k = ⟨b, o + k, none⟩ := fun k => by cases k <;> simp [Addr.add]
    exact run_append_mods w 31 out us hr ⟨b, o, none⟩ d vs (fun j v hj => by
      have hjl : j < vs.length * 3 := by have := (List.getElem?_eq_some_iff.1 hj).1; rwa [cellsM_length] at this
      obtain ⟨i, hi⟩ : ∃ i, i = j / 3 := ⟨_, rfl⟩
      obtain ⟨x, hx⟩ : ∃ x, vs[i]? = some x := ⟨vs[i]'(by omega), List.getElem?_eq_getElem _⟩
      obtain ⟨a0, a1, a2⟩ := cellsM_at vs i _ hx
      have M := hc i _ hx
      rw [add]
      obtain rfl | rfl | rfl : j = i * 3 ∨ j = i * 3 + 1 ∨ j = i * 3 + 2 := by omega
      · rw [a0] at hj; cases hj; exact M.c0
      · rw [a1] at hj; cases hj; rw [← Nat.add_assoc]; exact M.c1
      · rw [a2] at hj; cases hj; rw [← Nat.add_assoc]; exact M.c2) hl
/-- What a call hands back lies in new memory. -/
def FreshM (w : World) (sv : Value) (l : List (Int × Int × Int)) : Prop := ∀ ad n c, sv = .slice (some ad) n c → l ≠ [] → w.heap.size ≤ ad.block
theorem freshM_own {w : World} {sv : Value} {l : List (Int × Int × Int)} (h : ∀ g, g ∈ ownOf sv → w.heap.size ≤ g) : FreshM w sv l := by
  rintro ad n c rfl _
  exact h _ (by simp [ownOf, Value.ownBlock])
theorem freshM_nil (w : World) : FreshM w (.slice none 0 0) [] := fun ad n c e => by cases e
theorem HoldsM.fresh {S : List Nat} {w w1 w2 : World} {sv : Value} {l : List (Int × Int × Int)} (h : HoldsM w1 sv l) (f : FreshM w sv l) (k : Only S w1 w2) (hS : ∀ x, x ∈ S → x < w.heap.size) : HoldsM w2 sv l := by
  by_cases e : l = []
  · obtain ⟨a2, c2, rfl, h1, h2, h3⟩ := h
    exact ⟨a2, c2, rfl, h1, h2, .inl e⟩
  · exact h.only k (fun ad n c he hx => by have := f ad n c he e; have := hS _ hx; omega)
end Go.Proofs.YtjjjfmnhdnajkaaGreatDoor

end
section
set_option maxRecDepth 20000
namespace Go.Proofs.YtjjjfmnhdnajkaaGreatDoor
open Go.RowKit
set_option linter.unusedVariables false

theorem neq_mod (x y : Int × Int × Int) (w : World) : (binOp .neq 37 (.agg #[.int .u8 x.1, .int .i64 x.2.1, .int .i64 x.2.2]) (.agg #[.int .u8 y.1, .int .i64 y.2.1, .int .i64 y.2.2])).run Tryz.prog w = .ok (.bool (!decide (x = y))) w := by
  obtain ⟨a, b, c⟩ := x
  obtain ⟨d, e, f⟩ := y
  go_simp
  by_cases h1 : a = d <;> by_cases h2 : b = e <;> by_cases h3 : c = f <;> simp [h1, h2, h3]

theorem take_oneM (l : List (Int × Int × Int)) (j : Nat) (h : j < l.length) : ∃ x, l[j]? = some x ∧ l.take (j + 1) = l.take j ++ [x] := ⟨l[j], List.getElem?_eq_getElem h, List.take_succ_eq_append_getElem h⟩
theorem HoldsM.at {w : World} {a : Option Addr} {n c : Nat} {l : List (Int × Int × Int)} (h : HoldsM w (.slice a n c) l) {j : Nat} {x : Int × Int × Int} (hx : l[j]? = some x) : ∃ b o, a = some ⟨b, o, none⟩ ∧ MAt w b (o + j * 3) x := by
  obtain ⟨a2, c2, e, _, _, h3⟩ := h
  cases e
  rcases h3 with h3 | ⟨b, o, rfl, hc⟩
  · subst h3; simp at hx
  · exact ⟨b, o, rfl, hc j x hx⟩
set_option maxHeartbeats 2000000 in
theorem eqm_any (a b : Value) (ss ts : List (Int × Int × Int)) (w : World) (ha : HoldsM w a ss) (hb : HoldsM w b ts) (h1 : ss.length ≤ 1000000) (h2 : ts.length ≤ 1000000) :
    Calls Tryz.prog 63 #[a, b] w fun e w' => e = .returned (.bool (decide (ss = ts))) ∧ Only [] w w' := by
  have HA := hid ha
  have HB := hid hb
  obtain ⟨a, c, rfl, _⟩ := ha
  obtain ⟨b, d, rfl, _⟩ := hb
  by_cases hl : ss.length = ts.length
  · have TL := hid hl
    obtain ⟨n, hn⟩ : ∃ n, n = ss.length := ⟨_, rfl⟩
    have N1 := hid hn
    have N2 := hid (hn.trans hl)
    rw [← hl, ← hn]
    rw [← hn] at h1
    clear hl h2 hn
    obtain ⟨r, hr⟩ : ∃ r, r = decide (ss = ts) := ⟨_, rfl⟩
    rw [← hr]
    have R := hid hr
    clear hr
    have nb : (n : Int) ≤ 1000000 := by omega
    go_enter Tryz.func63, Tryz.ntmps63
    go_wp2_with fail
    go_loopg [5] n (fun g t wr => ∃ j : Nat, j + g = n ∧ t = .int .i64 j ∧ ss.take j = ts.take j ∧ Only [] w wr)
    case atStart => exact ⟨0, by omega, rfl, rfl, Only.refl _ _⟩
    case round =>
      obtain ⟨j, hj, rfl, ht, hO⟩ := hrel
      have J := hid hj
      have T := hid ht
      have O := hid hO
      clear ht hO
      have jb : (j : Int) ≤ 1000000 := by omega
      have j0 : (0 : Int) ≤ (j : Int) := by omega
      by_cases hg : gk = 0
      · obtain rfl : j = n := by omega
        have i1 : ¬ (j : Int) < (j : Int) := by omega
        have E := R.out
        have e := T.out
        rw [List.take_of_length_le (by have := N1.out; omega), List.take_of_length_le (by have := N2.out; omega)] at e
        rw [decide_eq_true e] at E
        subst E
        clear hj hg e
        go_wp2_with fail
        go_ret
        exact ⟨rfl, O.out⟩
      · have i1 : (j : Int) < (n : Int) := by omega
        obtain ⟨g, rfl⟩ : ∃ g, gk = g + 1 := ⟨gk - 1, by omega⟩
        have l1 : j < ss.length := by have := N1.out; omega
        have l2 : j < ts.length := by have := N2.out; omega
        obtain ⟨x, X, T1⟩ := take_oneM ss j l1
        obtain ⟨y, Y, T2⟩ := take_oneM ts j l2
        obtain ⟨xb, xo, rfl, hx⟩ := HA.out.at X
        obtain ⟨yb, yo, rfl, hy⟩ := HB.out.at Y
        obtain ⟨x0, x1, x2⟩ := hx.only O.out (by simp)
        obtain ⟨y0, y1, y2⟩ := hy.only O.out (by simp)
        have EQ := neq_mod x y
        have X := hid X
        have Y := hid Y
        have T1 := hid T1
        have T2 := hid T2
        clear hj hg l1 l2 hx hy
        by_cases e : x = y
        · rw [decide_eq_true e] at EQ
          have EE := hid e
          clear e
          go_wp2_with fail
          go_quiet (fail)
          go_wp2_with fail
          go_roundg g
          case measure => omega
          case rel => exact ⟨j + 1, by have := J.out; omega, by go_num, by rw [T1.out, T2.out, T.out, EE.out], O.out.drewN _⟩
        · rw [decide_eq_false e] at EQ
          have NE : decide (ss = ts) = false := by
            rw [decide_eq_false_iff_not]
            intro h
            subst h
            exact e (Option.some.inj (X.out.symm.trans Y.out))
          have E := R.out
          rw [NE] at E
          subst E
          clear e NE
          go_wp2_with fail
          go_quiet (fail)
          go_wp2_with fail
          go_ret
          exact ⟨rfl, O.out.drewN _⟩
  · have hne : ((ss.length : Int) == (ts.length : Int)) = false := by rw [beq_eq_false_iff_ne]; omega
    have hne2 : ((ss.length : Int) != (ts.length : Int)) = true := by rw [bne_iff_ne]; omega
    rw [decide_eq_false (fun e => hl (by rw [e]))]
    clear hl
    go_enter Tryz.func63, Tryz.ntmps63
    go_wp2_with fail
    go_ret
    exact ⟨rfl, Only.refl _ _⟩
set_option maxHeartbeats 1000000 in
theorem cpm_any (a : Value) (ss : List (Int × Int × Int)) (w : World) (ha : HoldsM w a ss) (h1 : ss.length ≤ 1000000) :
    Calls Tryz.prog 45 #[a] w fun e w' => ∃ sv, e = .returned sv ∧ RowM w' sv ss ∧ Only [] w w' ∧ ∀ g, g ∈ ownOf sv → w.heap.size ≤ g := by
  obtain ⟨sv2, w2, hrun, hrow, honly, hown⟩ := append_rowsM w (.slice none 0 0) a [] ss (RowM.nil w) ha (by simp; omega)
  have F := hid (⟨hrow, honly, hown⟩ : _ ∧ _ ∧ _)
  obtain ⟨a, c, rfl, _⟩ := ha
  clear hrow honly hown
  go_enter Tryz.func45, Tryz.ntmps45
  go_wp2_with (at_builtin; refine Lib.wpList_append_run _ rfl _ _ _ _ rfl _ _ rfl rfl _ _ hrun ?_)
  go_ret
  obtain ⟨hrow, honly, hown⟩ := F.out
  refine ⟨_, rfl, hrow, honly.mono (fun k hk h => by simp [ownOf, Value.ownBlock] at h), fun g hg => ?_⟩
  rcases hown g hg with e | e
  · simp [ownOf, Value.ownBlock] at e
  · exact e
end Go.Proofs.YtjjjfmnhdnajkaaGreatDoor

end

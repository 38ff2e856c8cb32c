/- Package golomb: what reads. -/
import Derived.Test.YtdkmeldcpamnnaaDoorUe
namespace Go.Proofs.YtdkmeldcpamnnaaDoor
open Go.RowKit
set_option linter.unusedVariables false

theorem rdUk_zn (s : ByteArray) (pos k : Nat) : rdUk s pos k = if (lead s pos 32).2 ≠ 0 then (0, (lead s pos 32).2, pos) else if 8 * s.size < pos + (2 * zn s pos + 1 + k) then (0, 5, pos)
    else ((valOf s pos (2 * zn s pos + 1) - 1) * 2 ^ k + valOf s (pos + (2 * zn s pos + 1)) k, 0, pos + (2 * zn s pos + 1 + k)) := by
  unfold rdUk zn
  by_cases h : (lead s pos 32).2 = 0
  · simp only [h, if_true]
  · simp only [h, if_false, ne_eq, not_false_eq_true, if_true]
theorem ret_tup {k : IntKind} {a b : Int} {x : Value} (h : a = b) : Ending.returned (.tuple #[.int k a, x]) = .returned (.tuple #[.int k b, x]) := by rw [h]
theorem zn_lt (s : ByteArray) (pos : Nat) : zn s pos ≤ 31 := by
  unfold zn
  split
  · rename_i h
    have := (lead_yes h).2.2.1
    omega
  · omega
theorem valOf_pos (s : ByteArray) (pos : Nat) (h : (lead s pos 32).2 = 0) : 1 ≤ valOf s pos (2 * zn s pos + 1) ∧ valOf s pos (2 * zn s pos + 1) ≤ 4294967295 := by
  have e := valOf_code h (lead s pos 32).1
  have hz : zn s pos = (lead s pos 32).1 := by unfold zn; rw [if_pos h]
  rw [← hz] at e
  rw [show zn s pos + (1 + zn s pos) = 2 * zn s pos + 1 from by omega] at e
  rw [e]
  have h0 : 0 < 2 ^ zn s pos := Nat.pow_pos (by omega)
  have h1 := valOf_lt s (pos + zn s pos + 1) (zn s pos)
  have h2 : 2 ^ zn s pos ≤ 2 ^ 31 := Nat.pow_le_pow_right (by omega) (zn_lt s pos)
  have h3 : (2 : Nat) ^ 31 = 2147483648 := by decide
  omega
theorem shl_or (x y k : Nat) (h1 : 1 ≤ x) (hx : x ≤ 4294967295) (hk : k ≤ 8) (hy : y < 2 ^ k) :
    bits .or .u64 (IntKind.u64.wrap (((x : Int) - 1) * 2 ^ k)) (y : Int) = (((x - 1) * 2 ^ k + y : Nat) : Int) := by
  have e : ((x : Int) - 1) * 2 ^ k = (((x - 1) * 2 ^ k : Nat) : Int) := by
    rw [show (x : Int) - 1 = ((x - 1 : Nat) : Int) from by omega, Int.natCast_mul, Int.natCast_pow]; rfl
  have p : 2 ^ k ≤ 2 ^ 8 := Nat.pow_le_pow_right (by omega) hk
  have p8 : (2 : Nat) ^ 8 = 256 := by decide
  have p64 : (2 : Nat) ^ 64 = 18446744073709551616 := by decide
  have m : (x - 1) * 2 ^ k ≤ 4294967295 * 256 := Nat.mul_le_mul (by omega) (by omega)
  rw [e, wrap_nat _ (by omega), u64_or_nat _ _ (by omega) (by omega), or_add _ _ _ hy]

set_option maxHeartbeats 2000000 in
theorem order1_no (b K : Nat) (s : ByteArray) (pos k : Nat) (E : Int) (w : World) (h : Rd w b s pos) (hE : (lead s pos 32).2 = E) (hE' : E = 4 ∨ E = 5) :
    Calls Tryd.prog 71 #[.pointer (some ⟨b, 0, none⟩), .pointer (some ⟨K, 0, none⟩)] w fun e w' => e = .returned (.tuple #[.int .u64 0, .int .i64 E]) ∧ Rd w' b s pos ∧ Only [b] w w' := by
  have H := hid h
  have Zr := hid (fun b w h => zeros_any b s pos w h)
  rw [hE] at Zr
  generalize zn s pos = z at *
  clear h hE
  rcases hE' with rfl | rfl
  all_goals
    go_enter Tryd.func71, Tryd.ntmps71
    go_wp2_with fail
    refine (copy_any b s pos w H.out).mono ?_
    rintro e w1 ⟨rfl, hc, ho⟩
    have C2 := hid (Zr.out _ w1 hc)
    go_wp2_with fail
    refine C2.out.mono ?_
    rintro e w2 ⟨rfl, hz2⟩
    have O2 := hid (ho.trans2 hz2 (fun x hx => .inr (by rw [List.mem_singleton.1 hx]; exact Nat.le_refl _)))
    have R2 := hid (H.out.only O2.out (by simp))
    clear hz2 hc ho
    go_wp2_with fail
    go_ret2
    exact ⟨rfl, R2.out, O2.out.mono (by simp)⟩

set_option maxHeartbeats 2000000 in
theorem order1_short (b K : Nat) (s : ByteArray) (pos k : Nat) (w : World) (h : Rd w b s pos) (hk : k ≤ 8) (hK : w.cell? ⟨K, 0, none⟩ = some (.int .i64 k)) (hE : (lead s pos 32).2 = 0) (hs : 8 * s.size < pos + (2 * zn s pos + 1 + k)) :
    Calls Tryd.prog 71 #[.pointer (some ⟨b, 0, none⟩), .pointer (some ⟨K, 0, none⟩)] w fun e w' => e = .returned (.tuple #[.int .u64 0, .int .i64 5]) ∧ Rd w' b s pos ∧ Only [b] w w' := by
  have H := hid h
  have HK := hid hK
  have hle := h.le
  have hsz := h.sz
  have Zr := hid (fun b w h => zeros_any b s pos w h)
  have zl := zn_lt s pos
  rw [hE] at Zr
  generalize zn s pos = z at *
  have hs' : 8 * (s.size : Int) - (pos : Int) < 2 * (z : Int) + 1 + (k : Int) := by omega
  clear h hE hK hs
  go_enter Tryd.func71, Tryd.ntmps71
  go_wp2_with fail
  refine (copy_any b s pos w H.out).mono ?_
  rintro e w1 ⟨rfl, hc, ho⟩
  have C2 := hid (Zr.out _ w1 hc)
  go_wp2_with fail
  refine C2.out.mono ?_
  rintro e w2 ⟨rfl, hz2⟩
  have O2 := hid (ho.trans2 hz2 (fun x hx => .inr (by rw [List.mem_singleton.1 hx]; exact Nat.le_refl _)))
  have R2 := hid (H.out.only O2.out (by simp))
  have k2 := O2.out.cell HK.out (by simp)
  clear hz2 hc ho
  go_wp2_with fail
  go_quiet ((go_at_call 51; exact Calls.quiet_of (left_any b s pos _ (R2.out.drewN _))))
  go_wp2_with fail
  go_ret2
  exact ⟨rfl, R2.out.drewN _, (O2.out.mono (by simp)).drewN _⟩

set_option maxHeartbeats 2000000 in
theorem order1_yes (b K : Nat) (s : ByteArray) (pos k : Nat) (w : World) (h : Rd w b s pos) (hk : k ≤ 8) (hK : w.cell? ⟨K, 0, none⟩ = some (.int .i64 k)) (hne : K ≠ b) (hE : (lead s pos 32).2 = 0) (hs : pos + (2 * zn s pos + 1 + k) ≤ 8 * s.size) :
    Calls Tryd.prog 71 #[.pointer (some ⟨b, 0, none⟩), .pointer (some ⟨K, 0, none⟩)] w fun e w' => e = .returned (.tuple #[.int .u64 (((valOf s pos (2 * zn s pos + 1) - 1) * 2 ^ k + valOf s (pos + (2 * zn s pos + 1)) k : Nat)), .int .i64 0]) ∧ Rd w' b s (pos + (2 * zn s pos + 1 + k)) ∧ Only [b] w w' := by
  have H := hid h
  have HK := hid hK
  have hle := h.le
  have hsz := h.sz
  have Zr := hid (fun b w h => zeros_any b s pos w h)
  have zl := zn_lt s pos
  obtain ⟨v1, v2⟩ := valOf_pos s pos hE
  have hy := valOf_lt s (pos + (2 * zn s pos + 1)) k
  have SO := hid (shl_or _ _ k v1 v2 hk hy)
  have U1 := hid (fun w h => u_yes b s pos (2 * zn s pos + 1) w h (by omega) (by omega))
  have U2 := hid (fun w h => u_yes b s (pos + (2 * zn s pos + 1)) k w h (by omega) (by omega))
  have p8 : 2 ^ k ≤ 2 ^ 8 := Nat.pow_le_pow_right (by omega) hk
  have hy8 : valOf s (pos + (2 * zn s pos + 1)) k ≤ 255 := by omega
  rw [hE] at Zr
  generalize valOf s (pos + (2 * zn s pos + 1)) k = y at *
  generalize valOf s pos (2 * zn s pos + 1) = x at *
  generalize zn s pos = z at *
  have hs' : 2 * (z : Int) + 1 + (k : Int) ≤ 8 * (s.size : Int) - (pos : Int) := by omega
  have e0 : ((2 * z + 1 : Nat) : Int) = 2 * (z : Int) + 1 := by omega
  rw [e0] at U1
  have ka : pos + (2 * z + 1 + k) = pos + (2 * z + 1) + k := by omega
  have KA := hid ka
  clear h hE hK hs e0 hy ka p8
  go_enter Tryd.func71, Tryd.ntmps71
  go_wp2_with fail
  refine (copy_any b s pos w H.out).mono ?_
  rintro e w1 ⟨rfl, hc, ho⟩
  have C2 := hid (Zr.out _ w1 hc)
  go_wp2_with fail
  refine C2.out.mono ?_
  rintro e w2 ⟨rfl, hz2⟩
  have O2 := hid (ho.trans2 hz2 (fun x hx => .inr (by rw [List.mem_singleton.1 hx]; exact Nat.le_refl _)))
  have R2 := hid (H.out.only O2.out (by simp))
  have k2 := O2.out.cell HK.out (by simp)
  clear hz2 hc ho
  go_wp2_with fail
  go_quiet ((go_at_call 51; exact Calls.quiet_of (left_any b s pos _ (R2.out.drewN _))))
  generalize hw3 : World.drewN w2 _ = w3
  have R3 := hid (show Rd w3 b s pos from hw3 ▸ R2.out.drewN _)
  have O3 := hid (show Only [] w w3 from hw3 ▸ O2.out.drewN _)
  clear hw3 k2 R2 O2
  have k3 := O3.out.cell HK.out (by simp)
  go_wp2_with fail
  refine (U1.out w3 R3.out).mono ?_
  rintro e w4 ⟨rfl, hr4, ho4⟩
  have R4 := hid hr4
  have O4 := hid ((O3.out.mono (T := [b]) (by simp)).trans ho4)
  clear hr4 ho4 k3
  have k4 := O4.out.cell HK.out (by simpa using hne)
  go_wp2_with fail
  refine (U2.out w4 R4.out).mono ?_
  rintro e w5 ⟨rfl, hr5, ho5⟩
  have R5 := hid hr5
  have O5 := hid (O4.out.trans ho5)
  clear hr5 ho5 k4
  have k5 := O5.out.cell HK.out (by simpa using hne)
  go_wp2_with fail
  go_ret2
  rw [KA.out]
  exact ⟨ret_tup SO.out, R5.out, O5.out⟩

/-- The closure that reads codes of order k. -/
theorem order1_any (b K : Nat) (s : ByteArray) (pos k : Nat) (w : World) (h : Rd w b s pos) (hk : k ≤ 8) (hK : w.cell? ⟨K, 0, none⟩ = some (.int .i64 k)) (hne : K ≠ b) :
    Calls Tryd.prog 71 #[.pointer (some ⟨b, 0, none⟩), .pointer (some ⟨K, 0, none⟩)] w fun e w' => e = .returned (.tuple #[.int .u64 (rdUk s pos k).1, .int .i64 (rdUk s pos k).2.1]) ∧ Rd w' b s (rdUk s pos k).2.2 ∧ Only [b] w w' := by
  rw [rdUk_zn]
  by_cases h0 : (lead s pos 32).2 = 0
  · rw [if_neg (by simp [h0])]
    by_cases h1 : 8 * s.size < pos + (2 * zn s pos + 1 + k)
    · rw [if_pos h1]
      exact order1_short b K s pos k w h hk hK h0 h1
    · rw [if_neg h1]
      exact order1_yes b K s pos k w h hk hK hne h0 (by omega)
  · rw [if_pos h0]
    rcases lead_err s pos 32 with e | e
    · exact absurd e h0
    · exact order1_no b K s pos k (lead s pos 32).2 w h rfl e

set_option maxHeartbeats 400000 in
theorem order_any (k : Nat) (w : World) :
    Calls Tryd.prog 70 #[.int .i64 k] w fun e w' => e = .returned (.func (.func 71) #[] #[.pointer (some ⟨w.heap.size, 0, none⟩)]) ∧ w'.cell? ⟨w.heap.size, 0, none⟩ = some (.int .i64 k) ∧ Only [] w w' := by
  have hmf : ∀ (fn : Fn) (first cap : Array Value) (w : World), (Instr.makeFunc fn first cap).run Tryd.prog w = .ok (.func fn first cap) w := fun _ _ _ _ => rfl
  go_enter Tryd.func70, Tryd.ntmps70
  go_wp2
  go_ret
  exact ⟨rfl, by simp, (Only.refl _ _).alloc _⟩

/-- Any order: what is answered. -/
def rdUkI (s : ByteArray) (pos : Nat) (k : Int) : Nat × Int × Nat := if k < 0 ∨ 8 < k then (0, 3, pos) else rdUk s pos k.toNat

set_option maxHeartbeats 1000000 in
theorem uk_yes (b : Nat) (s : ByteArray) (pos k : Nat) (w : World) (h : Rd w b s pos) (hk : k ≤ 8) :
    Calls Tryd.prog 68 #[.pointer (some ⟨b, 0, none⟩), .int .i64 k] w fun e w' => e = .returned (.tuple #[.int .u64 (rdUk s pos k).1, .int .i64 (rdUk s pos k).2.1]) ∧ Rd w' b s (rdUk s pos k).2.2 ∧ Only [b] w w' := by
  have H := hid h
  have hlt := h.lt
  have OA := hid (fun K w h hK hne => order1_any b K s pos k w h hk hK hne)
  generalize rdUk s pos k = r at *
  obtain ⟨x, y, z⟩ := r
  have hk' : (k : Int) ≤ 8 := by omega
  clear h hk
  go_enter Tryd.func68, Tryd.ntmps68
  go_wp2_with fail
  refine (order_any k w).mono ?_
  rintro e w1 ⟨rfl, hc, ho⟩
  have R1 := hid (H.out.only ho (by simp))
  have O1 := hid ho
  have O2 := hid (OA.out w.heap.size w1 R1.out hc (by omega))
  clear hc ho
  go_wp2_with fail
  refine O2.out.mono ?_
  rintro e w2 ⟨rfl, hr2, ho2⟩
  go_wp2_with fail
  go_ret2
  exact ⟨rfl, hr2, (O1.out.mono (T := [b]) (by simp)).trans ho2⟩

set_option maxHeartbeats 400000 in
theorem uk_range (b : Nat) (k : Int) (w : World) (h : k < 0 ∨ 8 < k) :
    Calls Tryd.prog 68 #[.pointer (some ⟨b, 0, none⟩), .int .i64 k] w fun e w' => e = .returned (.tuple #[.int .u64 0, .int .i64 3]) ∧ w = w' := by
  rcases h with h | h
  · go_enter Tryd.func68, Tryd.ntmps68
    go_wp2
    go_ret2
    exact ⟨rfl, rfl⟩
  · have h' : 0 ≤ k := by omega
    go_enter Tryd.func68, Tryd.ntmps68
    go_wp2
    go_ret2
    exact ⟨rfl, rfl⟩
theorem uk_any (b : Nat) (s : ByteArray) (pos : Nat) (k : Int) (w : World) (h : Rd w b s pos) :
    Calls Tryd.prog 68 #[.pointer (some ⟨b, 0, none⟩), .int .i64 k] w fun e w' => e = .returned (.tuple #[.int .u64 (rdUkI s pos k).1, .int .i64 (rdUkI s pos k).2.1]) ∧ Rd w' b s (rdUkI s pos k).2.2 ∧ Only [b] w w' := by
  unfold rdUkI
  by_cases h1 : k < 0 ∨ 8 < k
  · rw [if_pos h1]
    exact (uk_range b k w h1).mono fun e w' ⟨he, hw⟩ => ⟨he, hw ▸ h, hw ▸ Only.refl _ _⟩
  · rw [if_neg h1]
    obtain ⟨j, rfl⟩ := Int.eq_ofNat_of_zero_le (show 0 ≤ k by omega)
    exact uk_yes b s pos j w h (by omega)
set_option maxHeartbeats 400000 in
theorem uk_nil (k : Int) (w : World) :
    Calls Tryd.prog 68 #[.pointer none, .int .i64 k] w fun e w' => e = .returned (.tuple #[.int .u64 0, .int .i64 1]) ∧ w = w' := by
  go_enter Tryd.func68, Tryd.ntmps68
  go_wp2
  go_ret2
  exact ⟨rfl, rfl⟩

set_option maxHeartbeats 400000 in
theorem ue_any (b : Nat) (s : ByteArray) (pos : Nat) (w : World) (h : Rd w b s pos) :
    Calls Tryd.prog 64 #[.pointer (some ⟨b, 0, none⟩)] w fun e w' => e = .returned (.tuple #[.int .u64 (rdUk s pos 0).1, .int .i64 (rdUk s pos 0).2.1]) ∧ Rd w' b s (rdUk s pos 0).2.2 ∧ Only [b] w w' := by
  have C := hid (uk_yes b s pos 0 w h (by omega))
  generalize rdUk s pos 0 = r at *
  obtain ⟨x, y, z⟩ := r
  clear h
  go_enter Tryd.func64, Tryd.ntmps64
  go_wp2_with fail
  refine C.out.mono ?_
  rintro e w1 ⟨rfl, hR, hO⟩
  go_wp2_with fail
  go_ret2
  exact ⟨rfl, hR, hO⟩
set_option maxHeartbeats 400000 in
theorem ue_nil (w : World) :
    Calls Tryd.prog 64 #[.pointer none] w fun e w' => e = .returned (.tuple #[.int .u64 0, .int .i64 1]) ∧ w = w' := by
  go_enter Tryd.func64, Tryd.ntmps64
  go_wp2_with fail
  refine (uk_nil 0 w).mono ?_
  rintro e w1 ⟨rfl, rfl⟩
  go_wp2_with fail
  go_ret2
  exact ⟨rfl, rfl⟩
end Go.Proofs.YtdkmeldcpamnnaaDoor

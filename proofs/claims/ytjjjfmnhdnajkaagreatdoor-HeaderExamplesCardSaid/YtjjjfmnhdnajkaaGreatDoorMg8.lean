/- Package golomb: zeros. -/
/- Package golomb: what reads. -/
/- Package golomb: Se, Te. -/
/- The reference's reader of codes: Ue. -/
/- The reference's reader of codes: Se, Te, Uk. -/
import Derived.Test.YtjjjfmnhdnajkaaGreatDoorMg7
import Derived.Test.YtjjjfmnhdnajkaaGreatDoorUeM
import Derived.Deep.LoopGhost
import Derived.Outline
import Derived.Deep.DeepCutAuto
section
set_option maxRecDepth 20000
namespace Go.Proofs.YtjjjfmnhdnajkaaGreatDoor
open Go.RowKit
set_option linter.unusedVariables false

/-- The number that zeros answers. -/
def zn (s : ByteArray) (pos : Nat) : Nat := if (lead s pos 32).2 = 0 then (lead s pos 32).1 else 0

set_option maxHeartbeats 1000000 in
theorem zeros_any (b : Nat) (s : ByteArray) (pos : Nat) (w : World) (h : Rd w b s pos) :
    Calls Tryz.prog 159 #[.pointer (some ⟨b, 0, none⟩)] w fun e w' => e = .returned (.tuple #[.int .i64 (zn s pos), .int .i64 (lead s pos 32).2]) ∧ Only [b] w w' := by
  have H := hid h
  have hle := h.le
  clear h
  obtain ⟨L, hL⟩ : ∃ L, L = lead s pos 32 := ⟨_, rfl⟩
  have hz : zn s pos = if L.2 = 0 then L.1 else 0 := by rw [hL]; rfl
  rw [← hL]
  have LL := hid hL
  have ZZ := hid hz
  obtain ⟨z, hzz⟩ : ∃ z, z = zn s pos := ⟨_, rfl⟩
  rw [← hzz]
  have ZN := hid hzz
  obtain ⟨er, her⟩ : ∃ er, er = L.2 := ⟨_, rfl⟩
  rw [← her]
  have ER := hid her
  clear hL hz hzz her
  go_enter Tryz.func159, Tryz.ntmps159
  go_wp2_with fail
  go_step3
  go_wp2_with fail
  go_step3
  go_wp2_with fail
  go_loopg [4] 32 (fun g i wr => ∃ n : Nat, n + g = 32 ∧ i = .int .i64 n ∧ Rd wr b s (pos + n) ∧ Only [b] w wr ∧ L.2 = (lead s (pos + n) g).2 ∧ L.1 = n + (lead s (pos + n) g).1)
  case atStart => exact ⟨0, by omega, rfl, H.out, Only.refl _ _, by rw [LL.out]; rfl, by rw [LL.out, Nat.zero_add]; rfl⟩
  case round =>
    obtain ⟨n, hn, rfl, hR, hO, h1, h2⟩ := hrel
    have R := hid hR
    have O := hid hO
    have H1 := hid h1
    have H2 := hid h2
    have N := hid hn
    clear hR hO h1 h2
    cases gk with
    | zero =>
      obtain rfl : n = 32 := by omega
      clear hn
      go_wp2_with fail
      go_ret2
      have e1 := H1.out
      simp only [lead] at e1
      rw [ER.out, e1, ZN.out, ZZ.out, e1]
      exact ⟨rfl, O.out⟩
    | succ g =>
      have hn1 : (n : Int) ≤ 31 := by omega
      clear hn
      obtain ⟨q, hq⟩ : ∃ q, q = pos + n := ⟨_, rfl⟩
      have Q := hid hq
      rw [← hq] at R
      clear hq
      have B := hid (bit_any b s q wr R.out)
      by_cases hs : 8 * s.size ≤ q
      · have e : rdU s q 1 = (0, 5, q) := by unfold rdU; rw [if_neg (by omega), if_pos (by simp; omega)]
        rw [e] at B
        have e1 := H1.out
        rw [← Q.out] at e1
        simp only [lead, if_pos hs] at e1
        have E1 := hid e1
        clear hs e e1
        go_wp2_with fail
        refine B.out.mono ?_
        rintro e w1 ⟨rfl, hR, hO⟩
        have O1 := hid (O.out.trans hO)
        clear hR hO
        go_wp2_with fail
        rw [Exit.noGoto_ret]
        go_ret2
        rw [ER.out, E1.out, ZN.out, ZZ.out, E1.out]
        exact ⟨rfl, O1.out⟩
      · have e : rdU s q 1 = ((bitAt s q).toNat, 0, q + 1) := by
          unfold rdU; rw [if_neg (by omega), if_neg (by simp; omega)]
          simp [valOf]
        rw [e] at B
        have e1 := H1.out
        have e2 := H2.out
        rw [← Q.out] at e1 e2
        simp only [lead, if_neg hs] at e1 e2
        cases hb : bitAt s q with
        | true =>
          rw [hb] at B e1 e2
          simp only [if_true] at e1 e2
          have E1 := hid e1
          have E2 := hid e2
          clear hs e e1 e2 hb
          go_wp2_with fail
          refine B.out.mono ?_
          rintro e w1 ⟨rfl, hR, hO⟩
          have O1 := hid (O.out.trans hO)
          clear hR hO
          go_wp2_with fail
          try rw [Exit.noGoto_ret]
          go_ret2
          rw [ER.out, E1.out, ZN.out, ZZ.out, E1.out, if_pos rfl, E2.out, Nat.add_zero]
          exact ⟨rfl, O1.out⟩
        | false =>
          rw [hb] at B e1 e2
          simp only [Bool.false_eq_true, if_false] at e1 e2
          have E1 := hid e1
          have E2 := hid e2
          clear hs e e1 e2 hb
          go_wp2_with fail
          refine B.out.mono ?_
          rintro e w1 ⟨rfl, hR, hO⟩
          have R1 := hid hR
          have O1 := hid (O.out.trans hO)
          clear hR hO
          go_wp2_with fail
          go_roundg g
          case measure => omega
          case rel => exact ⟨n + 1, by have := N.out; omega, by go_num, by rw [← Nat.add_assoc, ← Q.out]; exact R1.out, O1.out, by rw [← Nat.add_assoc, ← Q.out]; exact E1.out, by rw [← Nat.add_assoc, ← Q.out, E2.out]; omega⟩
end Go.Proofs.YtjjjfmnhdnajkaaGreatDoor

end
section
set_option maxRecDepth 20000
namespace Go.Proofs.YtjjjfmnhdnajkaaGreatDoor
open Go.RowKit
set_option linter.unusedVariables false

theorem rdUk_zn (s : ByteArray) (pos k : Nat) : rdUk s pos k = if (lead s pos 32).2 ≠ 0 then (0, (lead s pos 32).2, pos) else if 8 * s.size < pos + (2 * zn s pos + 1 + k) then (0, 5, pos)
    else ((valOf s pos (2 * zn s pos + 1) - 1) * 2 ^ k + valOf s (pos + (2 * zn s pos + 1)) k, 0, pos + (2 * zn s pos + 1 + k)) := by
  unfold rdUk zn
  by_cases h : (lead s pos 32).2 = 0
  · simp only [h, if_true]
  · simp only [h, if_false, ne_eq, not_false_eq_true, if_true]
theorem ret_tup {k : IntKind} {a b : Int} {x : Value} (h : a = b) : Ending.returned (.tuple #[.int k a, x]) = .returned (.tuple #[.int k b, x]) := by rw [h]
theorem zn_lt (s : ByteArray) (pos : Nat) : zn s pos ≤ 31 := by
  unfold zn
  split
  · rename_i h
    have := (lead_yes h).2.2.1
    omega
  · omega
theorem valOf_pos (s : ByteArray) (pos : Nat) (h : (lead s pos 32).2 = 0) : 1 ≤ valOf s pos (2 * zn s pos + 1) ∧ valOf s pos (2 * zn s pos + 1) ≤ 4294967295 := by
  have e := valOf_code h (lead s pos 32).1
  have hz : zn s pos = (lead s pos 32).1 := by unfold zn; rw [if_pos h]
  rw [← hz] at e
  rw [show zn s pos + (1 + zn s pos) = 2 * zn s pos + 1 from by omega] at e
  rw [e]
  have h0 : 0 < 2 ^ zn s pos := Nat.pow_pos (by omega)
  have h1 := valOf_lt s (pos + zn s pos + 1) (zn s pos)
  have h2 : 2 ^ zn s pos ≤ 2 ^ 31 := Nat.pow_le_pow_right (by omega) (zn_lt s pos)
  have h3 : (2 : Nat) ^ 31 = 2147483648 := by decide
  omega
theorem shl_or (x y k : Nat) (h1 : 1 ≤ x) (hx : x ≤ 4294967295) (hk : k ≤ 8) (hy : y < 2 ^ k) :
    bits .or .u64 (IntKind.u64.wrap (((x : Int) - 1) * 2 ^ k)) (y : Int) = (((x - 1) * 2 ^ k + y : Nat) : Int) := by
  have e : ((x : Int) - 1) * 2 ^ k = (((x - 1) * 2 ^ k : Nat) : Int) := by
    rw [show (x : Int) - 1 = ((x - 1 : Nat) : Int) from by omega, Int.natCast_mul, Int.natCast_pow]; rfl
  have p : 2 ^ k ≤ 2 ^ 8 := Nat.pow_le_pow_right (by omega) hk
  have p8 : (2 : Nat) ^ 8 = 256 := by decide
  have p64 : (2 : Nat) ^ 64 = 18446744073709551616 := by decide
  have m : (x - 1) * 2 ^ k ≤ 4294967295 * 256 := Nat.mul_le_mul (by omega) (by omega)
  rw [e, wrap_nat _ (by omega), u64_or_nat _ _ (by omega) (by omega), or_add _ _ _ hy]

set_option maxHeartbeats 2000000 in
theorem order1_no (b K : Nat) (s : ByteArray) (pos k : Nat) (E : Int) (w : World) (h : Rd w b s pos) (hE : (lead s pos 32).2 = E) (hE' : E = 4 ∨ E = 5) :
    Calls Tryz.prog 158 #[.pointer (some ⟨b, 0, none⟩), .pointer (some ⟨K, 0, none⟩)] w fun e w' => e = .returned (.tuple #[.int .u64 0, .int .i64 E]) ∧ Rd w' b s pos ∧ Only [b] w w' := by
  have H := hid h
  have Zr := hid (fun b w h => zeros_any b s pos w h)
  rw [hE] at Zr
  generalize zn s pos = z at *
  clear h hE
  rcases hE' with rfl | rfl
  all_goals
    go_enter Tryz.func158, Tryz.ntmps158
    go_wp2_with fail
    refine (copy_any b s pos w H.out).mono ?_
    rintro e w1 ⟨rfl, hc, ho⟩
    have C2 := hid (Zr.out _ w1 hc)
    go_wp2_with fail
    refine C2.out.mono ?_
    rintro e w2 ⟨rfl, hz2⟩
    have O2 := hid (ho.trans2 hz2 (fun x hx => .inr (by rw [List.mem_singleton.1 hx]; exact Nat.le_refl _)))
    have R2 := hid (H.out.only O2.out (by simp))
    clear hz2 hc ho
    go_wp2_with fail
    go_ret2
    exact ⟨rfl, R2.out, O2.out.mono (by simp)⟩

set_option maxHeartbeats 2000000 in
theorem order1_short (b K : Nat) (s : ByteArray) (pos k : Nat) (w : World) (h : Rd w b s pos) (hk : k ≤ 8) (hK : w.cell? ⟨K, 0, none⟩ = some (.int .i64 k)) (hE : (lead s pos 32).2 = 0) (hs : 8 * s.size < pos + (2 * zn s pos + 1 + k)) :
    Calls Tryz.prog 158 #[.pointer (some ⟨b, 0, none⟩), .pointer (some ⟨K, 0, none⟩)] w fun e w' => e = .returned (.tuple #[.int .u64 0, .int .i64 5]) ∧ Rd w' b s pos ∧ Only [b] w w' := by
  have H := hid h
  have HK := hid hK
  have hle := h.le
  have hsz := h.sz
  have Zr := hid (fun b w h => zeros_any b s pos w h)
  have zl := zn_lt s pos
  rw [hE] at Zr
  generalize zn s pos = z at *
  have hs' : 8 * (s.size : Int) - (pos : Int) < 2 * (z : Int) + 1 + (k : Int) := by omega
  clear h hE hK hs
  go_enter Tryz.func158, Tryz.ntmps158
  go_wp2_with fail
  refine (copy_any b s pos w H.out).mono ?_
  rintro e w1 ⟨rfl, hc, ho⟩
  have C2 := hid (Zr.out _ w1 hc)
  go_wp2_with fail
  refine C2.out.mono ?_
  rintro e w2 ⟨rfl, hz2⟩
  have O2 := hid (ho.trans2 hz2 (fun x hx => .inr (by rw [List.mem_singleton.1 hx]; exact Nat.le_refl _)))
  have R2 := hid (H.out.only O2.out (by simp))
  have k2 := O2.out.cell HK.out (by simp)
  clear hz2 hc ho
  go_wp2_with fail
  go_quiet ((go_at_call 120; exact Calls.quiet_of (left_any b s pos _ (R2.out.drewN _))))
  go_wp2_with fail
  go_ret2
  exact ⟨rfl, R2.out.drewN _, (O2.out.mono (by simp)).drewN _⟩

set_option maxHeartbeats 2000000 in
theorem order1_yes (b K : Nat) (s : ByteArray) (pos k : Nat) (w : World) (h : Rd w b s pos) (hk : k ≤ 8) (hK : w.cell? ⟨K, 0, none⟩ = some (.int .i64 k)) (hne : K ≠ b) (hE : (lead s pos 32).2 = 0) (hs : pos + (2 * zn s pos + 1 + k) ≤ 8 * s.size) :
    Calls Tryz.prog 158 #[.pointer (some ⟨b, 0, none⟩), .pointer (some ⟨K, 0, none⟩)] w fun e w' => e = .returned (.tuple #[.int .u64 (((valOf s pos (2 * zn s pos + 1) - 1) * 2 ^ k + valOf s (pos + (2 * zn s pos + 1)) k : Nat)), .int .i64 0]) ∧ Rd w' b s (pos + (2 * zn s pos + 1 + k)) ∧ Only [b] w w' := by
  have H := hid h
  have HK := hid hK
  have hle := h.le
  have hsz := h.sz
  have Zr := hid (fun b w h => zeros_any b s pos w h)
  have zl := zn_lt s pos
  obtain ⟨v1, v2⟩ := valOf_pos s pos hE
  have hy := valOf_lt s (pos + (2 * zn s pos + 1)) k
  have SO := hid (shl_or _ _ k v1 v2 hk hy)
  have U1 := hid (fun w h => u_yes b s pos (2 * zn s pos + 1) w h (by omega) (by omega))
  have U2 := hid (fun w h => u_yes b s (pos + (2 * zn s pos + 1)) k w h (by omega) (by omega))
  have p8 : 2 ^ k ≤ 2 ^ 8 := Nat.pow_le_pow_right (by omega) hk
  have hy8 : valOf s (pos + (2 * zn s pos + 1)) k ≤ 255 := by omega
  rw [hE] at Zr
  generalize valOf s (pos + (2 * zn s pos + 1)) k = y at *
  generalize valOf s pos (2 * zn s pos + 1) = x at *
  generalize zn s pos = z at *
  have hs' : 2 * (z : Int) + 1 + (k : Int) ≤ 8 * (s.size : Int) - (pos : Int) := by omega
  have e0 : ((2 * z + 1 : Nat) : Int) = 2 * (z : Int) + 1 := by omega
  rw [e0] at U1
  have ka : pos + (2 * z + 1 + k) = pos + (2 * z + 1) + k := by omega
  have KA := hid ka
  clear h hE hK hs e0 hy ka p8
  go_enter Tryz.func158, Tryz.ntmps158
  go_wp2_with fail
  refine (copy_any b s pos w H.out).mono ?_
  rintro e w1 ⟨rfl, hc, ho⟩
  have C2 := hid (Zr.out _ w1 hc)
  go_wp2_with fail
  refine C2.out.mono ?_
  rintro e w2 ⟨rfl, hz2⟩
  have O2 := hid (ho.trans2 hz2 (fun x hx => .inr (by rw [List.mem_singleton.1 hx]; exact Nat.le_refl _)))
  have R2 := hid (H.out.only O2.out (by simp))
  have k2 := O2.out.cell HK.out (by simp)
  clear hz2 hc ho
  go_wp2_with fail
  go_quiet ((go_at_call 120; exact Calls.quiet_of (left_any b s pos _ (R2.out.drewN _))))
  generalize hw3 : World.drewN w2 _ = w3
  have R3 := hid (show Rd w3 b s pos from hw3 ▸ R2.out.drewN _)
  have O3 := hid (show Only [] w w3 from hw3 ▸ O2.out.drewN _)
  clear hw3 k2 R2 O2
  have k3 := O3.out.cell HK.out (by simp)
  go_wp2_with fail
  refine (U1.out w3 R3.out).mono ?_
  rintro e w4 ⟨rfl, hr4, ho4⟩
  have R4 := hid hr4
  have O4 := hid ((O3.out.mono (T := [b]) (by simp)).trans ho4)
  clear hr4 ho4 k3
  have k4 := O4.out.cell HK.out (by simpa using hne)
  go_wp2_with fail
  refine (U2.out w4 R4.out).mono ?_
  rintro e w5 ⟨rfl, hr5, ho5⟩
  have R5 := hid hr5
  have O5 := hid (O4.out.trans ho5)
  clear hr5 ho5 k4
  have k5 := O5.out.cell HK.out (by simpa using hne)
  go_wp2_with fail
  go_ret2
  rw [KA.out]
  exact ⟨ret_tup SO.out, R5.out, O5.out⟩

/-- The closure that reads codes of order k. -/
theorem order1_any (b K : Nat) (s : ByteArray) (pos k : Nat) (w : World) (h : Rd w b s pos) (hk : k ≤ 8) (hK : w.cell? ⟨K, 0, none⟩ = some (.int .i64 k)) (hne : K ≠ b) :
    Calls Tryz.prog 158 #[.pointer (some ⟨b, 0, none⟩), .pointer (some ⟨K, 0, none⟩)] w fun e w' => e = .returned (.tuple #[.int .u64 (rdUk s pos k).1, .int .i64 (rdUk s pos k).2.1]) ∧ Rd w' b s (rdUk s pos k).2.2 ∧ Only [b] w w' := by
  rw [rdUk_zn]
  by_cases h0 : (lead s pos 32).2 = 0
  · rw [if_neg (by simp [h0])]
    by_cases h1 : 8 * s.size < pos + (2 * zn s pos + 1 + k)
    · rw [if_pos h1]
      exact order1_short b K s pos k w h hk hK h0 h1
    · rw [if_neg h1]
      exact order1_yes b K s pos k w h hk hK hne h0 (by omega)
  · rw [if_pos h0]
    rcases lead_err s pos 32 with e | e
    · exact absurd e h0
    · exact order1_no b K s pos k (lead s pos 32).2 w h rfl e

set_option maxHeartbeats 400000 in
theorem order_any (k : Nat) (w : World) :
    Calls Tryz.prog 153 #[.int .i64 k] w fun e w' => e = .returned (.func (.func 158) #[] #[.pointer (some ⟨w.heap.size, 0, none⟩)]) ∧ w'.cell? ⟨w.heap.size, 0, none⟩ = some (.int .i64 k) ∧ Only [] w w' := by
  have hmf : ∀ (fn : Fn) (first cap : Array Value) (w : World), (Instr.makeFunc fn first cap).run Tryz.prog w = .ok (.func fn first cap) w := fun _ _ _ _ => rfl
  go_enter Tryz.func153, Tryz.ntmps153
  go_wp2
  go_ret
  exact ⟨rfl, by simp, (Only.refl _ _).alloc _⟩

/-- Any order: what is answered. -/
def rdUkI (s : ByteArray) (pos : Nat) (k : Int) : Nat × Int × Nat := if k < 0 ∨ 8 < k then (0, 3, pos) else rdUk s pos k.toNat

set_option maxHeartbeats 1000000 in
theorem uk_yes (b : Nat) (s : ByteArray) (pos k : Nat) (w : World) (h : Rd w b s pos) (hk : k ≤ 8) :
    Calls Tryz.prog 148 #[.pointer (some ⟨b, 0, none⟩), .int .i64 k] w fun e w' => e = .returned (.tuple #[.int .u64 (rdUk s pos k).1, .int .i64 (rdUk s pos k).2.1]) ∧ Rd w' b s (rdUk s pos k).2.2 ∧ Only [b] w w' := by
  have H := hid h
  have hlt := h.lt
  have OA := hid (fun K w h hK hne => order1_any b K s pos k w h hk hK hne)
  generalize rdUk s pos k = r at *
  obtain ⟨x, y, z⟩ := r
  have hk' : (k : Int) ≤ 8 := by omega
  clear h hk
  go_enter Tryz.func148, Tryz.ntmps148
  go_wp2_with fail
  refine (order_any k w).mono ?_
  rintro e w1 ⟨rfl, hc, ho⟩
  have R1 := hid (H.out.only ho (by simp))
  have O1 := hid ho
  have O2 := hid (OA.out w.heap.size w1 R1.out hc (by omega))
  clear hc ho
  go_wp2_with fail
  refine O2.out.mono ?_
  rintro e w2 ⟨rfl, hr2, ho2⟩
  go_wp2_with fail
  go_ret2
  exact ⟨rfl, hr2, (O1.out.mono (T := [b]) (by simp)).trans ho2⟩

set_option maxHeartbeats 400000 in
theorem uk_range (b : Nat) (k : Int) (w : World) (h : k < 0 ∨ 8 < k) :
    Calls Tryz.prog 148 #[.pointer (some ⟨b, 0, none⟩), .int .i64 k] w fun e w' => e = .returned (.tuple #[.int .u64 0, .int .i64 3]) ∧ w = w' := by
  rcases h with h | h
  · go_enter Tryz.func148, Tryz.ntmps148
    go_wp2
    go_ret2
    exact ⟨rfl, rfl⟩
  · have h' : 0 ≤ k := by omega
    go_enter Tryz.func148, Tryz.ntmps148
    go_wp2
    go_ret2
    exact ⟨rfl, rfl⟩
theorem uk_any (b : Nat) (s : ByteArray) (pos : Nat) (k : Int) (w : World) (h : Rd w b s pos) :
    Calls Tryz.prog 148 #[.pointer (some ⟨b, 0, none⟩), .int .i64 k] w fun e w' => e = .returned (.tuple #[.int .u64 (rdUkI s pos k).1, .int .i64 (rdUkI s pos k).2.1]) ∧ Rd w' b s (rdUkI s pos k).2.2 ∧ Only [b] w w' := by
  unfold rdUkI
  by_cases h1 : k < 0 ∨ 8 < k
  · rw [if_pos h1]
    exact (uk_range b k w h1).mono fun e w' ⟨he, hw⟩ => ⟨he, hw ▸ h, hw ▸ Only.refl _ _⟩
  · rw [if_neg h1]
    obtain ⟨j, rfl⟩ := Int.eq_ofNat_of_zero_le (show 0 ≤ k by omega)
    exact uk_yes b s pos j w h (by omega)
set_option maxHeartbeats 400000 in
theorem uk_nil (k : Int) (w : World) :
    Calls Tryz.prog 148 #[.pointer none, .int .i64 k] w fun e w' => e = .returned (.tuple #[.int .u64 0, .int .i64 1]) ∧ w = w' := by
  go_enter Tryz.func148, Tryz.ntmps148
  go_wp2
  go_ret2
  exact ⟨rfl, rfl⟩

set_option maxHeartbeats 400000 in
theorem ue_any (b : Nat) (s : ByteArray) (pos : Nat) (w : World) (h : Rd w b s pos) :
    Calls Tryz.prog 126 #[.pointer (some ⟨b, 0, none⟩)] w fun e w' => e = .returned (.tuple #[.int .u64 (rdUk s pos 0).1, .int .i64 (rdUk s pos 0).2.1]) ∧ Rd w' b s (rdUk s pos 0).2.2 ∧ Only [b] w w' := by
  have C := hid (uk_yes b s pos 0 w h (by omega))
  generalize rdUk s pos 0 = r at *
  obtain ⟨x, y, z⟩ := r
  clear h
  go_enter Tryz.func126, Tryz.ntmps126
  go_wp2_with fail
  refine C.out.mono ?_
  rintro e w1 ⟨rfl, hR, hO⟩
  go_wp2_with fail
  go_ret2
  exact ⟨rfl, hR, hO⟩
set_option maxHeartbeats 400000 in
theorem ue_nil (w : World) :
    Calls Tryz.prog 126 #[.pointer none] w fun e w' => e = .returned (.tuple #[.int .u64 0, .int .i64 1]) ∧ w = w' := by
  go_enter Tryz.func126, Tryz.ntmps126
  go_wp2_with fail
  refine (uk_nil 0 w).mono ?_
  rintro e w1 ⟨rfl, rfl⟩
  go_wp2_with fail
  go_ret2
  exact ⟨rfl, rfl⟩
end Go.Proofs.YtjjjfmnhdnajkaaGreatDoor

end
section
set_option maxRecDepth 20000
namespace Go.Proofs.YtjjjfmnhdnajkaaGreatDoor
open Go.RowKit
set_option linter.unusedVariables false

/-- The signed number of a code. -/
def seVal (v : Nat) : Int := if v % 2 = 1 then (v : Int) / 2 + 1 else -((v : Int) / 2)

set_option maxHeartbeats 1000000 in
theorem se_any (b : Nat) (s : ByteArray) (pos : Nat) (w : World) (h : Rd w b s pos) :
    Calls Tryz.prog 142 #[.pointer (some ⟨b, 0, none⟩)] w fun e w' => e = .returned (.tuple #[.int .i64 (seVal (rdUk s pos 0).1), .int .i64 (rdUk s pos 0).2.1]) ∧ Rd w' b s (rdUk s pos 0).2.2 ∧ Only [b] w w' := by
  have C := hid (ue_any b s pos w h)
  have hb := rdUk_lt s pos 0
  generalize rdUk s pos 0 = r at *
  obtain ⟨x, y, z⟩ := r
  have hx : x ≤ 4294967295 := by have : (2 : Nat) ^ (32 + 0) = 4294967296 := by decide
                                 simp only at hb; omega
  unfold seVal
  clear h hb
  by_cases h1 : x % 2 = 1
  · rw [if_pos h1]
    have h1' : ((x : Int) % 2 == 1) = true := by rw [beq_iff_eq]; omega
    clear h1
    go_enter Tryz.func142, Tryz.ntmps142
    go_wp2_with fail
    refine C.out.mono ?_
    rintro e w1 ⟨rfl, hR, hO⟩
    go_wp2_with fail
    go_ret2
    exact ⟨rfl, hR, hO⟩
  · rw [if_neg h1]
    have h1' : ((x : Int) % 2 == 1) = false := by rw [beq_eq_false_iff_ne]; omega
    clear h1
    go_enter Tryz.func142, Tryz.ntmps142
    go_wp2_with fail
    refine C.out.mono ?_
    rintro e w1 ⟨rfl, hR, hO⟩
    go_wp2_with fail
    go_ret2
    exact ⟨rfl, hR, hO⟩
set_option maxHeartbeats 400000 in
theorem se_nil (w : World) :
    Calls Tryz.prog 142 #[.pointer none] w fun e w' => e = .returned (.tuple #[.int .i64 0, .int .i64 1]) ∧ w = w' := by
  go_enter Tryz.func142, Tryz.ntmps142
  go_wp2_with fail
  refine (ue_nil w).mono ?_
  rintro e w1 ⟨rfl, rfl⟩
  go_wp2_with fail
  go_ret2
  exact ⟨rfl, rfl⟩

/-- What is read of a number from 0 to most. -/
def rdTe (s : ByteArray) (pos most : Nat) : Nat × Int × Nat :=
  if 4294967294 < most then (0, 3, pos) else if most = 0 then (0, 0, pos)
  else if most = 1 then (if (rdU s pos 1).2.1 ≠ 0 then (0, (rdU s pos 1).2.1, pos) else (1 - (rdU s pos 1).1, 0, (rdU s pos 1).2.2))
  else if (rdUk s pos 0).2.1 ≠ 0 then (0, (rdUk s pos 0).2.1, pos) else if most < (rdUk s pos 0).1 then (0, 3, pos) else rdUk s pos 0

theorem rdU_err (s : ByteArray) (pos : Nat) : ((rdU s pos 1).2.1 = 0 ∨ (rdU s pos 1).2.1 = 5) ∧ ((rdU s pos 1).2.1 ≠ 0 → (rdU s pos 1).2.2 = pos) := by
  unfold rdU
  rw [if_neg (by omega)]
  split <;> simp

end Go.Proofs.YtjjjfmnhdnajkaaGreatDoor

end
section
set_option maxRecDepth 20000
namespace Go.Proofs.YtjjjfmnhdnajkaaGreatDoor
open Go.RowKit
set_option linter.unusedVariables false

set_option maxHeartbeats 400000 in
theorem rback_any (b : Nat) (s : ByteArray) (q at_ : Nat) (er : Int) (w : World) (h : Rd w b s q) (ha : at_ ≤ 8 * s.size) :
    Calls Tryz.prog 146 #[.pointer (some ⟨b, 0, none⟩), .int .i64 at_, .int .i64 er] w fun e w' => e = .returned (.tuple #[.int .u64 0, .int .i64 er]) ∧ Rd w' b s at_ ∧ Only [b] w w' := by
  have H := hid h
  have hp := h.hp
  have hf := h.hf
  clear h
  go_enter Tryz.func146, Tryz.ntmps146
  go_wp2
  go_ret2
  exact ⟨rfl, H.out.set at_ ha, (Only.refl _ _).setCell (.inl (by simp)) _⟩

theorem ret_tup' {k : IntKind} {a b : Int} {x : Value} (h : a = b) : Ending.returned (.tuple #[.int k a, x]) = .returned (.tuple #[.int k b, x]) := by rw [h]
theorem rdUk_no {s : ByteArray} {pos k : Nat} (h : (lead s pos 32).2 ≠ 0) : rdUk s pos k = (0, (lead s pos 32).2, pos) := by unfold rdUk; rw [if_pos h]
theorem rdUk_short {s : ByteArray} {pos k z : Nat} (h : lead s pos 32 = (z, 0)) (h1 : 8 * s.size < pos + (2 * z + 1 + k)) : rdUk s pos k = (0, 5, pos) := by unfold rdUk; rw [h, if_neg (by simp), if_pos h1]
theorem rdUk_yes {s : ByteArray} {pos k z : Nat} (h : lead s pos 32 = (z, 0)) (h1 : pos + (2 * z + 1 + k) ≤ 8 * s.size) :
    rdUk s pos k = ((2 ^ z + valOf s (pos + z + 1) z - 1) * 2 ^ k + valOf s (pos + (2 * z + 1)) k, 0, pos + (2 * z + 1 + k)) := by
  have e := valOf_code (s := s) (pos := pos) (f := 32) (by rw [h]) z
  rw [h] at e
  simp only at e
  rw [show z + (1 + z) = 2 * z + 1 from by omega] at e
  unfold rdUk; rw [h, if_neg (by simp), if_neg (by simp only; omega)]
  simp only
  rw [e]

set_option maxHeartbeats 2000000 in
theorem rue_any (b : Nat) (s : ByteArray) (pos : Nat) (w : World) (h : Rd w b s pos) :
    Calls Tryz.prog 122 #[.pointer (some ⟨b, 0, none⟩)] w fun e w' => e = .returned (.tuple #[.int .u64 (rdUk s pos 0).1, .int .i64 (rdUk s pos 0).2.1]) ∧ Rd w' b s (rdUk s pos 0).2.2 ∧ Only [b] w w' := by
  have H := hid h
  have hp := h.hp
  have hle := h.le
  obtain ⟨L, hL⟩ : ∃ L, L = lead s pos 32 := ⟨_, rfl⟩
  have NO := hid (rdUk_no (s := s) (pos := pos) (k := 0))
  have SH := hid (fun z => rdUk_short (s := s) (pos := pos) (k := 0) (z := z))
  have YS := hid (fun z => rdUk_yes (s := s) (pos := pos) (k := 0) (z := z))
  rw [← hL] at NO SH YS
  have LL := hid hL
  obtain ⟨r, hr⟩ : ∃ r, r = rdUk s pos 0 := ⟨_, rfl⟩
  rw [← hr] at NO SH YS ⊢
  obtain ⟨x, y, z⟩ := r
  clear hL hr h
  go_enter Tryz.func122, Tryz.ntmps122
  go_wp2_with fail
  go_loopg [5] 32 (fun g i wr => ∃ n : Nat, n + g = 32 ∧ 1 ≤ g ∧ i = .int .i64 n ∧ Rd wr b s (pos + n) ∧ Only [b] w wr ∧ L.2 = (lead s (pos + n) g).2 ∧ L.1 = n + (lead s (pos + n) g).1)
  case atStart => exact ⟨0, by omega, by omega, rfl, H.out, Only.refl _ _, by rw [LL.out]; rfl, by rw [LL.out, Nat.zero_add]; rfl⟩
  case round =>
    obtain ⟨n, hn, hg, rfl, hR, hO, h1, h2⟩ := hrel
    have R := hid hR
    have O := hid hO
    have H1 := hid h1
    have H2 := hid h2
    have N := hid hn
    clear hR hO h1 h2
    cases gk with
    | zero => omega
    | succ g =>
      have hn1 : (n : Int) ≤ 31 := by omega
      clear hn hg
      obtain ⟨q, hq⟩ : ∃ q, q = pos + n := ⟨_, rfl⟩
      have Q := hid hq
      rw [← hq] at R
      clear hq
      have B := hid (rbit_any b s q wr R.out)
      by_cases hs : 8 * s.size ≤ q
      · have e : rdU s q 1 = (0, 5, q) := by unfold rdU; rw [if_neg (by omega), if_pos (by simp; omega)]
        rw [e] at B
        have e1 := H1.out
        rw [← Q.out] at e1
        simp only [lead, if_pos hs] at e1
        have E1 := hid e1
        clear hs e e1
        go_wp2_with fail
        refine B.out.mono ?_
        rintro e w1 ⟨rfl, hR, hO⟩
        have O1 := hid (O.out.trans hO)
        have BK := hid (rback_any b s q pos 5 w1 hR hle)
        clear hR hO
        go_wp2_with fail
        refine BK.out.mono ?_
        rintro e w2 ⟨rfl, hR2, hO2⟩
        go_wp2_with fail
        try rw [Exit.noGoto_ret]
        go_ret2
        have e := NO.out (by rw [E1.out]; decide)
        rw [E1.out] at e
        simp only [Prod.mk.injEq] at e
        obtain ⟨rfl, rfl, rfl⟩ := e
        exact ⟨rfl, hR2, O1.out.trans hO2⟩
      · have e : rdU s q 1 = ((bitAt s q).toNat, 0, q + 1) := by
          unfold rdU; rw [if_neg (by omega), if_neg (by simp; omega)]
          simp [valOf]
        rw [e] at B
        have e1 := H1.out
        have e2 := H2.out
        rw [← Q.out] at e1 e2
        simp only [lead, if_neg hs] at e1 e2
        cases hb : bitAt s q with
        | true =>
          rw [hb] at B e1 e2
          simp only [if_true] at e1 e2
          have EL := hid (show L = (n, 0) from Prod.ext_iff.2 ⟨e2, e1⟩)
          clear hs e e1 e2 hb
          have U := hid (fun w h => ru_any b s (q + 1) n w h)
          by_cases hl : 8 * s.size < q + 1 + n
          · have e : rdU s (q + 1) n = (0, 5, q + 1) := by unfold rdU; rw [if_neg (by omega), if_pos (by simp; omega)]
            rw [e] at U
            have e3 := SH.out n EL.out (by rw [Q.out] at hl; omega)
            simp only [Prod.mk.injEq] at e3
            have E3 := hid e3
            clear hl e e3
            go_wp2_with fail
            refine B.out.mono ?_
            rintro e w1 ⟨rfl, hR, hO⟩
            have O1 := hid (O.out.trans hO)
            have U1 := hid (U.out w1 hR)
            clear hR hO
            go_wp2_with fail
            refine U1.out.mono ?_
            rintro e w2 ⟨rfl, hR2, hO2⟩
            have O2 := hid (O1.out.trans hO2)
            have BK := hid (rback_any b s _ pos 5 w2 hR2 hle)
            clear hR2 hO2
            go_wp2_with fail
            refine BK.out.mono ?_
            rintro e w3 ⟨rfl, hR3, hO3⟩
            go_wp2_with fail
            try rw [Exit.noGoto_ret]
            go_ret2
            obtain ⟨rfl, rfl, rfl⟩ := E3.out
            exact ⟨rfl, hR3, O2.out.trans hO3⟩
          · have e : rdU s (q + 1) n = (valOf s (q + 1) n, 0, q + 1 + n) := by unfold rdU; rw [if_neg (by omega), if_neg (by simp; omega)]; simp
            rw [e] at U
            have e3 := YS.out n EL.out (by rw [Q.out] at hl; omega)
            simp only [Prod.mk.injEq] at e3
            rw [← Q.out, Nat.pow_zero, Nat.mul_one, show valOf s (pos + (2 * n + 1)) 0 = 0 from rfl, Nat.add_zero, Nat.add_zero] at e3
            have hv := valOf_lt s (q + 1) n
            generalize valOf s (q + 1) n = v at *
            have hpow : (2 : Int) ^ n = ((2 ^ n : Nat) : Int) := by rw [Int.natCast_pow]; rfl
            have hp2 : 2 ^ n ≤ 2 ^ 31 := Nat.pow_le_pow_right (by omega) (by omega)
            have hp0 : 0 < 2 ^ n := Nat.pow_pos (by omega)
            have p31 : (2 : Nat) ^ 31 = 2147483648 := by decide
            have hw : IntKind.u64.wrap ((2 : Int) ^ n) = (2 : Int) ^ n := by rw [hpow]; exact wrap_nat _ (by omega)
            have i1 : (0 : Int) ≤ 2 ^ n := by rw [hpow]; omega
            have i2 : (2 : Int) ^ n ≤ 2147483648 := by rw [hpow]; omega
            have i3 : (v : Int) ≤ 2147483648 := by omega
            have i4 : (1 : Int) ≤ 2 ^ n := by rw [hpow]; omega
            have FIN := hid (show (2 : Int) ^ n + (v : Int) - 1 = ((2 ^ n + v - 1 : Nat) : Int) from by rw [hpow]; omega)
            have E3 := hid e3
            clear hl e e3 hp2 hp0 p31 hpow hv
            go_wp2_with fail
            refine B.out.mono ?_
            rintro e w1 ⟨rfl, hR, hO⟩
            have O1 := hid (O.out.trans hO)
            have U1 := hid (U.out w1 hR)
            clear hR hO
            go_wp2_with fail
            refine U1.out.mono ?_
            rintro e w2 ⟨rfl, hR2, hO2⟩
            go_wp2_with fail
            go_ret2
            obtain ⟨rfl, rfl, rfl⟩ := E3.out
            refine ⟨ret_tup' FIN.out, ?_, O1.out.trans hO2⟩
            rw [show pos + (2 * n + 1) = q + 1 + n from by rw [Q.out]; omega]
            exact hR2
        | false =>
          rw [hb] at B e1 e2
          simp only [Bool.false_eq_true, if_false] at e1 e2
          have E1 := hid e1
          have E2 := hid e2
          clear hs e e1 e2 hb
          cases g with
          | zero =>
            have hn31 : n = 31 := by have := N.out; omega
            subst hn31
            simp only [lead] at E1
            go_wp2_with fail
            refine B.out.mono ?_
            rintro e w1 ⟨rfl, hR, hO⟩
            have O1 := hid (O.out.trans hO)
            have BK := hid (rback_any b s _ pos 4 w1 hR hle)
            clear hR hO
            go_wp2_with fail
            refine BK.out.mono ?_
            rintro e w2 ⟨rfl, hR2, hO2⟩
            go_wp2_with fail
            try rw [Exit.noGoto_ret]
            go_ret2
            have e := NO.out (by rw [E1.out]; decide)
            rw [E1.out] at e
            simp only [Prod.mk.injEq] at e
            obtain ⟨rfl, rfl, rfl⟩ := e
            exact ⟨rfl, hR2, O1.out.trans hO2⟩
          | succ g' =>
            have hn2 : (n : Int) + 1 ≤ 31 := by have := N.out; omega
            have hn3 : ((n : Int) + 1 == 32) = false := by rw [beq_eq_false_iff_ne]; omega
            go_wp2_with fail
            refine B.out.mono ?_
            rintro e w1 ⟨rfl, hR, hO⟩
            have R1 := hid hR
            have O1 := hid (O.out.trans hO)
            clear hR hO
            go_wp2_with fail
            go_roundg (g' + 1)
            case measure => omega
            case rel => exact ⟨n + 1, by have := N.out; omega, by omega, by go_num, by rw [← Nat.add_assoc, ← Q.out]; exact R1.out, O1.out, by rw [← Nat.add_assoc, ← Q.out]; exact E1.out, by rw [← Nat.add_assoc, ← Q.out, E2.out]; omega⟩
end Go.Proofs.YtjjjfmnhdnajkaaGreatDoor

end
section
set_option maxRecDepth 20000
namespace Go.Proofs.YtjjjfmnhdnajkaaGreatDoor
open Go.RowKit
set_option linter.unusedVariables false

set_option maxHeartbeats 1000000 in
theorem rse_any (b : Nat) (s : ByteArray) (pos : Nat) (w : World) (h : Rd w b s pos) :
    Calls Tryz.prog 125 #[.pointer (some ⟨b, 0, none⟩)] w fun e w' => e = .returned (.tuple #[.int .i64 (seVal (rdUk s pos 0).1), .int .i64 (rdUk s pos 0).2.1]) ∧ Rd w' b s (rdUk s pos 0).2.2 ∧ Only [b] w w' := by
  have C := hid (rue_any b s pos w h)
  have hb := rdUk_lt s pos 0
  have he := rdUk_err s pos 0
  generalize rdUk s pos 0 = r at *
  obtain ⟨x, y, z⟩ := r
  simp only at hb he
  have hx : x ≤ 4294967295 := by have : (2 : Nat) ^ (32 + 0) = 4294967296 := by decide
                                 omega
  have cases3 : y = 0 ∨ (x = 0 ∧ y = 4) ∨ (x = 0 ∧ y = 5) := by
    rcases he with e | ⟨a, b, c⟩
    · exact .inl e
    · rcases c with c | c
      · exact .inr (.inl ⟨a, c⟩)
      · exact .inr (.inr ⟨a, c⟩)
  clear h hb he
  rcases cases3 with rfl | ⟨rfl, rfl⟩ | ⟨rfl, rfl⟩
  · unfold seVal
    by_cases h1 : x % 2 = 1
    · rw [if_pos h1]
      have h1' : ((x : Int) % 2 == 1) = true := by rw [beq_iff_eq]; omega
      clear h1
      go_enter Tryz.func125, Tryz.ntmps125
      go_wp2_with fail
      refine C.out.mono ?_
      rintro e w1 ⟨rfl, hR, hO⟩
      go_wp2_with fail
      go_ret2
      exact ⟨rfl, hR, hO⟩
    · rw [if_neg h1]
      have h1' : ((x : Int) % 2 == 1) = false := by rw [beq_eq_false_iff_ne]; omega
      clear h1
      go_enter Tryz.func125, Tryz.ntmps125
      go_wp2_with fail
      refine C.out.mono ?_
      rintro e w1 ⟨rfl, hR, hO⟩
      go_wp2_with fail
      go_ret2
      exact ⟨rfl, hR, hO⟩
  all_goals
    rw [show seVal 0 = 0 from rfl]
    go_enter Tryz.func125, Tryz.ntmps125
    go_wp2_with fail
    refine C.out.mono ?_
    rintro e w1 ⟨rfl, hR, hO⟩
    go_wp2_with fail
    go_ret2
    exact ⟨rfl, hR, hO⟩

theorem rdUk_step (s : ByteArray) (pos k : Nat) : rdUk s pos k = if (rdUk s pos 0).2.1 ≠ 0 then (0, (rdUk s pos 0).2.1, pos) else if 8 * s.size < (rdUk s pos 0).2.2 + k then (0, 5, pos) else ((rdUk s pos 0).1 * 2 ^ k + valOf s (rdUk s pos 0).2.2 k, 0, (rdUk s pos 0).2.2 + k) := by
  by_cases h : (lead s pos 32).2 = 0
  · by_cases h1 : 8 * s.size < pos + (2 * (lead s pos 32).1 + 1 + 0)
    · have e0 : rdUk s pos 0 = (0, 5, pos) := by unfold rdUk; rw [if_neg (by simp [h]), if_pos h1]
      have e1 : rdUk s pos k = (0, 5, pos) := by unfold rdUk; rw [if_neg (by simp [h]), if_pos (by omega)]
      rw [e0, e1]; simp
    · have e0 : rdUk s pos 0 = (valOf s pos (2 * (lead s pos 32).1 + 1) - 1, 0, pos + (2 * (lead s pos 32).1 + 1)) := by
        unfold rdUk; rw [if_neg (by simp [h]), if_neg h1]; simp [valOf]
      rw [e0]
      unfold rdUk
      rw [if_neg (by simp [h])]
      simp only [ne_eq, not_true_eq_false, if_false]
      rw [Nat.add_assoc pos]
  · have e0 : rdUk s pos 0 = (0, (lead s pos 32).2, pos) := by unfold rdUk; rw [if_pos h]
    rw [e0, if_pos h]
    unfold rdUk
    rw [if_pos h]

end Go.Proofs.YtjjjfmnhdnajkaaGreatDoor

end

/- The program's codes: how they are made, and what their functions do. -/
import Derived.Test.YtjjjfmnhdnajkaaGreatDoorMg14
import Derived.Test.YtjjjfmnhdnajkaaGreatDoorMg8
import Derived.Test.YtjjjfmnhdnajkaaGreatDoorMg5
import Derived.Laws.EntriesVeiled
import Derived.Deep.QuietTactic
import Derived.BigQuiet
import Derived.IntWalk
namespace Go.Proofs.YtjjjfmnhdnajkaaGreatDoor
open Go.RowKit
set_option linter.unusedVariables false
set_option linter.unusedSimpArgs false

theorem pow16 {n : Nat} (h : n ≤ 16) : 1 ≤ (2 : Int) ^ n ∧ (2 : Int) ^ n ≤ 65536 := by
  have e : (2 : Int) ^ n = ((2 ^ n : Nat) : Int) := by rw [Int.natCast_pow]; rfl
  have h1 : 2 ^ n ≤ 2 ^ 16 := Nat.pow_le_pow_right (by omega) h
  have h2 : 0 < 2 ^ n := Nat.pow_pos (by omega)
  rw [e]
  omega
theorem wrap_in (x : Int) (h1 : -9223372036854775808 ≤ x) (h2 : x ≤ 9223372036854775807) : wrap64 x = x := IntWalk.wrap64_in x ⟨h1, h2⟩
set_option maxHeartbeats 1000000 in
theorem uC_any (n : Nat) (h : n ≤ 16) (w : World) : Calls Tryz.prog 112 #[.int .i64 n] w fun e w' => ∃ cv K, e = .returned cv ∧ CdAt w' cv K (.u n) ∧ w.heap.size ≤ K ∧ Only [] w w' := by
  have hmf : ∀ (fn : Fn) (first cap : Array Value) (w : World), (Instr.makeFunc fn first cap).run Tryz.prog w = .ok (.func fn first cap) w := fun _ _ _ _ => rfl
  have hp := pow16 h
  have hw : wrap64 (wrap64 (2 ^ n) - 1) = 2 ^ n - 1 := by
    rw [wrap_in (2 ^ n) (by omega) (by omega), wrap_in _ (by omega) (by omega)]
  have HW := hid hw
  clear hw hp
  go_enter Tryz.func112, Tryz.ntmps112
  go_wp2_with fail
  rw [HW.out]
  refine bodyPost_ret (v := .agg #[.func (.func 131) #[] #[.pointer (some ⟨w.heap.size, 0, none⟩)], .func (.func 132) #[] #[.pointer (some ⟨w.heap.size, 0, none⟩)], .int .i64 0, .int .i64 (2 ^ n - 1)]) (by simp [results, Tryz.results112, go_sem]) rfl ⟨_, w.heap.size, rfl, ⟨rfl, ?_⟩, Nat.le_refl _, ((Only.refl [] w).alloc _).alloc _⟩
  exact (Boxed.new w _ _).alloc _
set_option maxHeartbeats 1000000 in
theorem ueC_any (a b : Int) (w : World) : Calls Tryz.prog 113 #[.int .i64 a, .int .i64 b] w fun e w' => ∃ cv K, e = .returned cv ∧ CdAt w' cv K (.ue a b) ∧ w.heap.size ≤ K ∧ Only [] w w' := by
  have hmf : ∀ (fn : Fn) (first cap : Array Value) (w : World), (Instr.makeFunc fn first cap).run Tryz.prog w = .ok (.func fn first cap) w := fun _ _ _ _ => rfl
  go_enter Tryz.func113, Tryz.ntmps113
  go_wp2_with fail
  refine bodyPost_ret (v := .agg #[.func (.func 133) #[] #[.pointer (some ⟨w.heap.size, 0, none⟩)], .func (.func 134) #[] #[.pointer (some ⟨w.heap.size, 0, none⟩)], .int .i64 a, .int .i64 b]) (by simp [results, Tryz.results113, go_sem]) rfl ⟨_, w.heap.size, rfl, ⟨rfl, ?_⟩, Nat.le_refl _, ((Only.refl [] w).alloc _).alloc _⟩
  exact (Boxed.new w _ _).alloc _
set_option maxHeartbeats 1000000 in
theorem seC_any (a b : Int) (w : World) : Calls Tryz.prog 118 #[.int .i64 a, .int .i64 b] w fun e w' => ∃ cv K, e = .returned cv ∧ CdAt w' cv K (.se a b) ∧ w.heap.size ≤ K ∧ Only [] w w' := by
  go_enter Tryz.func118, Tryz.ntmps118
  go_wp2_with fail
  refine bodyPost_ret (v := .agg #[.func (.func 141) #[] #[], .func (.func 143) #[] #[], .int .i64 a, .int .i64 b]) (by simp [results, Tryz.results118, go_sem]) rfl ⟨_, w.heap.size, rfl, ⟨rfl, by simp⟩, Nat.le_refl _, (Only.refl [] w).alloc _⟩

/-! ### The functions that read. -/
set_option maxHeartbeats 1000000 in
theorem u1_any (b K n : Nat) (h : n ≤ 16) (s : ByteArray) (pos : Nat) (w : World) (hr : Rd w b s pos) (hK : Boxed w K 3 (.int .i64 n)) :
    Calls Tryz.prog 131 #[.pointer (some ⟨b, 0, none⟩), .pointer (some ⟨K, 0, none⟩)] w fun e w' => e = .returned (.tuple #[.int .i64 (rdC s pos (.u n)).1, .int .i64 (rdC s pos (.u n)).2.1]) ∧ Rd w' b s (rdC s pos (.u n)).2.2 ∧ Only [b] w w' := by
  have C := hid (u_any b s pos n w hr)
  have hb := rdU_lt s pos n
  simp only [rdC]
  generalize rdU s pos (n : Int) = r at *
  obtain ⟨x, y, z⟩ := r
  have hx : x ≤ 65535 := by
    have h1 : 2 ^ n ≤ 2 ^ 16 := Nat.pow_le_pow_right (by omega) h
    simp only [Int.toNat_natCast] at hb
    omega
  have kc := hK.cell
  clear hb hr hK h
  go_enter Tryz.func131, Tryz.ntmps131
  go_wp2_with fail
  refine C.out.mono ?_
  rintro e w1 ⟨rfl, hR, hO⟩
  go_wp2_with fail
  go_ret2
  exact ⟨rfl, hR, hO⟩
set_option maxHeartbeats 1000000 in
theorem ue1_any (b K : Nat) (a c : Int) (h0 : 0 ≤ a) (h1 : a ≤ 1) (s : ByteArray) (pos : Nat) (w : World) (hr : Rd w b s pos) (hK : Boxed w K 3 (.int .i64 a)) (hne : K ≠ b) :
    Calls Tryz.prog 133 #[.pointer (some ⟨b, 0, none⟩), .pointer (some ⟨K, 0, none⟩)] w fun e w' => e = .returned (.tuple #[.int .i64 (rdC s pos (.ue a c)).1, .int .i64 (rdC s pos (.ue a c)).2.1]) ∧ Rd w' b s (rdC s pos (.ue a c)).2.2 ∧ Only [b] w w' := by
  have C := hid (ue_any b s pos w hr)
  have hb := rdUk_lt s pos 0
  simp only [rdC]
  generalize rdUk s pos 0 = r at *
  obtain ⟨x, y, z⟩ := r
  have hx : x ≤ 4294967295 := by
    have : (2 : Nat) ^ (32 + 0) = 4294967296 := by decide
    simp only at hb; omega
  have KK := hid hK
  have NE := hid hne
  clear hb hr hK hne
  go_enter Tryz.func133, Tryz.ntmps133
  go_wp2_with fail
  refine C.out.mono ?_
  rintro e w1 ⟨rfl, hR, hO⟩
  have kc := (boxed_only KK.out hO (by simpa using NE.out)).cell
  go_wp2_with fail
  go_ret2
  exact ⟨rfl, hR, hO⟩
set_option maxHeartbeats 1000000 in
theorem se1_any (b : Nat) (a c : Int) (s : ByteArray) (pos : Nat) (w : World) (hr : Rd w b s pos) :
    Calls Tryz.prog 141 #[.pointer (some ⟨b, 0, none⟩)] w fun e w' => e = .returned (.tuple #[.int .i64 (rdC s pos (.se a c)).1, .int .i64 (rdC s pos (.se a c)).2.1]) ∧ Rd w' b s (rdC s pos (.se a c)).2.2 ∧ Only [b] w w' := by
  have C := hid (se_any b s pos w hr)
  simp only [rdC]
  have hb := rdUk_lt s pos 0
  generalize rdUk s pos 0 = r at *
  obtain ⟨x, y, z⟩ := r
  have hx : x ≤ 4294967295 := by
    have : (2 : Nat) ^ (32 + 0) = 4294967296 := by decide
    simp only at hb; omega
  have hv : -2147483648 ≤ seVal x ∧ seVal x ≤ 2147483648 := by
    unfold seVal; split <;> omega
  simp only at C ⊢
  generalize seVal x = v at *
  obtain ⟨v1, v2⟩ := hv
  clear hb hr hx
  go_enter Tryz.func141, Tryz.ntmps141
  go_wp2_with fail
  refine C.out.mono ?_
  rintro e w1 ⟨rfl, hR, hO⟩
  go_wp2_with fail
  go_ret2
  exact ⟨rfl, hR, hO⟩
/-! ### The functions that write. -/
set_option maxHeartbeats 1000000 in
theorem u2_any (b K n v : Nat) (h : n ≤ 16) (hv : v < 2 ^ n) (sv : Value) (L : List Bool) (w : World) (hw : Wr w b sv L) (hK : Boxed w K 3 (.int .i64 n)) (hL : L.length ≤ 10000000) :
    Calls Tryz.prog 132 #[.pointer (some ⟨b, 0, none⟩), .int .i64 v, .pointer (some ⟨K, 0, none⟩)] w fun e w' => e = .returned (.int .i64 0) ∧ ∃ sv', PutLeft w w' b sv sv' (L ++ bitsOf n v) := by
  have C := hid (put_any b sv L n v w hw (by omega))
  rw [show wrP L n v = (0, L ++ bitsOf n v) from by unfold wrP; rw [if_neg (by omega), Int.toNat_natCast, if_neg (by omega)]] at C
  have hx : v ≤ 65535 := by
    have h1 : 2 ^ n ≤ 2 ^ 16 := Nat.pow_le_pow_right (by omega) h
    omega
  have kc := hK.cell
  clear hw hK h hv
  go_enter Tryz.func132, Tryz.ntmps132
  go_wp2_with fail
  refine C.out.mono ?_
  rintro e w1 ⟨rfl, hP⟩
  go_wp2_with fail
  go_ret
  exact ⟨rfl, hP⟩
set_option maxHeartbeats 1000000 in
theorem ue2_any (b K : Nat) (a v : Int) (V : Nat) (h0 : 0 ≤ a) (h1 : a ≤ 1) (hv : v - a = V) (hV : V ≤ 200000) (sv : Value) (L : List Bool) (w : World) (hw : Wr w b sv L) (hK : Boxed w K 3 (.int .i64 a)) (hL : L.length ≤ 10000000) :
    Calls Tryz.prog 134 #[.pointer (some ⟨b, 0, none⟩), .int .i64 v, .pointer (some ⟨K, 0, none⟩)] w fun e w' => e = .returned (.int .i64 0) ∧ ∃ sv', PutLeft w w' b sv sv' (L ++ ueBits V) := by
  have C := hid (putue_any b sv L V w hw (by omega) (by omega))
  rw [show wrUe L V = (0, L ++ ueBits V) from by unfold wrUe; rw [if_neg (by omega)]] at C
  obtain rfl : v = a + V := by omega
  have kc := hK.cell
  have e1 : a + (V : Int) - a = (V : Int) := by omega
  clear hw hK hv
  go_enter Tryz.func134, Tryz.ntmps134
  go_wp2_with fail
  refine C.out.mono ?_
  rintro e w1 ⟨rfl, hP⟩
  go_wp2_with fail
  go_ret
  exact ⟨rfl, hP⟩
set_option maxHeartbeats 1000000 in
theorem se2_any (b : Nat) (v : Int) (h0 : -100 ≤ v) (h1 : v ≤ 100) (sv : Value) (L : List Bool) (w : World) (hw : Wr w b sv L) (hL : L.length ≤ 10000000) :
    Calls Tryz.prog 143 #[.pointer (some ⟨b, 0, none⟩), .int .i64 v] w fun e w' => e = .returned (.int .i64 0) ∧ ∃ sv', PutLeft w w' b sv sv' (L ++ ueBits (seNum v)) := by
  have C := hid (putse_any b sv L v w hw (by omega))
  rw [show wrSe L v = (0, L ++ ueBits (seNum v)) from by unfold wrSe; rw [if_neg (by omega)]] at C
  clear hw
  go_enter Tryz.func143, Tryz.ntmps143
  go_wp2_with fail
  refine C.out.mono ?_
  rintro e w1 ⟨rfl, hP⟩
  go_wp2_with fail
  go_ret
  exact ⟨rfl, hP⟩
/-! ### What is not there; numbers in their range; the lists' functions. -/
set_option maxHeartbeats 400000 in
theorem absent_any (b : Bool) (w : World) : Calls Tryz.prog 130 #[.bool b] w fun e w' => e = .returned (.int .i64 (if b = true then 0 else 2)) ∧ w = w' := by
  cases b
  all_goals
    go_enter Tryz.func130, Tryz.ntmps130
    go_wp2_with fail
    go_ret
    exact ⟨rfl, rfl⟩
set_option maxHeartbeats 1000000 in
theorem checknum_any (k i : Nat) (v : Int) (c : Cd) (g1 g2 : Fn) (c1 c2 : Array Value) (w : World) (hc : w.cell? ⟨k, i, none⟩ = some (.int .i64 v)) :
    Calls Tryz.prog 50 #[.pointer (some ⟨k, i, none⟩), .agg #[.func g1 #[] c1, .func g2 #[] c2, .int .i64 c.lo, .int .i64 c.hi]] w fun e w' => e = .returned (.int .i64 (numC c v)) ∧ Only [] w w' := by
  have hc' := fun o => ((Only.refl [] w).alloc o).cell hc (by simp)
  unfold numC
  generalize c.lo = lo at *
  generalize c.hi = hi at *
  have hlt : k < w.heap.size := World.block_lt_of_cell? _ _ hc
  have cc := hc' (.cells #[.func g1 #[] c1, .func g2 #[] c2, .int .i64 lo, .int .i64 hi] 121)
  clear hc hc'
  by_cases h1 : v < lo
  · rw [if_pos (.inl h1)]
    have hd : decide (v < lo) = true := by simpa using h1
    go_enter Tryz.func50, Tryz.ntmps50
    go_wp2_with fail
    go_quiet (fail)
    go_wp2_with fail
    go_ret
    exact ⟨rfl, ((Only.refl _ _).alloc _).drewN _⟩
  · have hd : decide (v < lo) = false := by simpa using h1
    by_cases h2 : hi < v
    · rw [if_pos (.inr h2)]
      have hd2 : decide (hi < v) = true := by simpa using h2
      go_enter Tryz.func50, Tryz.ntmps50
      go_wp2_with fail
      go_quiet (fail)
      go_wp2_with fail
      go_ret
      exact ⟨rfl, ((Only.refl _ _).alloc _).drewN _⟩
    · rw [if_neg (by omega)]
      have hd2 : decide (hi < v) = false := by simpa using h2
      go_enter Tryz.func50, Tryz.ntmps50
      go_wp2_with fail
      go_quiet (fail)
      go_wp2_with fail
      go_ret
      exact ⟨rfl, ((Only.refl _ _).alloc _).drewN _⟩
set_option maxHeartbeats 400000 in
theorem modsC_any (w : World) : Calls Tryz.prog 116 #[] w fun e w' => e = .returned (cmsV false) ∧ Only [] w w' := by
  go_enter Tryz.func116, Tryz.ntmps116
  go_wp2_with fail
  exact bodyPost_ret (v := cmsV false) (by simp [results, Tryz.results116, go_sem, cmsV]) rfl ⟨rfl, (Only.refl _ _).alloc _⟩
set_option maxHeartbeats 400000 in
theorem marksC_any (w : World) : Calls Tryz.prog 117 #[] w fun e w' => e = .returned (cmsV true) ∧ Only [] w w' := by
  go_enter Tryz.func117, Tryz.ntmps117
  go_wp2_with fail
  exact bodyPost_ret (v := cmsV true) (by simp [results, Tryz.results117, go_sem, cmsV]) rfl ⟨rfl, (Only.refl _ _).alloc _⟩
set_option maxHeartbeats 1000000 in
theorem isunit_any (ref : Int) (idr : Bool) (h0 : 0 ≤ ref) (w : World) : Calls Tryz.prog 42 #[.int .u8 ref, .bool idr] w fun e w' => e = .returned (.bool (decide (ref ≤ 3) && (decide (0 < ref) || !idr))) ∧ w = w' := by
  by_cases h1 : ref ≤ 3 <;> by_cases h2 : 0 < ref <;> cases idr
  all_goals
    go_enter Tryz.func42, Tryz.ntmps42
    go_wp2_with fail
    go_ret
    exact ⟨by simp [h1, h2], rfl⟩
end Go.Proofs.YtjjjfmnhdnajkaaGreatDoor

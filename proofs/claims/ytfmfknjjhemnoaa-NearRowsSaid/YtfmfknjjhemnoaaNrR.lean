/- NearRows, for whatever comes in. -/
import Derived.Test.YtfmfknjjhemnoaaNpU
namespace Go.Proofs.Ytfmfknjjhemnoaa
open Go.RowKit
set_option linter.unusedVariables false
set_option linter.unusedSimpArgs false

set_option maxRecDepth 1000000 in
set_option maxHeartbeats 4000000 in
theorem nrows_yy (a b wd : Int) (k r c k1 j : Nat) (w : World) (a0 : 0 ≤ a) (a1 : a ≤ 255) (b0 : 0 ≤ b) (b1 : b ≤ 255) (hw : 1 + a % 9 = wd) (hk : b % 60 = (k : Int)) (hr : (k : Int) / wd = (r : Int)) (hc : (k : Int) % wd = (c : Int)) (hkr : (r : Int) * wd + c = k)
    (c1 : 0 < c) (hk1 : k = k1 + 1) (r1 : 0 < r) (hj : (k : Int) - wd = j) :
    Calls Try.prog 8 #[.int .u8 a, .int .u8 b] w fun e w' => e = .returned (.bool true) ∧ Only [] w w' := by
  have w0 : 1 ≤ wd := by omega
  have w9 : wd ≤ 9 := by omega
  have k60 : (k : Int) ≤ 59 := by omega
  have LA := hid (fun w' => lat_any 0 wd k w' ⟨by omega, by omega, w0, by omega⟩ (by omega))
  have AW := hid awake_any
  have el : leftO 0 wd (qpsM k) = some (qpM k1) := by
    unfold leftO
    rw [qpsM_len, Int.zero_add, hc]
    rw [if_neg (by omega)]
    have h := lookR_last (f := 0) (ms := qpsM k) k1 (by rw [qpsM_len, hk1])
    rw [qpsM_len, Int.zero_add] at h
    rw [h, qpsM_at (by omega)]
  have ea : aboveO 0 wd (qpsM k) = some (qpM j) := by
    have h := lookR_up (f := 0) (wd := wd) (ms := qpsM k) j (by rw [qpsM_len]; exact hj)
    unfold aboveO
    rw [h, qpsM_at (by omega)]
  have F1 := hid (fun rv vv bv w' => (show Calls Try.prog 22 #[mV (qpM k1) rv vv bv, .bool true, .int .i64 (k : Int)] w' fun e w'' => e = .returned (.bool true) ∧ Only [] w' w'' from finds_some (qpM k1) rv vv bv (k : Int) (by rw [hk1]; rfl) (by omega) w'))
  have F2 := hid (fun rv vv bv w' => (show Calls Try.prog 22 #[mV (qpM j) rv vv bv, .bool true, .int .i64 ((j : Int) + 1)] w' fun e w'' => e = .returned (.bool true) ∧ Only [] w' w'' from finds_some (qpM j) rv vv bv ((j : Int) + 1) rfl (by omega) w'))
  have HL := hid el
  have HA := hid ea
  have k0 : (0 : Int) ≤ (k : Int) := by omega
  have cb : (c : Int) ≤ 59 := by
    have := Int.emod_lt_of_pos (k : Int) (show 0 < wd by omega)
    rw [hc] at this
    omega
  have rb : (r : Int) ≤ 59 := by
    have := Int.ediv_le_self (b := wd) k0
    rw [hr] at this
    omega
  have HQ := hid (show IntKind.i64.wrap ((k : Int).tdiv wd) = (r : Int) ∧ (k : Int).tdiv wd = (r : Int) from ⟨by rw [Int.tdiv_eq_ediv_of_nonneg k0, hr]; exact IntWalk.i64_in _ (by omega), by rw [Int.tdiv_eq_ediv_of_nonneg k0, hr]⟩)
  have HM := hid (show IntKind.i64.wrap ((k : Int).tmod wd) = (c : Int) ∧ (k : Int).tmod wd = (c : Int) from ⟨by rw [Int.tmod_eq_emod_of_nonneg k0, hc]; exact IntWalk.i64_in _ (by omega), by rw [Int.tmod_eq_emod_of_nonneg k0, hc]⟩)
  obtain ⟨m1, hm1⟩ : ∃ m1 : Int, (r : Int) * wd = m1 := ⟨_, rfl⟩
  rw [hm1] at hkr
  have hm2 : ((r : Int) - 1) * wd = m1 - wd := by rw [Int.sub_mul, hm1, Int.one_mul]
  obtain ⟨m2, hq2⟩ : ∃ m2 : Int, m1 - wd = m2 := ⟨_, rfl⟩
  rw [hq2] at hm2
  have E1 := hid hm1
  have E2 := hid hkr
  have m10 : 0 ≤ m1 := by rw [← hm1]; exact Int.mul_nonneg (by omega) (by omega)
  have m11 : m1 ≤ 59 := by omega
  have c0 : (0 : Int) ≤ (c : Int) := by omega
  have r0 : (0 : Int) ≤ (r : Int) := by omega
  have E3 := hid hm2
  have m20 : 0 ≤ m2 := by rw [← hm2]; exact Int.mul_nonneg (by omega) (by omega)
  have m21 : m2 ≤ 59 := by omega
  have E4 := hid (show m2 + (c : Int) = (j : Int) by omega)
  clear hm2 hq2
  have dz : ¬ wd = 0 := by omega
  clear hr hc hkr el ea hm1 hj hk1
  go_enter Try.func8, Try.ntmps8
  go_wp2_with fail
  refine (LA.out _).mono ?_
  rintro e w1 ⟨nb, F, rfl, hN, _, o1⟩
  have O1 := hid o1
  have LL := hid (fun w' (o : Only [] w1 w') => (left_any w' (hN.only0 o)).mono fun e w3 q => q.b (congrArg ansM HL.out) (congrArg Option.isSome HL.out))
  have LB := hid (fun w' (o : Only [] w1 w') => (above_any w' (hN.only0 o)).mono fun e w3 q => q.b (congrArg ansM HA.out) (congrArg Option.isSome HA.out))
  have LL := hid (show ∀ w', Only [] w1 w' → Calls Try.prog 19 #[.pointer (some ⟨nb, 0, none⟩)] w' (fun e w3 => FoundB w' w3 (qpM k1) true e) from LL.out)
  have LB := hid (show ∀ w', Only [] w1 w' → Calls Try.prog 20 #[.pointer (some ⟨nb, 0, none⟩)] w' (fun e w3 => FoundB w' w3 (qpM j) true e) from LB.out)
  clear hN o1 LA
  go_wp2_with fail
  have hq := HQ.out
  have hm := HM.out
  go_quiet (fail)
  clear hq hm
  have O2 := hid (O1.out.drewN nq)
  have G1 := hid ((Only.refl [] w1).drewN nq)
  obtain ⟨wq, hwq⟩ : ∃ x, x = w1.drewN nq := ⟨_, rfl⟩
  rw [← hwq] at O2 G1 ⊢
  clear hwq
  go_wp2_with fail
  refine (LL.out wq G1.out).mono ?_
  rintro e v1 ⟨rv, vv, bv, rfl, ow⟩
  obtain ⟨a1, b1, c1, rfl, rfl, rfl⟩ := ow.at.sl
  have bz := blk_m0 v1
  have OV1 := hid ((O2.out).trans ow.only)
  have MV1 := hid ow.at
  have PV1 := hid ow.only
  obtain ⟨q1, hq⟩ : ∃ q, q = v1.heap.size := ⟨_, rfl⟩
  have one := hid (one_mC (qpM k1) (rv := a1.sl) (vv := b1.sl) (bv := c1.sl) rfl rfl rfl)
  clear ow
  unfold mV
  go_upto_region 7 with (refine store_blk rfl 40 (.tmp 10) (.tmp 37) rfl v1.heap.size 0 _ _ (mC (qpM k1) a1.sl b1.sl c1.sl) rfl rfl (info_mb' _ _ _ _) bz (by simp [mC]) one.out ?_; intro u1 hB2 hO2)
  rw [setsA_full (by simp [mC])] at hB2
  rw [← hq] at hB2 hO2 ⊢
  have W1 := hid (show Only [] v1 u1 from ((Only.refl [] v1).alloc _).trans2 hO2 (fun g hg => .inr (by simp at hg; omega)))
  have OA1 := hid (OV1.out.trans W1.out)
  have P1 := hid (PV1.out.trans W1.out)
  have B1 := hid (fun w' (o : Only [] u1 w') => (hB2.only o (by simp)).mb)
  have M1 := hid (fun w' (o : Only [] u1 w') => MV1.out.only0 (W1.out.trans o))
  clear hq hB2 hO2 bz one MV1
  go_wp2_with fail
  refine (LB.out u1 (G1.out.trans P1.out)).mono ?_
  rintro e v2 ⟨rv, vv, bv, rfl, ow⟩
  obtain ⟨a2, b2, c2, rfl, rfl, rfl⟩ := ow.at.sl
  have bz := blk_m0 v2
  have OV2 := hid ((OA1.out).trans ow.only)
  have MV2 := hid ow.at
  have PV2 := hid ow.only
  obtain ⟨q2, hq⟩ : ∃ q, q = v2.heap.size := ⟨_, rfl⟩
  have one := hid (one_mC (qpM j) (rv := a2.sl) (vv := b2.sl) (bv := c2.sl) rfl rfl rfl)
  clear ow
  unfold mV
  go_upto_region 8 with (refine store_blk rfl 40 (.tmp 12) (.tmp 42) rfl v2.heap.size 0 _ _ (mC (qpM j) a2.sl b2.sl c2.sl) rfl rfl (info_mb' _ _ _ _) bz (by simp [mC]) one.out ?_; intro u2 hB2 hO2)
  rw [setsA_full (by simp [mC])] at hB2
  rw [← hq] at hB2 hO2 ⊢
  have W2 := hid (show Only [] v2 u2 from ((Only.refl [] v2).alloc _).trans2 hO2 (fun g hg => .inr (by simp at hg; omega)))
  have OA2 := hid (OV2.out.trans W2.out)
  have P2 := hid (PV2.out.trans W2.out)
  have B2 := hid (fun w' (o : Only [] u2 w') => (hB2.only o (by simp)).mb)
  have M2 := hid (fun w' (o : Only [] u2 w') => MV2.out.only0 (W2.out.trans o))
  clear hq hB2 hO2 bz one MV2
  have e1 := E1.out
  have e2 := E2.out
  have e3 := E3.out
  have e4 := E4.out
  go_wp2_with (refine load_atA rfl 40 (.tmp 10) rfl ⟨q1, 0, none⟩ (mC (qpM k1) a1.sl b1.sl c1.sl) rfl (B1.out _ P2.out) ?_; simp only [Act.put, List.setIfInBounds_toArray, List.set_cons_zero, List.set_cons_succ])
  refine (F1.out _ _ _ _).mono ?_
  rintro e w5 ⟨rfl, o5⟩
  have L5 := hid (B2.out _ o5)
  have O5 := hid (OA2.out.trans o5)
  clear o5
  go_wp2_with (refine load_atG (by kernel_rfl) 40 (.tmp 12) rfl ⟨q2, 0, none⟩ (mC (qpM j) a2.sl b2.sl c2.sl) rfl L5.out ?_; simp only [Act.put, List.setIfInBounds_toArray, List.set_cons_zero, List.set_cons_succ])
  refine (F2.out _ _ _ _).mono ?_
  rintro e w6 ⟨rfl, o6⟩
  have O6 := hid (O5.out.trans o6)
  clear o6
  go_wp2_with fail
  refine (AW.out _).mono ?_
  rintro e w7 ⟨rfl, o7⟩
  have O7 := hid (O6.out.trans o7)
  clear o7
  go_wp2_with fail
  go_ret
  exact ⟨rfl, O7.out⟩
set_option maxRecDepth 1000000 in
set_option maxHeartbeats 4000000 in
theorem nrows_yn (a b wd : Int) (k r c k1 : Nat) (w : World) (a0 : 0 ≤ a) (a1 : a ≤ 255) (b0 : 0 ≤ b) (b1 : b ≤ 255) (hw : 1 + a % 9 = wd) (hk : b % 60 = (k : Int)) (hr : (k : Int) / wd = (r : Int)) (hc : (k : Int) % wd = (c : Int)) (hkr : (r : Int) * wd + c = k)
    (c1 : 0 < c) (hk1 : k = k1 + 1) (r1 : ¬ 0 < r) (hj : (k : Int) < wd) :
    Calls Try.prog 8 #[.int .u8 a, .int .u8 b] w fun e w' => e = .returned (.bool true) ∧ Only [] w w' := by
  have w0 : 1 ≤ wd := by omega
  have w9 : wd ≤ 9 := by omega
  have k60 : (k : Int) ≤ 59 := by omega
  have LA := hid (fun w' => lat_any 0 wd k w' ⟨by omega, by omega, w0, by omega⟩ (by omega))
  have AW := hid awake_any
  have el : leftO 0 wd (qpsM k) = some (qpM k1) := by
    unfold leftO
    rw [qpsM_len, Int.zero_add, hc]
    rw [if_neg (by omega)]
    have h := lookR_last (f := 0) (ms := qpsM k) k1 (by rw [qpsM_len, hk1])
    rw [qpsM_len, Int.zero_add] at h
    rw [h, qpsM_at (by omega)]
  have ea : aboveO 0 wd (qpsM k) = none := by
    exact lookR_none2 (by rw [qpsM_len]; exact hj)
  have F1 := hid (fun rv vv bv w' => (show Calls Try.prog 22 #[mV (qpM k1) rv vv bv, .bool true, .int .i64 (k : Int)] w' fun e w'' => e = .returned (.bool true) ∧ Only [] w' w'' from finds_some (qpM k1) rv vv bv (k : Int) (by rw [hk1]; rfl) (by omega) w'))
  have F2 := hid (fun rv vv bv w' => (show Calls Try.prog 22 #[mV (m0) rv vv bv, .bool false, .int .i64 0] w' fun e w'' => e = .returned (.bool true) ∧ Only [] w' w'' from finds_none m0 rv vv bv rfl w'))
  have HL := hid el
  have HA := hid ea
  have k0 : (0 : Int) ≤ (k : Int) := by omega
  have cb : (c : Int) ≤ 59 := by
    have := Int.emod_lt_of_pos (k : Int) (show 0 < wd by omega)
    rw [hc] at this
    omega
  have rb : (r : Int) ≤ 59 := by
    have := Int.ediv_le_self (b := wd) k0
    rw [hr] at this
    omega
  have HQ := hid (show IntKind.i64.wrap ((k : Int).tdiv wd) = (r : Int) ∧ (k : Int).tdiv wd = (r : Int) from ⟨by rw [Int.tdiv_eq_ediv_of_nonneg k0, hr]; exact IntWalk.i64_in _ (by omega), by rw [Int.tdiv_eq_ediv_of_nonneg k0, hr]⟩)
  have HM := hid (show IntKind.i64.wrap ((k : Int).tmod wd) = (c : Int) ∧ (k : Int).tmod wd = (c : Int) from ⟨by rw [Int.tmod_eq_emod_of_nonneg k0, hc]; exact IntWalk.i64_in _ (by omega), by rw [Int.tmod_eq_emod_of_nonneg k0, hc]⟩)
  obtain ⟨m1, hm1⟩ : ∃ m1 : Int, (r : Int) * wd = m1 := ⟨_, rfl⟩
  rw [hm1] at hkr
  have E1 := hid hm1
  have E2 := hid hkr
  have m10 : 0 ≤ m1 := by rw [← hm1]; exact Int.mul_nonneg (by omega) (by omega)
  have m11 : m1 ≤ 59 := by omega
  have c0 : (0 : Int) ≤ (c : Int) := by omega
  have r0 : (0 : Int) ≤ (r : Int) := by omega
  have dz : ¬ wd = 0 := by omega
  clear hr hc hkr el ea hm1 hj hk1
  go_enter Try.func8, Try.ntmps8
  go_wp2_with fail
  refine (LA.out _).mono ?_
  rintro e w1 ⟨nb, F, rfl, hN, _, o1⟩
  have O1 := hid o1
  have LL := hid (fun w' (o : Only [] w1 w') => (left_any w' (hN.only0 o)).mono fun e w3 q => q.b (congrArg ansM HL.out) (congrArg Option.isSome HL.out))
  have LB := hid (fun w' (o : Only [] w1 w') => (above_any w' (hN.only0 o)).mono fun e w3 q => q.b (congrArg ansM HA.out) (congrArg Option.isSome HA.out))
  have LL := hid (show ∀ w', Only [] w1 w' → Calls Try.prog 19 #[.pointer (some ⟨nb, 0, none⟩)] w' (fun e w3 => FoundB w' w3 (qpM k1) true e) from LL.out)
  have LB := hid (show ∀ w', Only [] w1 w' → Calls Try.prog 20 #[.pointer (some ⟨nb, 0, none⟩)] w' (fun e w3 => FoundB w' w3 (m0) false e) from LB.out)
  clear hN o1 LA
  go_wp2_with fail
  have hq := HQ.out
  have hm := HM.out
  go_quiet (fail)
  clear hq hm
  have O2 := hid (O1.out.drewN nq)
  have G1 := hid ((Only.refl [] w1).drewN nq)
  obtain ⟨wq, hwq⟩ : ∃ x, x = w1.drewN nq := ⟨_, rfl⟩
  rw [← hwq] at O2 G1 ⊢
  clear hwq
  go_wp2_with fail
  refine (LL.out wq G1.out).mono ?_
  rintro e v1 ⟨rv, vv, bv, rfl, ow⟩
  obtain ⟨a1, b1, c1, rfl, rfl, rfl⟩ := ow.at.sl
  have bz := blk_m0 v1
  have OV1 := hid ((O2.out).trans ow.only)
  have MV1 := hid ow.at
  have PV1 := hid ow.only
  obtain ⟨q1, hq⟩ : ∃ q, q = v1.heap.size := ⟨_, rfl⟩
  have one := hid (one_mC (qpM k1) (rv := a1.sl) (vv := b1.sl) (bv := c1.sl) rfl rfl rfl)
  clear ow
  unfold mV
  go_upto_region 7 with (refine store_blk rfl 40 (.tmp 10) (.tmp 37) rfl v1.heap.size 0 _ _ (mC (qpM k1) a1.sl b1.sl c1.sl) rfl rfl (info_mb' _ _ _ _) bz (by simp [mC]) one.out ?_; intro u1 hB2 hO2)
  rw [setsA_full (by simp [mC])] at hB2
  rw [← hq] at hB2 hO2 ⊢
  have W1 := hid (show Only [] v1 u1 from ((Only.refl [] v1).alloc _).trans2 hO2 (fun g hg => .inr (by simp at hg; omega)))
  have OA1 := hid (OV1.out.trans W1.out)
  have P1 := hid (PV1.out.trans W1.out)
  have B1 := hid (fun w' (o : Only [] u1 w') => (hB2.only o (by simp)).mb)
  have M1 := hid (fun w' (o : Only [] u1 w') => MV1.out.only0 (W1.out.trans o))
  clear hq hB2 hO2 bz one MV1
  go_wp2_with fail
  refine (LB.out u1 (G1.out.trans P1.out)).mono ?_
  rintro e v2 ⟨rv, vv, bv, rfl, ow⟩
  obtain ⟨a2, b2, c2, rfl, rfl, rfl⟩ := ow.at.sl
  have bz := blk_m0 v2
  have OV2 := hid ((OA1.out).trans ow.only)
  have MV2 := hid ow.at
  have PV2 := hid ow.only
  obtain ⟨q2, hq⟩ : ∃ q, q = v2.heap.size := ⟨_, rfl⟩
  have one := hid (one_mC (m0) (rv := a2.sl) (vv := b2.sl) (bv := c2.sl) rfl rfl rfl)
  clear ow
  unfold mV
  go_upto_region 8 with (refine store_blk rfl 40 (.tmp 12) (.tmp 42) rfl v2.heap.size 0 _ _ (mC (m0) a2.sl b2.sl c2.sl) rfl rfl (info_mb' _ _ _ _) bz (by simp [mC]) one.out ?_; intro u2 hB2 hO2)
  rw [setsA_full (by simp [mC])] at hB2
  rw [← hq] at hB2 hO2 ⊢
  have W2 := hid (show Only [] v2 u2 from ((Only.refl [] v2).alloc _).trans2 hO2 (fun g hg => .inr (by simp at hg; omega)))
  have OA2 := hid (OV2.out.trans W2.out)
  have P2 := hid (PV2.out.trans W2.out)
  have B2 := hid (fun w' (o : Only [] u2 w') => (hB2.only o (by simp)).mb)
  have M2 := hid (fun w' (o : Only [] u2 w') => MV2.out.only0 (W2.out.trans o))
  clear hq hB2 hO2 bz one MV2
  have e1 := E1.out
  have e2 := E2.out
  go_wp2_with (refine load_atA rfl 40 (.tmp 10) rfl ⟨q1, 0, none⟩ (mC (qpM k1) a1.sl b1.sl c1.sl) rfl (B1.out _ P2.out) ?_; simp only [Act.put, List.setIfInBounds_toArray, List.set_cons_zero, List.set_cons_succ])
  refine (F1.out _ _ _ _).mono ?_
  rintro e w5 ⟨rfl, o5⟩
  have L5 := hid (B2.out _ o5)
  have O5 := hid (OA2.out.trans o5)
  clear o5
  go_wp2_with (refine load_atG (by kernel_rfl) 40 (.tmp 12) rfl ⟨q2, 0, none⟩ (mC (m0) a2.sl b2.sl c2.sl) rfl L5.out ?_; simp only [Act.put, List.setIfInBounds_toArray, List.set_cons_zero, List.set_cons_succ])
  refine (F2.out _ _ _ _).mono ?_
  rintro e w6 ⟨rfl, o6⟩
  have O6 := hid (O5.out.trans o6)
  clear o6
  go_wp2_with fail
  refine (AW.out _).mono ?_
  rintro e w7 ⟨rfl, o7⟩
  have O7 := hid (O6.out.trans o7)
  clear o7
  go_wp2_with fail
  go_ret
  exact ⟨rfl, O7.out⟩
set_option maxRecDepth 1000000 in
set_option maxHeartbeats 4000000 in
theorem nrows_ny (a b wd : Int) (k r c j : Nat) (w : World) (a0 : 0 ≤ a) (a1 : a ≤ 255) (b0 : 0 ≤ b) (b1 : b ≤ 255) (hw : 1 + a % 9 = wd) (hk : b % 60 = (k : Int)) (hr : (k : Int) / wd = (r : Int)) (hc : (k : Int) % wd = (c : Int)) (hkr : (r : Int) * wd + c = k)
    (c1 : ¬ 0 < c) (r1 : 0 < r) (hj : (k : Int) - wd = j) :
    Calls Try.prog 8 #[.int .u8 a, .int .u8 b] w fun e w' => e = .returned (.bool true) ∧ Only [] w w' := by
  have w0 : 1 ≤ wd := by omega
  have w9 : wd ≤ 9 := by omega
  have k60 : (k : Int) ≤ 59 := by omega
  have LA := hid (fun w' => lat_any 0 wd k w' ⟨by omega, by omega, w0, by omega⟩ (by omega))
  have AW := hid awake_any
  have el : leftO 0 wd (qpsM k) = none := by
    unfold leftO
    rw [qpsM_len, Int.zero_add, hc]
    rw [if_pos (by omega)]
  have ea : aboveO 0 wd (qpsM k) = some (qpM j) := by
    have h := lookR_up (f := 0) (wd := wd) (ms := qpsM k) j (by rw [qpsM_len]; exact hj)
    unfold aboveO
    rw [h, qpsM_at (by omega)]
  have F1 := hid (fun rv vv bv w' => (show Calls Try.prog 22 #[mV (m0) rv vv bv, .bool false, .int .i64 0] w' fun e w'' => e = .returned (.bool true) ∧ Only [] w' w'' from finds_none m0 rv vv bv rfl w'))
  have F2 := hid (fun rv vv bv w' => (show Calls Try.prog 22 #[mV (qpM j) rv vv bv, .bool true, .int .i64 ((j : Int) + 1)] w' fun e w'' => e = .returned (.bool true) ∧ Only [] w' w'' from finds_some (qpM j) rv vv bv ((j : Int) + 1) rfl (by omega) w'))
  have HL := hid el
  have HA := hid ea
  have k0 : (0 : Int) ≤ (k : Int) := by omega
  have cb : (c : Int) ≤ 59 := by
    have := Int.emod_lt_of_pos (k : Int) (show 0 < wd by omega)
    rw [hc] at this
    omega
  have rb : (r : Int) ≤ 59 := by
    have := Int.ediv_le_self (b := wd) k0
    rw [hr] at this
    omega
  have HQ := hid (show IntKind.i64.wrap ((k : Int).tdiv wd) = (r : Int) ∧ (k : Int).tdiv wd = (r : Int) from ⟨by rw [Int.tdiv_eq_ediv_of_nonneg k0, hr]; exact IntWalk.i64_in _ (by omega), by rw [Int.tdiv_eq_ediv_of_nonneg k0, hr]⟩)
  have HM := hid (show IntKind.i64.wrap ((k : Int).tmod wd) = (c : Int) ∧ (k : Int).tmod wd = (c : Int) from ⟨by rw [Int.tmod_eq_emod_of_nonneg k0, hc]; exact IntWalk.i64_in _ (by omega), by rw [Int.tmod_eq_emod_of_nonneg k0, hc]⟩)
  obtain ⟨m1, hm1⟩ : ∃ m1 : Int, (r : Int) * wd = m1 := ⟨_, rfl⟩
  rw [hm1] at hkr
  have hm2 : ((r : Int) - 1) * wd = m1 - wd := by rw [Int.sub_mul, hm1, Int.one_mul]
  obtain ⟨m2, hq2⟩ : ∃ m2 : Int, m1 - wd = m2 := ⟨_, rfl⟩
  rw [hq2] at hm2
  have E1 := hid hm1
  have E2 := hid hkr
  have m10 : 0 ≤ m1 := by rw [← hm1]; exact Int.mul_nonneg (by omega) (by omega)
  have m11 : m1 ≤ 59 := by omega
  have c0 : (0 : Int) ≤ (c : Int) := by omega
  have r0 : (0 : Int) ≤ (r : Int) := by omega
  have E3 := hid hm2
  have m20 : 0 ≤ m2 := by rw [← hm2]; exact Int.mul_nonneg (by omega) (by omega)
  have m21 : m2 ≤ 59 := by omega
  have E4 := hid (show m2 + (c : Int) = (j : Int) by omega)
  clear hm2 hq2
  have dz : ¬ wd = 0 := by omega
  clear hr hc hkr el ea hm1 hj
  go_enter Try.func8, Try.ntmps8
  go_wp2_with fail
  refine (LA.out _).mono ?_
  rintro e w1 ⟨nb, F, rfl, hN, _, o1⟩
  have O1 := hid o1
  have LL := hid (fun w' (o : Only [] w1 w') => (left_any w' (hN.only0 o)).mono fun e w3 q => q.b (congrArg ansM HL.out) (congrArg Option.isSome HL.out))
  have LB := hid (fun w' (o : Only [] w1 w') => (above_any w' (hN.only0 o)).mono fun e w3 q => q.b (congrArg ansM HA.out) (congrArg Option.isSome HA.out))
  have LL := hid (show ∀ w', Only [] w1 w' → Calls Try.prog 19 #[.pointer (some ⟨nb, 0, none⟩)] w' (fun e w3 => FoundB w' w3 (m0) false e) from LL.out)
  have LB := hid (show ∀ w', Only [] w1 w' → Calls Try.prog 20 #[.pointer (some ⟨nb, 0, none⟩)] w' (fun e w3 => FoundB w' w3 (qpM j) true e) from LB.out)
  clear hN o1 LA
  go_wp2_with fail
  have hq := HQ.out
  have hm := HM.out
  go_quiet (fail)
  clear hq hm
  have O2 := hid (O1.out.drewN nq)
  have G1 := hid ((Only.refl [] w1).drewN nq)
  obtain ⟨wq, hwq⟩ : ∃ x, x = w1.drewN nq := ⟨_, rfl⟩
  rw [← hwq] at O2 G1 ⊢
  clear hwq
  go_wp2_with fail
  refine (LL.out wq G1.out).mono ?_
  rintro e v1 ⟨rv, vv, bv, rfl, ow⟩
  obtain ⟨a1, b1, c1, rfl, rfl, rfl⟩ := ow.at.sl
  have bz := blk_m0 v1
  have OV1 := hid ((O2.out).trans ow.only)
  have MV1 := hid ow.at
  have PV1 := hid ow.only
  obtain ⟨q1, hq⟩ : ∃ q, q = v1.heap.size := ⟨_, rfl⟩
  have one := hid (one_mC (m0) (rv := a1.sl) (vv := b1.sl) (bv := c1.sl) rfl rfl rfl)
  clear ow
  unfold mV
  go_upto_region 7 with (refine store_blk rfl 40 (.tmp 10) (.tmp 37) rfl v1.heap.size 0 _ _ (mC (m0) a1.sl b1.sl c1.sl) rfl rfl (info_mb' _ _ _ _) bz (by simp [mC]) one.out ?_; intro u1 hB2 hO2)
  rw [setsA_full (by simp [mC])] at hB2
  rw [← hq] at hB2 hO2 ⊢
  have W1 := hid (show Only [] v1 u1 from ((Only.refl [] v1).alloc _).trans2 hO2 (fun g hg => .inr (by simp at hg; omega)))
  have OA1 := hid (OV1.out.trans W1.out)
  have P1 := hid (PV1.out.trans W1.out)
  have B1 := hid (fun w' (o : Only [] u1 w') => (hB2.only o (by simp)).mb)
  have M1 := hid (fun w' (o : Only [] u1 w') => MV1.out.only0 (W1.out.trans o))
  clear hq hB2 hO2 bz one MV1
  go_wp2_with fail
  refine (LB.out u1 (G1.out.trans P1.out)).mono ?_
  rintro e v2 ⟨rv, vv, bv, rfl, ow⟩
  obtain ⟨a2, b2, c2, rfl, rfl, rfl⟩ := ow.at.sl
  have bz := blk_m0 v2
  have OV2 := hid ((OA1.out).trans ow.only)
  have MV2 := hid ow.at
  have PV2 := hid ow.only
  obtain ⟨q2, hq⟩ : ∃ q, q = v2.heap.size := ⟨_, rfl⟩
  have one := hid (one_mC (qpM j) (rv := a2.sl) (vv := b2.sl) (bv := c2.sl) rfl rfl rfl)
  clear ow
  unfold mV
  go_upto_region 8 with (refine store_blk rfl 40 (.tmp 12) (.tmp 42) rfl v2.heap.size 0 _ _ (mC (qpM j) a2.sl b2.sl c2.sl) rfl rfl (info_mb' _ _ _ _) bz (by simp [mC]) one.out ?_; intro u2 hB2 hO2)
  rw [setsA_full (by simp [mC])] at hB2
  rw [← hq] at hB2 hO2 ⊢
  have W2 := hid (show Only [] v2 u2 from ((Only.refl [] v2).alloc _).trans2 hO2 (fun g hg => .inr (by simp at hg; omega)))
  have OA2 := hid (OV2.out.trans W2.out)
  have P2 := hid (PV2.out.trans W2.out)
  have B2 := hid (fun w' (o : Only [] u2 w') => (hB2.only o (by simp)).mb)
  have M2 := hid (fun w' (o : Only [] u2 w') => MV2.out.only0 (W2.out.trans o))
  clear hq hB2 hO2 bz one MV2
  have e1 := E1.out
  have e2 := E2.out
  have e3 := E3.out
  have e4 := E4.out
  go_wp2_with (refine load_atA rfl 40 (.tmp 10) rfl ⟨q1, 0, none⟩ (mC (m0) a1.sl b1.sl c1.sl) rfl (B1.out _ P2.out) ?_; simp only [Act.put, List.setIfInBounds_toArray, List.set_cons_zero, List.set_cons_succ])
  refine (F1.out _ _ _ _).mono ?_
  rintro e w5 ⟨rfl, o5⟩
  have L5 := hid (B2.out _ o5)
  have O5 := hid (OA2.out.trans o5)
  clear o5
  go_wp2_with (refine load_atG (by kernel_rfl) 40 (.tmp 12) rfl ⟨q2, 0, none⟩ (mC (qpM j) a2.sl b2.sl c2.sl) rfl L5.out ?_; simp only [Act.put, List.setIfInBounds_toArray, List.set_cons_zero, List.set_cons_succ])
  refine (F2.out _ _ _ _).mono ?_
  rintro e w6 ⟨rfl, o6⟩
  have O6 := hid (O5.out.trans o6)
  clear o6
  go_wp2_with fail
  refine (AW.out _).mono ?_
  rintro e w7 ⟨rfl, o7⟩
  have O7 := hid (O6.out.trans o7)
  clear o7
  go_wp2_with fail
  go_ret
  exact ⟨rfl, O7.out⟩
set_option maxRecDepth 1000000 in
set_option maxHeartbeats 4000000 in
theorem nrows_nn (a b wd : Int) (k r c : Nat) (w : World) (a0 : 0 ≤ a) (a1 : a ≤ 255) (b0 : 0 ≤ b) (b1 : b ≤ 255) (hw : 1 + a % 9 = wd) (hk : b % 60 = (k : Int)) (hr : (k : Int) / wd = (r : Int)) (hc : (k : Int) % wd = (c : Int)) (hkr : (r : Int) * wd + c = k)
    (c1 : ¬ 0 < c) (r1 : ¬ 0 < r) (hj : (k : Int) < wd) :
    Calls Try.prog 8 #[.int .u8 a, .int .u8 b] w fun e w' => e = .returned (.bool true) ∧ Only [] w w' := by
  have w0 : 1 ≤ wd := by omega
  have w9 : wd ≤ 9 := by omega
  have k60 : (k : Int) ≤ 59 := by omega
  have LA := hid (fun w' => lat_any 0 wd k w' ⟨by omega, by omega, w0, by omega⟩ (by omega))
  have AW := hid awake_any
  have el : leftO 0 wd (qpsM k) = none := by
    unfold leftO
    rw [qpsM_len, Int.zero_add, hc]
    rw [if_pos (by omega)]
  have ea : aboveO 0 wd (qpsM k) = none := by
    exact lookR_none2 (by rw [qpsM_len]; exact hj)
  have F1 := hid (fun rv vv bv w' => (show Calls Try.prog 22 #[mV (m0) rv vv bv, .bool false, .int .i64 0] w' fun e w'' => e = .returned (.bool true) ∧ Only [] w' w'' from finds_none m0 rv vv bv rfl w'))
  have F2 := hid (fun rv vv bv w' => (show Calls Try.prog 22 #[mV (m0) rv vv bv, .bool false, .int .i64 0] w' fun e w'' => e = .returned (.bool true) ∧ Only [] w' w'' from finds_none m0 rv vv bv rfl w'))
  have HL := hid el
  have HA := hid ea
  have k0 : (0 : Int) ≤ (k : Int) := by omega
  have cb : (c : Int) ≤ 59 := by
    have := Int.emod_lt_of_pos (k : Int) (show 0 < wd by omega)
    rw [hc] at this
    omega
  have rb : (r : Int) ≤ 59 := by
    have := Int.ediv_le_self (b := wd) k0
    rw [hr] at this
    omega
  have HQ := hid (show IntKind.i64.wrap ((k : Int).tdiv wd) = (r : Int) ∧ (k : Int).tdiv wd = (r : Int) from ⟨by rw [Int.tdiv_eq_ediv_of_nonneg k0, hr]; exact IntWalk.i64_in _ (by omega), by rw [Int.tdiv_eq_ediv_of_nonneg k0, hr]⟩)
  have HM := hid (show IntKind.i64.wrap ((k : Int).tmod wd) = (c : Int) ∧ (k : Int).tmod wd = (c : Int) from ⟨by rw [Int.tmod_eq_emod_of_nonneg k0, hc]; exact IntWalk.i64_in _ (by omega), by rw [Int.tmod_eq_emod_of_nonneg k0, hc]⟩)
  obtain ⟨m1, hm1⟩ : ∃ m1 : Int, (r : Int) * wd = m1 := ⟨_, rfl⟩
  rw [hm1] at hkr
  have E1 := hid hm1
  have E2 := hid hkr
  have m10 : 0 ≤ m1 := by rw [← hm1]; exact Int.mul_nonneg (by omega) (by omega)
  have m11 : m1 ≤ 59 := by omega
  have c0 : (0 : Int) ≤ (c : Int) := by omega
  have r0 : (0 : Int) ≤ (r : Int) := by omega
  have dz : ¬ wd = 0 := by omega
  clear hr hc hkr el ea hm1 hj
  go_enter Try.func8, Try.ntmps8
  go_wp2_with fail
  refine (LA.out _).mono ?_
  rintro e w1 ⟨nb, F, rfl, hN, _, o1⟩
  have O1 := hid o1
  have LL := hid (fun w' (o : Only [] w1 w') => (left_any w' (hN.only0 o)).mono fun e w3 q => q.b (congrArg ansM HL.out) (congrArg Option.isSome HL.out))
  have LB := hid (fun w' (o : Only [] w1 w') => (above_any w' (hN.only0 o)).mono fun e w3 q => q.b (congrArg ansM HA.out) (congrArg Option.isSome HA.out))
  have LL := hid (show ∀ w', Only [] w1 w' → Calls Try.prog 19 #[.pointer (some ⟨nb, 0, none⟩)] w' (fun e w3 => FoundB w' w3 (m0) false e) from LL.out)
  have LB := hid (show ∀ w', Only [] w1 w' → Calls Try.prog 20 #[.pointer (some ⟨nb, 0, none⟩)] w' (fun e w3 => FoundB w' w3 (m0) false e) from LB.out)
  clear hN o1 LA
  go_wp2_with fail
  have hq := HQ.out
  have hm := HM.out
  go_quiet (fail)
  clear hq hm
  have O2 := hid (O1.out.drewN nq)
  have G1 := hid ((Only.refl [] w1).drewN nq)
  obtain ⟨wq, hwq⟩ : ∃ x, x = w1.drewN nq := ⟨_, rfl⟩
  rw [← hwq] at O2 G1 ⊢
  clear hwq
  go_wp2_with fail
  refine (LL.out wq G1.out).mono ?_
  rintro e v1 ⟨rv, vv, bv, rfl, ow⟩
  obtain ⟨a1, b1, c1, rfl, rfl, rfl⟩ := ow.at.sl
  have bz := blk_m0 v1
  have OV1 := hid ((O2.out).trans ow.only)
  have MV1 := hid ow.at
  have PV1 := hid ow.only
  obtain ⟨q1, hq⟩ : ∃ q, q = v1.heap.size := ⟨_, rfl⟩
  have one := hid (one_mC (m0) (rv := a1.sl) (vv := b1.sl) (bv := c1.sl) rfl rfl rfl)
  clear ow
  unfold mV
  go_upto_region 7 with (refine store_blk rfl 40 (.tmp 10) (.tmp 37) rfl v1.heap.size 0 _ _ (mC (m0) a1.sl b1.sl c1.sl) rfl rfl (info_mb' _ _ _ _) bz (by simp [mC]) one.out ?_; intro u1 hB2 hO2)
  rw [setsA_full (by simp [mC])] at hB2
  rw [← hq] at hB2 hO2 ⊢
  have W1 := hid (show Only [] v1 u1 from ((Only.refl [] v1).alloc _).trans2 hO2 (fun g hg => .inr (by simp at hg; omega)))
  have OA1 := hid (OV1.out.trans W1.out)
  have P1 := hid (PV1.out.trans W1.out)
  have B1 := hid (fun w' (o : Only [] u1 w') => (hB2.only o (by simp)).mb)
  have M1 := hid (fun w' (o : Only [] u1 w') => MV1.out.only0 (W1.out.trans o))
  clear hq hB2 hO2 bz one MV1
  go_wp2_with fail
  refine (LB.out u1 (G1.out.trans P1.out)).mono ?_
  rintro e v2 ⟨rv, vv, bv, rfl, ow⟩
  obtain ⟨a2, b2, c2, rfl, rfl, rfl⟩ := ow.at.sl
  have bz := blk_m0 v2
  have OV2 := hid ((OA1.out).trans ow.only)
  have MV2 := hid ow.at
  have PV2 := hid ow.only
  obtain ⟨q2, hq⟩ : ∃ q, q = v2.heap.size := ⟨_, rfl⟩
  have one := hid (one_mC (m0) (rv := a2.sl) (vv := b2.sl) (bv := c2.sl) rfl rfl rfl)
  clear ow
  unfold mV
  go_upto_region 8 with (refine store_blk rfl 40 (.tmp 12) (.tmp 42) rfl v2.heap.size 0 _ _ (mC (m0) a2.sl b2.sl c2.sl) rfl rfl (info_mb' _ _ _ _) bz (by simp [mC]) one.out ?_; intro u2 hB2 hO2)
  rw [setsA_full (by simp [mC])] at hB2
  rw [← hq] at hB2 hO2 ⊢
  have W2 := hid (show Only [] v2 u2 from ((Only.refl [] v2).alloc _).trans2 hO2 (fun g hg => .inr (by simp at hg; omega)))
  have OA2 := hid (OV2.out.trans W2.out)
  have P2 := hid (PV2.out.trans W2.out)
  have B2 := hid (fun w' (o : Only [] u2 w') => (hB2.only o (by simp)).mb)
  have M2 := hid (fun w' (o : Only [] u2 w') => MV2.out.only0 (W2.out.trans o))
  clear hq hB2 hO2 bz one MV2
  have e1 := E1.out
  have e2 := E2.out
  go_wp2_with (refine load_atA rfl 40 (.tmp 10) rfl ⟨q1, 0, none⟩ (mC (m0) a1.sl b1.sl c1.sl) rfl (B1.out _ P2.out) ?_; simp only [Act.put, List.setIfInBounds_toArray, List.set_cons_zero, List.set_cons_succ])
  refine (F1.out _ _ _ _).mono ?_
  rintro e w5 ⟨rfl, o5⟩
  have L5 := hid (B2.out _ o5)
  have O5 := hid (OA2.out.trans o5)
  clear o5
  go_wp2_with (refine load_atG (by kernel_rfl) 40 (.tmp 12) rfl ⟨q2, 0, none⟩ (mC (m0) a2.sl b2.sl c2.sl) rfl L5.out ?_; simp only [Act.put, List.setIfInBounds_toArray, List.set_cons_zero, List.set_cons_succ])
  refine (F2.out _ _ _ _).mono ?_
  rintro e w6 ⟨rfl, o6⟩
  have O6 := hid (O5.out.trans o6)
  clear o6
  go_wp2_with fail
  refine (AW.out _).mono ?_
  rintro e w7 ⟨rfl, o7⟩
  have O7 := hid (O6.out.trans o7)
  clear o7
  go_wp2_with fail
  go_ret
  exact ⟨rfl, O7.out⟩
theorem nrows_any (a b : Int) (w : World) (a0 : 0 ≤ a) (a1 : a ≤ 255) (b0 : 0 ≤ b) (b1 : b ≤ 255) :
    Calls Try.prog 8 #[.int .u8 a, .int .u8 b] w fun e w' => e = .returned (.bool true) ∧ Only [] w w' := by
  obtain ⟨wd, hw⟩ : ∃ wd, 1 + a % 9 = wd := ⟨_, rfl⟩
  have w1 : 1 ≤ wd := by omega
  obtain ⟨k, hk⟩ : ∃ k : Nat, b % 60 = (k : Int) := ⟨(b % 60).toNat, by omega⟩
  have k0 : (0 : Int) ≤ (k : Int) := by omega
  obtain ⟨r, hr⟩ : ∃ r : Nat, (k : Int) / wd = (r : Int) := ⟨((k : Int) / wd).toNat, by have := Int.ediv_nonneg k0 (show 0 ≤ wd by omega); omega⟩
  obtain ⟨c, hc⟩ : ∃ c : Nat, (k : Int) % wd = (c : Int) := ⟨((k : Int) % wd).toNat, by have := Int.emod_nonneg (k : Int) (show wd ≠ 0 by omega); omega⟩
  have hkr : (r : Int) * wd + c = k := by rw [← hr, ← hc]; exact Int.mul_comm wd _ ▸ Int.mul_ediv_add_emod (k : Int) wd
  have cw : (c : Int) < wd := by rw [← hc]; exact Int.emod_lt_of_pos _ (by omega)
  by_cases c1 : 0 < c
  · have k1 : 0 < k := by
      have : (0 : Int) ≤ (r : Int) * wd := Int.mul_nonneg (by omega) (by omega)
      omega
    obtain ⟨k', hk1⟩ : ∃ k', k = k' + 1 := ⟨k - 1, by omega⟩
    by_cases r1 : 0 < r
    · have hge : wd ≤ (r : Int) * wd := by
        have := Int.mul_le_mul_of_nonneg_right (show (1 : Int) ≤ (r : Int) by omega) (show 0 ≤ wd by omega)
        rwa [Int.one_mul] at this
      obtain ⟨j, hj⟩ : ∃ j : Nat, (k : Int) - wd = j := ⟨((k : Int) - wd).toNat, by omega⟩
      exact nrows_yy a b wd k r c k' j w a0 a1 b0 b1 hw hk hr hc hkr c1 hk1 r1 hj
    · obtain rfl : r = 0 := by omega
      exact nrows_yn a b wd k 0 c k' w a0 a1 b0 b1 hw hk hr hc hkr c1 hk1 r1 (by rw [show ((0 : Nat) : Int) = 0 from rfl, Int.zero_mul] at hkr; omega)
  · by_cases r1 : 0 < r
    · have hge : wd ≤ (r : Int) * wd := by
        have := Int.mul_le_mul_of_nonneg_right (show (1 : Int) ≤ (r : Int) by omega) (show 0 ≤ wd by omega)
        rwa [Int.one_mul] at this
      obtain ⟨j, hj⟩ : ∃ j : Nat, (k : Int) - wd = j := ⟨((k : Int) - wd).toNat, by omega⟩
      exact nrows_ny a b wd k r c j w a0 a1 b0 b1 hw hk hr hc hkr c1 r1 hj
    · obtain rfl : r = 0 := by omega
      exact nrows_nn a b wd k 0 c w a0 a1 b0 b1 hw hk hr hc hkr c1 r1 (by rw [show ((0 : Nat) : Int) = 0 from rfl, Int.zero_mul] at hkr; omega)
end Go.Proofs.Ytfmfknjjhemnoaa

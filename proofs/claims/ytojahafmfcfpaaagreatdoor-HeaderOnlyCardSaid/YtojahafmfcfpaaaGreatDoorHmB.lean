/- The laws' helpers: valid parameter sets out of any numbers. -/
import Derived.Test.YtojahafmfcfpaaaGreatDoorHmA
import Derived.Test.YtojahafmfcfpaaaGreatDoorMg19
import Derived.Test.YtojahafmfcfpaaaGreatDoorQheld
import Derived.StillTailTactics
namespace Go.Proofs.YtojahafmfcfpaaaGreatDoor
open Go.RowKit
set_option linter.unusedVariables false
set_option linter.unusedSimpArgs false

def nL (n : N8) : List Value := [.int .i64 n.a, .int .i64 n.b, .int .i64 n.c, .int .i64 n.d, .int .i64 n.e, .int .i64 n.f, .int .i64 n.g, .int .i64 n.h]
def nV (n : N8) : Value := .agg (nL n).toArray
theorem mod7_any (a m : Int) (h : 0 < m) (h2 : m ≤ 4611686018427387904) (w : World) : Calls Tryz.prog 124 #[.int .i64 a, .int .i64 m] w fun e w' => e = .returned (.int .i64 (a % m)) ∧ w' = w := by
  have b1 := Int.tmod_lt_of_pos a h
  have b2 := Int.lt_tmod_of_pos a h
  have e := emod_two a m h
  have e0 : (m == 0) = false := by rw [beq_eq_false_iff_ne]; omega
  have e1 : ¬ m = 0 := by omega
  have g1 : IntKind.i64.wrap (Int.tmod a m) = Int.tmod a m := IntWalk.i64_in _ ⟨by omega, by omega⟩
  have g2 : IntKind.i64.wrap (Int.tmod a m + m) = Int.tmod a m + m := IntWalk.i64_in _ ⟨by omega, by omega⟩
  have b3 := Int.emod_nonneg a e1
  have b4 := Int.emod_lt_of_pos a h
  have g3 : IntKind.i64.wrap (a % m) = a % m := IntWalk.i64_in _ ⟨by omega, by omega⟩
  obtain ⟨t, ht⟩ : ∃ t, t = Int.tmod a m := ⟨_, rfl⟩
  rw [← ht] at b1 b2 e g1 g2
  obtain ⟨r, hr⟩ : ∃ r, r = a % m := ⟨_, rfl⟩
  rw [← hr] at e g3 b3 b4 ⊢
  have g4 : a.tmod m = t := ht.symm
  clear ht hr b1 b2 b3 b4
  go_enter Tryz.func124, Tryz.ntmps124
  go_wp2_with fail
  go_ret
  exact ⟨rfl, rfl⟩
theorem mod6_any (a m : Int) (h : 0 < m) (h2 : m ≤ 4611686018427387904) (w : World) : Calls Tryz.prog 125 #[.int .i64 a, .int .i64 m] w fun e w' => e = .returned (.int .i64 (a % m)) ∧ w' = w := by
  have b1 := Int.tmod_lt_of_pos a h
  have b2 := Int.lt_tmod_of_pos a h
  have e := emod_two a m h
  have e0 : (m == 0) = false := by rw [beq_eq_false_iff_ne]; omega
  have e1 : ¬ m = 0 := by omega
  have g1 : IntKind.i64.wrap (Int.tmod a m) = Int.tmod a m := IntWalk.i64_in _ ⟨by omega, by omega⟩
  have g2 : IntKind.i64.wrap (Int.tmod a m + m) = Int.tmod a m + m := IntWalk.i64_in _ ⟨by omega, by omega⟩
  have b3 := Int.emod_nonneg a e1
  have b4 := Int.emod_lt_of_pos a h
  have g3 : IntKind.i64.wrap (a % m) = a % m := IntWalk.i64_in _ ⟨by omega, by omega⟩
  obtain ⟨t, ht⟩ : ∃ t, t = Int.tmod a m := ⟨_, rfl⟩
  rw [← ht] at b1 b2 e g1 g2
  obtain ⟨r, hr⟩ : ∃ r, r = a % m := ⟨_, rfl⟩
  rw [← hr] at e g3 b3 b4 ⊢
  have g4 : a.tmod m = t := ht.symm
  clear ht hr b1 b2 b3 b4
  go_enter Tryz.func125, Tryz.ntmps125
  go_wp2_with fail
  go_ret
  exact ⟨rfl, rfl⟩
set_option maxRecDepth 100000 in
set_option maxHeartbeats 4000000 in
theorem valid7_any (n : N8) (w : World) : Calls Tryz.prog 83 #[nV n] w fun e w' => e = .returned (pV (validP n)) ∧ Only [] w w' := by
  obtain ⟨W, hW⟩ : ∃ W, W = (w.alloc (.cells (nL n).toArray 75)).alloc (.cells (pL p0).toArray 27) := ⟨_, rfl⟩
  have oW : Only [] w W := hW ▸ (((Only.refl [] w).alloc _).alloc _)
  have bN : Blk W w.heap.size 75 (nL n).toArray := hW ▸ ((Blk.new w _ _).only ((Only.refl [] _).alloc _) (by simp))
  have bR : Blk W (w.heap.size + 1) 27 (pL p0).toArray := by
    have := Blk.new (w.alloc (.cells (nL n).toArray 75)) 27 (pL p0).toArray
    rw [World.size_alloc] at this
    exact hW ▸ this
  have OW := hid oW
  have BN := hid bN
  have BR := hid bR
  have SZ := hid (show w.heap.size ≤ w.heap.size + 1 from by omega)
  have R := hid (show validP n = ⟨n.a % 32, n.b % 32, bits .and .i64 n.h 1 == 1, 1 + n.c % 32, 1 + n.d % 32, n.e % 52 - 26, n.f % 52 - 26, n.g % 25 - 12, bits .and .i64 n.h 2 == 2, bits .and .i64 n.h 4 == 4⟩ from rfl)
  clear oW bN bR
  obtain ⟨a, b, c, d, e, f, g, h⟩ := n
  simp only [nV, nL, pL, p0] at hW ⊢
  obtain ⟨p, hp⟩ : ∃ p, p = w.heap.size := ⟨_, rfl⟩
  have PW := hid hp
  rw [← hp] at BN BR
  have n0 := BN.out.cell (i := 0) (v := .int .i64 a) rfl
  have n1 := BN.out.cell (i := 1) (v := .int .i64 b) rfl
  have n2 := BN.out.cell (i := 2) (v := .int .i64 c) rfl
  have n3 := BN.out.cell (i := 3) (v := .int .i64 d) rfl
  have n4 := BN.out.cell (i := 4) (v := .int .i64 e) rfl
  have n5 := BN.out.cell (i := 5) (v := .int .i64 f) rfl
  have n6 := BN.out.cell (i := 6) (v := .int .i64 g) rfl
  have n7 := BN.out.cell (i := 7) (v := .int .i64 h) rfl
  have m1 := Int.emod_nonneg c (show (32 : Int) ≠ 0 by omega)
  have m2 := Int.emod_lt_of_pos c (show (0 : Int) < 32 by omega)
  have m3 := Int.emod_nonneg d (show (32 : Int) ≠ 0 by omega)
  have m4 := Int.emod_lt_of_pos d (show (0 : Int) < 32 by omega)
  have m5 := Int.emod_nonneg e (show (52 : Int) ≠ 0 by omega)
  have m6 := Int.emod_lt_of_pos e (show (0 : Int) < 52 by omega)
  have m7 := Int.emod_nonneg f (show (52 : Int) ≠ 0 by omega)
  have m8 := Int.emod_lt_of_pos f (show (0 : Int) < 52 by omega)
  have m9 := Int.emod_nonneg g (show (25 : Int) ≠ 0 by omega)
  have m10 := Int.emod_lt_of_pos g (show (0 : Int) < 25 by omega)
  have w1 : IntKind.i64.wrap (1 + c % 32) = 1 + c % 32 := IntWalk.i64_in _ ⟨by omega, by omega⟩
  have w2 : IntKind.i64.wrap (1 + d % 32) = 1 + d % 32 := IntWalk.i64_in _ ⟨by omega, by omega⟩
  have w3 : IntKind.i64.wrap (e % 52 - 26) = e % 52 - 26 := IntWalk.i64_in _ ⟨by omega, by omega⟩
  have w4 : IntKind.i64.wrap (f % 52 - 26) = f % 52 - 26 := IntWalk.i64_in _ ⟨by omega, by omega⟩
  have w5 : IntKind.i64.wrap (g % 25 - 12) = g % 25 - 12 := IntWalk.i64_in _ ⟨by omega, by omega⟩
  go_enter Tryz.func83, Tryz.ntmps83
  go_upto_region 1 with (fail)
  rw [← hW, ← hp]
  clear hW hp
  refine wp_region_still_tail 39 (by kernel_rfl) (by kernel_rfl) ?_
  simp only [List.take_succ_cons, List.take_zero, List.drop_succ_cons, List.drop_zero]
  still_step
  still_step
  still_call (mod7_any a 32 (by omega) (by omega) _)
  still_step
  still_step
  still_call (mod7_any b 32 (by omega) (by omega) _)
  still_step
  still_step
  still_call (mod7_any c 32 (by omega) (by omega) _)
  still_step
  still_step
  still_step
  still_call (mod7_any d 32 (by omega) (by omega) _)
  still_step
  still_step
  still_step
  still_call (mod7_any e 52 (by omega) (by omega) _)
  still_step
  still_step
  still_step
  still_call (mod7_any f 52 (by omega) (by omega) _)
  still_step
  still_step
  still_step
  still_call (mod7_any g 25 (by omega) (by omega) _)
  iterate 14 still_step
  refine wpStill_nil ?_
  clear n0 n1 n2 n3 n4 n5 n6 n7
  have BR1 := hid (BR.out.only ((Only.refl [] W).drew) (by simp))
  go_wp2_with (refine store_blk rfl 27 _ _ rfl (p + 1) 0 _ _ (pL (validP ⟨a, b, c, d, e, f, g, h⟩)) rfl (by rw [R.out]; rfl) info_pps BR1.out (by simp [pL]) (one_pL _) ?_; intro w2 hB2 hO2; rw [setsA_full (by simp [pL])] at hB2)
  refine bodyPost_ret (v := pV (validP ⟨a, b, c, d, e, f, g, h⟩)) (res_c rfl rfl (lv_pps hB2)) rfl ⟨rfl, ?_⟩
  exact (OW.out.trans ((Only.refl [] W).drew)).trans2 hO2 (fun y hy => .inr (by have := PW.out; simp at hy; omega))
end Go.Proofs.YtojahafmfcfpaaaGreatDoor

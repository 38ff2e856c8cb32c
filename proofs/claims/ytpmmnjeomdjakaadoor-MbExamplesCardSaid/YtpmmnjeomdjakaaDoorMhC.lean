/- MbExamples. -/
import Derived.Test.YtpmmnjeomdjakaaDoorMhB
import Derived.Test.YtpmmnjeomdjakaaDoorMhD
import Derived.Test.YtpmmnjeomdjakaaDoorMgL
import Derived.Test.YtpmmnjeomdjakaaDoorQrg
import Derived.Test.YtpmmnjeomdjakaaDoorMmb22
import Derived.Test.YtpmmnjeomdjakaaDoorMmb17
import Derived.Test.YtpmmnjeomdjakaaDoorMmb19
import Derived.Test.YtpmmnjeomdjakaaDoorMmb21
namespace Go.Proofs.YtpmmnjeomdjakaaDoor
open Go.RowKit
set_option linter.unusedVariables false
set_option linter.unusedSimpArgs false

theorem u8_in (x : Int) (h : 0 ≤ x ∧ x ≤ 255) : IntKind.u8.wrap x = x := by
  unfold IntKind.wrap
  simp [IntKind.signed, IntKind.bits]
  omega
def endsL : List Int := [-9223372036854775808, -32769, -32768, -8193, -8192, -27, -26, -1, 0, 1, 25, 26, 31, 32, 8192, 8193, 32768, 32769, 9223372036854775807]
theorem ends_in {i : Nat} {z : Int} (h : endsL[i]? = some z) : -9223372036854775808 ≤ z ∧ z ≤ 9223372036854775807 := by
  have := List.mem_of_getElem? h
  simp only [endsL, List.mem_cons, List.not_mem_nil, or_false] at this
  omega
set_option maxRecDepth 1000000 in
set_option maxHeartbeats 8000000 in
theorem mbexamples_any (w0 : World) (hV : MbV w0) :
    Calls Tryd.prog 5 #[] w0 fun e w' => e = .returned (.bool true) ∧ Only [] w0 w' := by
  obtain ⟨be, hbe⟩ : ∃ q, q = w0.heap.size := ⟨_, rfl⟩
  obtain ⟨w, hw⟩ : ∃ W, W = w0.alloc (.cells (cellsG erC endsL).toArray 3) := ⟨_, rfl⟩
  have BE := hid (show Blk w be 3 (cellsG erC endsL).toArray from by rw [hw, hbe]; exact Blk.new w0 _ _)
  have r1 : (Instr.buildSlice 24 19 #[(0, .int .i64 (-9223372036854775808)), (1, .int .i64 (-32769)), (2, .int .i64 (-32768)), (3, .int .i64 (-8193)), (4, .int .i64 (-8192)), (5, .int .i64 (-27)), (6, .int .i64 (-26)), (7, .int .i64 (-1)), (8, .int .i64 (0)), (9, .int .i64 (1)), (10, .int .i64 (25)), (11, .int .i64 (26)), (12, .int .i64 (31)), (13, .int .i64 (32)), (14, .int .i64 (8192)), (15, .int .i64 (8193)), (16, .int .i64 (32768)), (17, .int .i64 (32769)), (18, .int .i64 (9223372036854775807))]).run Tryd.prog w0 = .ok (.slice (some ⟨w0.heap.size, 0, none⟩) 19 19) (w0.alloc (.cells (cellsG erC endsL).toArray 3)) := by kernel_rfl
  rw [← hw, ← hbe] at r1
  have R1 := hid r1
  have V := hid (fun w' (o : Only [] w w') => (hV.only0 (show Only [] w0 w from hw ▸ ((Only.refl [] w0).alloc _))).only0 o)
  have O0 := hid (show Only [] w0 w from hw ▸ ((Only.refl [] w0).alloc _))
  have PL := hid (fun (K : Nat) (hK : K < 10) (c : Int) (hc : 0 ≤ c ∧ c ≤ 255) w' (o : Only [] w w') => plain_any (K : Int) c w' (by omega) (by omega) hc.1 hc.2)
  clear r1 hw hbe hV
  go_enter Tryd.func5, Tryd.ntmps5
  go_upto_region 3 with (refine wp_buildSlice rfl 24 19 #[(0, .const (.int .i64 (-9223372036854775808))), (1, .const (.int .i64 (-32769))), (2, .const (.int .i64 (-32768))), (3, .const (.int .i64 (-8193))), (4, .const (.int .i64 (-8192))), (5, .const (.int .i64 (-27))), (6, .const (.int .i64 (-26))), (7, .const (.int .i64 (-1))), (8, .const (.int .i64 (0))), (9, .const (.int .i64 (1))), (10, .const (.int .i64 (25))), (11, .const (.int .i64 (26))), (12, .const (.int .i64 (31))), (13, .const (.int .i64 (32))), (14, .const (.int .i64 (8192))), (15, .const (.int .i64 (8193))), (16, .const (.int .i64 (32768))), (17, .const (.int .i64 (32769))), (18, .const (.int .i64 (9223372036854775807)))] rfl #[(0, .int .i64 (-9223372036854775808)), (1, .int .i64 (-32769)), (2, .int .i64 (-32768)), (3, .int .i64 (-8193)), (4, .int .i64 (-8192)), (5, .int .i64 (-27)), (6, .int .i64 (-26)), (7, .int .i64 (-1)), (8, .int .i64 (0)), (9, .int .i64 (1)), (10, .int .i64 (25)), (11, .int .i64 (26)), (12, .int .i64 (31)), (13, .int .i64 (32)), (14, .int .i64 (8192)), (15, .int .i64 (8193)), (16, .int .i64 (32768)), (17, .int .i64 (32769)), (18, .int .i64 (9223372036854775807))] (by kernel_rfl) _ R1.out ?_; simp only [Act.put, List.setIfInBounds_toArray, List.set_cons_zero, List.set_cons_succ])
  go_loopg [2] 10 (fun g t wr => ∃ K : Nat, K + g = 10 ∧ t = .int .u8 K ∧ Only [] w wr)
  case atStart => exact ⟨0, rfl, rfl, Only.refl _ _⟩
  case round =>
    obtain ⟨K, hK, rfl, hO⟩ := hrel
    have O := hid hO
    have i0 : (0 : Int) ≤ (K : Int) := by omega
    clear hO
    by_cases hg : gk = 0
    · have i1 : ¬ (K : Int) < 10 := by omega
      clear hK hg
      have MZ := hid (mbchecks_any awake13_any (smallM (255, 0, 0)) N0 N0 N0 0 wr (V.out _ O.out) (small_in 255 0 0 (by decide)) (small_at wr _) (fun l hl => by simp [smallM] at hl) (Nat.zero_le _))
      have AV := hid (fun w' (o : Only [] w w') => awake13_any w' (V.out w' o))
      unfold mV at MZ
      go_wp2_with fail
      refine MZ.out.mono ?_
      rintro e u1 ⟨rfl, o1⟩
      have U1 := hid (O.out.trans o1)
      clear o1
      go_wp2_with fail
      refine (AV.out _ U1.out).mono ?_
      rintro e u2 ⟨rfl, o2⟩
      have U2 := hid (O0.out.trans (U1.out.trans o2))
      clear o2
      go_wp2_with fail
      go_ret
      exact ⟨rfl, U2.out⟩
    · obtain ⟨gg, rfl⟩ : ∃ gg, gk = gg + 1 := ⟨gk - 1, by omega⟩
      have IN := hid (show K + 1 + gg = 10 by omega)
      have HK := hid (show K < 10 by omega)
      have i1 : (K : Int) < 10 := by omega
      have wK : IntKind.u8.wrap ((K : Int) + 1) = (K : Int) + 1 := u8_in _ (by omega)
      clear hK hg
      go_upto_region 6 with fail
      go_loopg [3] 256 (fun g t wz => ∃ j : Nat, j + g = 256 ∧ t = .int .i64 j ∧ Only [] w wz)
      case atStart => exact ⟨0, rfl, rfl, O.out⟩
      case round =>
        obtain ⟨j, hj, rfl, hO'⟩ := hrel
        have OO := hid hO'
        have j0 : (0 : Int) ≤ (j : Int) := by omega
        clear hO'
        by_cases hg : gk = 0
        · have j1 : ¬ (j : Int) < 256 := by omega
          clear hj hg
          go_upto_region 15 with fail
          go_loopg [5] 19 (fun g t wy => ∃ i : Nat, i + g = 19 ∧ t = .int .i64 i ∧ Only [] w wy)
          case atStart => exact ⟨0, rfl, rfl, OO.out⟩
          case round =>
            obtain ⟨i, hi, rfl, hO'⟩ := hrel
            have OO := hid hO'
            have k0 : (0 : Int) ≤ (i : Int) := by omega
            clear hO'
            by_cases hg : gk = 0
            · have k1 : ¬ (i : Int) < 19 := by omega
              clear hi hg
              go_wp2_with fail
              go_roundg gg
              case measure => omega
              case rel => exact ⟨K + 1, IN.out, by go_num, OO.out⟩
            · obtain ⟨g3, rfl⟩ : ∃ gg, gk = gg + 1 := ⟨gk - 1, by omega⟩
              have KN := hid (show i + 1 + g3 = 19 by omega)
              have k1 : (i : Int) < 19 := by omega
              clear hi hg
              go_wp2_with fail
              refine (PL.out K HK.out (47) (by omega) _ OO.out).mono ?_
              rintro e x1 ⟨rv, vv, bv, rfl, ho⟩
              have one1 := ho.m.at.one
              have HO := hid ho
              have X1 := hid (OO.out.trans ho.m.only)
              clear ho
              obtain ⟨Y, hY⟩ : ∃ Y, Y = plainM ((K : Int) % 8) (47) := ⟨_, rfl⟩
              rw [← hY] at HO ⊢
              have HY := hid hY
              clear hY
              unfold mV
              go_upto_region 18 with (refine store_blk rfl 28 (.tmp 6) (.tmp 52) rfl x1.heap.size 0 _ _ (mC Y rv vv bv) rfl rfl (info_mb' _ _ _ _) (Blk.new x1 _ _) (by simp [mC]) (one_mC Y one1.1 one1.2.1 one1.2.2) ?_; intro x2 hB2 hO2)
              rw [setsA_full (by simp [mC])] at hB2
              have o12 : Only [] x1 x2 := ((Only.refl [] x1).alloc _).trans2 hO2 (fun g hg => .inr (by simp at hg; omega))
              obtain ⟨q, hq⟩ : ∃ q, q = x1.heap.size := ⟨_, rfl⟩
              have QN := hid (show w.heap.size ≤ q from by rw [hq]; exact X1.out.size)
              rw [← hq] at hB2 ⊢
              have BQ := hid hB2
              have RA := hid (HO.out.m.rat.step o12)
              have X2 := hid (X1.out.trans o12)
              clear hB2 hO2 o12 hq one1 HO
              have FI := hid (show MIn Y ∧ MFew Y ∧ Y.pcm.size ≤ maxLen ∧ Y.blocks.length ≤ 27 ∧ (∀ l, l ∈ Y.blocks → 2 ≤ l.length) ∧ Y.refs.length = nRef ((K : Int) % 8) ∧ Y.mvds.length = nRef ((K : Int) % 8) from by
                rw [HY.out]
                have hl := pl_lens ((K : Int) % 8) 47
                have hz := zerosB_in (blocksL ((K : Int) % 8).toNat (cbpP ((K : Int) % 8) 47).toNat) (fun c hc => blocksL_cat _ _ c hc)
                refine ⟨pl_in _ _ (by omega) (by omega) (by omega) (by omega), pl_few _ _, by have := pl_pcmv ((K : Int) % 8) 47; split at this <;> (unfold maxLen; omega), hl.2.2.1, fun l hl => ?_, hl.1, hl.2.1⟩
                rw [pl_blocksv] at hl
                unfold zerosB at hl
                obtain ⟨c, hc, rfl⟩ := List.mem_map.1 hl
                have hc := blocksL_cat _ _ c hc
                obtain ⟨m, e, _, m4⟩ := size_cat c.1 hc.1 hc.2
                rw [List.length_replicate, e]
                show 2 ≤ (m : Int).toNat
                omega)
              obtain ⟨s1, s2, s3, rfl, rfl, rfl⟩ := RA.out.at.sl
              have CM := hid (fun w' (o : Only [] x2 w') => copy_el x2 Y s1 s2 s3 w' o.size (RA.out.step o).at FI.out.2.1 FI.out.2.2.2.1 FI.out.2.2.2.2.1)
              refine wp_region_heldH (fun w' => Only [] x2 w') 13 (by kernel_rfl) rfl (Only.refl [] x2).drew (fun hS => ?_)
              generalize x2.drew = wd at *
              refine wpAnyH_read 0 rfl (by kernel_rfl) (by kernel_rfl) (by kernel_rfl) (fun _ _ _ h => h) hS (yields_load 28 _ (by rfl) rfl ⟨q, 0, none⟩ (mC Y s1.sl s2.sl s3.sl) rfl (fun w' o => (BQ.out.only o (by simp)).mb)) ?_
              (try simp only [Act.put, List.setIfInBounds_toArray, List.set_cons_zero, List.set_cons_succ])
              refine wpAnyH_read 1 rfl (by kernel_rfl) (by kernel_rfl) (by kernel_rfl) (fun _ _ _ h => h) hS (yields_load 28 _ (by rfl) rfl ⟨q, 0, none⟩ (mC Y s1.sl s2.sl s3.sl) rfl (fun w' o => (BQ.out.only o (by simp)).mb)) ?_
              (try simp only [Act.put, List.setIfInBounds_toArray, List.set_cons_zero, List.set_cons_succ])
              refine wpAnyH_read 3 rfl (by kernel_rfl) (by kernel_rfl) (by kernel_rfl) (fun _ _ _ h => h) hS (yields_load 28 _ (by rfl) rfl ⟨q, 0, none⟩ (mC Y s1.sl s2.sl s3.sl) rfl (fun w' o => (BQ.out.only o (by simp)).mb)) ?_
              (try simp only [Act.put, List.setIfInBounds_toArray, List.set_cons_zero, List.set_cons_succ])
              refine wpAnyH_read 5 rfl (by kernel_rfl) (by kernel_rfl) (by kernel_rfl) (fun _ _ _ h => h) hS (yields_load 28 _ (by rfl) rfl ⟨q, 0, none⟩ (mC Y s1.sl s2.sl s3.sl) rfl (fun w' o => (BQ.out.only o (by simp)).mb)) ?_
              (try simp only [Act.put, List.setIfInBounds_toArray, List.set_cons_zero, List.set_cons_succ])
              refine wpAnyH_read 7 rfl (by kernel_rfl) (by kernel_rfl) (by kernel_rfl) (fun _ _ _ h => h) hS (yields_load 28 _ (by rfl) rfl ⟨q, 0, none⟩ (mC Y s1.sl s2.sl s3.sl) rfl (fun w' o => (BQ.out.only o (by simp)).mb)) ?_
              (try simp only [Act.put, List.setIfInBounds_toArray, List.set_cons_zero, List.set_cons_succ])
              refine wpAnyH_read 8 rfl (by kernel_rfl) (by kernel_rfl) (by kernel_rfl) (fun _ _ _ h => h) hS (yields_load 28 _ (by rfl) rfl ⟨q, 0, none⟩ (mC Y s1.sl s2.sl s3.sl) rfl (fun w' o => (BQ.out.only o (by simp)).mb)) ?_
              (try simp only [Act.put, List.setIfInBounds_toArray, List.set_cons_zero, List.set_cons_succ])
              refine wpAnyH_read 9 rfl (by kernel_rfl) (by kernel_rfl) (by kernel_rfl) (fun _ _ _ h => h) hS (yields_load 28 _ (by rfl) rfl ⟨q, 0, none⟩ (mC Y s1.sl s2.sl s3.sl) rfl (fun w' o => (BQ.out.only o (by simp)).mb)) ?_
              (try simp only [Act.put, List.setIfInBounds_toArray, List.set_cons_zero, List.set_cons_succ])
              refine wpAnyH_read 10 rfl (by kernel_rfl) (by kernel_rfl) (by kernel_rfl) (fun _ _ _ h => h) hS (yields_load 28 _ (by rfl) rfl ⟨q, 0, none⟩ (mC Y s1.sl s2.sl s3.sl) rfl (fun w' o => (BQ.out.only o (by simp)).mb)) ?_
              (try simp only [Act.put, List.setIfInBounds_toArray, List.set_cons_zero, List.set_cons_succ])
              refine wpAnyH_call 2 rfl (by kernel_rfl) (fun J hJ => ?_)
              rw [if_pos (by rfl)]
              go_simp
              refine (CM.out _ hS).mono ?_
              rintro e y1 ⟨a1, b1, c1, rfl, r1, p_⟩
              have t1 := hS.trans p_
              clear p_
              refine hJ.out _ _ t1 ?_
              clear hJ J
              (try simp only [Act.put, List.setIfInBounds_toArray, List.set_cons_zero, List.set_cons_succ])
              refine wpAnyH_call 4 rfl (by kernel_rfl) (fun J hJ => ?_)
              rw [if_pos (by rfl)]
              go_simp
              refine (CM.out _ t1).mono ?_
              rintro e y2 ⟨a2, b2, c2, rfl, r2, p_⟩
              have t2 := t1.trans p_
              have r1 := r1.step p_
              clear p_
              refine hJ.out _ _ t2 ?_
              clear hJ J
              (try simp only [Act.put, List.setIfInBounds_toArray, List.set_cons_zero, List.set_cons_succ])
              refine wpAnyH_call 6 rfl (by kernel_rfl) (fun J hJ => ?_)
              rw [if_pos (by rfl)]
              go_simp
              refine (CM.out _ t2).mono ?_
              rintro e y3 ⟨a3, b3, c3, rfl, r3, p_⟩
              have t3 := t2.trans p_
              have r1 := r1.step p_
              have r2 := r2.step p_
              clear p_
              refine hJ.out _ _ t3 ?_
              clear hJ J
              (try simp only [Act.put, List.setIfInBounds_toArray, List.set_cons_zero, List.set_cons_succ])
              refine wpAnyH_call 11 rfl (by kernel_rfl) (fun J hJ => ?_)
              rw [if_pos (by rfl)]
              refine rg_row 41 8 _ rfl #[(0, .agg (elC (Y, s1, s2, s3)).toArray), (1, .agg (elC (Y, a1, b1, c1)).toArray), (2, .agg (elC (Y, a2, b2, c2)).toArray), (3, .agg (elC (Y, a3, b3, c3)).toArray), (4, .agg (elC (Y, s1, s2, s3)).toArray), (5, .agg (elC (Y, s1, s2, s3)).toArray), (6, .agg (elC (Y, s1, s2, s3)).toArray), (7, .agg (elC (Y, s1, s2, s3)).toArray)] (by kernel_rfl) _ _ (run_mbs8 _ _ _ _ _ _ _ _ _) ?_
              refine hJ.out _ _ (t3.alloc _) ?_
              clear hJ J
              (try simp only [Act.put, List.setIfInBounds_toArray, List.set_cons_zero, List.set_cons_succ])
              refine wpAnyH_read 12 (v := ?va600) rfl (by kernel_rfl) (by kernel_rfl) (by kernel_rfl) (fun _ _ _ h => h) (t3.alloc _) (Or.inl ⟨by rfl, ?ya600⟩) ?ra600
              case ya600 =>
                intro w hSw
                go_simp
                (try with_reducible rfl)
              (try simp only [Act.put, List.setIfInBounds_toArray, List.set_cons_zero, List.set_cons_succ])
              refine wpAnyH_done (by kernel_rfl) ?_ _
              have S5 := hid (show Only [] x2 (y3.alloc (.cells (cellsG elC [(Y, s1, s2, s3), (Y, a1, b1, c1), (Y, a2, b2, c2), (Y, a3, b3, c3), (Y, s1, s2, s3), (Y, s1, s2, s3), (Y, s1, s2, s3), (Y, s1, s2, s3)]).toArray 28)) from t3.alloc _)
              have EX := hid (show ExR (y3.alloc (.cells (cellsG elC [(Y, s1, s2, s3), (Y, a1, b1, c1), (Y, a2, b2, c2), (Y, a3, b3, c3), (Y, s1, s2, s3), (Y, s1, s2, s3), (Y, s1, s2, s3), (Y, s1, s2, s3)]).toArray 28)) y3.heap.size [(Y, s1, s2, s3), (Y, a1, b1, c1), (Y, a2, b2, c2), (Y, a3, b3, c3), (Y, s1, s2, s3), (Y, s1, s2, s3), (Y, s1, s2, s3), (Y, s1, s2, s3)] from ⟨Blk.new y3 _ _, rfl⟩)
              have o35 : Only [] y3 (y3.alloc (.cells (cellsG elC [(Y, s1, s2, s3), (Y, a1, b1, c1), (Y, a2, b2, c2), (Y, a3, b3, c3), (Y, s1, s2, s3), (Y, s1, s2, s3), (Y, s1, s2, s3), (Y, s1, s2, s3)]).toArray 28)) := (Only.refl _ _).alloc _
              have R0 := hid ((RA.out.step t3).step o35)
              have R1 := hid r1
              have R2 := hid r2
              have R3 := hid r3
              have Y35 := hid o35
              obtain ⟨qb, hqb⟩ : ∃ p, p = y3.heap.size := ⟨_, rfl⟩
              have HQB := hid hqb
              rw [← hqb] at EX ⊢
              have QB := hid (show w.heap.size ≤ qb ∧ be < qb from ⟨by rw [hqb]; exact Nat.le_trans X2.out.size t3.size, by
                rw [hqb]
                exact Nat.lt_of_lt_of_le BE.out.lt (Nat.le_trans X2.out.size t3.size)⟩)
              have QQ := hid (show q < qb from by rw [hqb]; exact Nat.lt_of_lt_of_le BQ.out.lt t3.size)
              generalize y3.alloc _ = w5 at *
              obtain ⟨ev, hev⟩ : ∃ z, endsL[i]? = some z := ⟨_, List.getElem?_eq_getElem (by show i < 19; omega)⟩
              have BEC := hid ((BE.out.only (X2.out.trans S5.out) (by simp)).cell (i := i) (v := .int .i64 ev) (by
                have := cellsG_at erC_ok endsL i ev hev 0 (.int .i64 ev) rfl
                simpa using this))
              have NEB := hid (show be ≠ qb by have := QB.out.2; omega)
              have EVB := hid (ends_in hev)
              obtain ⟨a, ha⟩ : ∃ a, a = i % 16 := ⟨_, rfl⟩
              obtain ⟨d, hd⟩ : ∃ d, d = i % 4 := ⟨_, rfl⟩
              have t16 : Int.tmod (i : Int) 16 = (a : Int) := by rw [ha]; exact tmod_nat i 16
              have t4 : Int.tmod (i : Int) 4 = (d : Int) := by rw [hd]; exact tmod_nat i 4
              have a0 : (0 : Int) ≤ (a : Int) := by omega
              have a1' : (a : Int) < 16 := by omega
              have d0 : (0 : Int) ≤ (d : Int) := by omega
              have d1' : (d : Int) < 4 := by omega
              have wa : IntKind.i64.wrap (a : Int) = (a : Int) := IntWalk.i64_in _ (by omega)
              have wd' : IntKind.i64.wrap (d : Int) = (d : Int) := IntWalk.i64_in _ (by omega)
              have wi : IntKind.u8.wrap (i : Int) = (i : Int) := u8_in _ (by omega)
              clear t1 t2 t3 r1 r2 r3 o35 hqb hev ha hd CM
              go_upto_region 19 with fail
              refine wp_region_tail (fun w' => Only [qb] w5 w') 37 38 (by kernel_rfl) rfl ((Only.refl _ _).drew) (fun hS => ?_)
              have HD6 := hid (show Only [] w5 w5.drew from (Only.refl _ _).drew)
              generalize w5.drew = w6 at *
              refine wpAnyT_take 0 (v := ?vb0) rfl (by kernel_rfl) (fun _ _ _ h => h) (Or.inl ⟨by rfl, ?yb0⟩) hS ?rb0
              case yb0 =>
                intro w hSw
                have p0 := hSw.cell BEC.out (by simp; exact NEB.out)
                go_simp
                (try with_reducible rfl)
              (try simp only [Act.put, List.setIfInBounds_toArray, List.set_cons_zero, List.set_cons_succ])
              refine wpAnyT_take 1 (v := ?vb1) rfl (by kernel_rfl) (fun _ _ _ h => h) (Or.inl ⟨by rfl, ?yb1⟩) hS ?rb1
              case yb1 =>
                intro w hSw
                have p0 := hSw.cell BEC.out (by simp; exact NEB.out)
                go_simp
                (try with_reducible rfl)
              (try simp only [Act.put, List.setIfInBounds_toArray, List.set_cons_zero, List.set_cons_succ])
              refine wpAnyT_take 2 (v := ?vb2) rfl (by kernel_rfl) (fun _ _ _ h => h) (Or.inl ⟨by rfl, ?yb2⟩) hS ?rb2
              case yb2 =>
                intro w hSw
                have p0 := hSw.cell BEC.out (by simp; exact NEB.out)
                go_simp
                (try with_reducible rfl)
              (try simp only [Act.put, List.setIfInBounds_toArray, List.set_cons_zero, List.set_cons_succ])
              refine wpAnyT_take 3 (v := ?vb3) rfl (by kernel_rfl) (fun _ _ _ h => h) (Or.inl ⟨by rfl, ?yb3⟩) hS ?rb3
              case yb3 =>
                intro w hSw
                have p0 := hSw.cell BEC.out (by simp; exact NEB.out)
                go_simp
                (try with_reducible rfl)
              (try simp only [Act.put, List.setIfInBounds_toArray, List.set_cons_zero, List.set_cons_succ])
              refine wpAnyT_take 4 (v := ?vb4) rfl (by kernel_rfl) (fun _ _ _ h => h) (Or.inl ⟨by rfl, ?yb4⟩) hS ?rb4
              case yb4 =>
                intro w hSw
                have p0 := hSw.cell BEC.out (by simp; exact NEB.out)
                go_simp
                (try with_reducible rfl)
              (try simp only [Act.put, List.setIfInBounds_toArray, List.set_cons_zero, List.set_cons_succ])
              refine wpAnyT_take 5 (v := ?vb5) rfl (by kernel_rfl) (fun _ _ _ h => h) (Or.inl ⟨by rfl, ?yb5⟩) hS ?rb5
              case yb5 =>
                intro w hSw
                have p0 := hSw.cell BEC.out (by simp; exact NEB.out)
                go_simp
                (try with_reducible rfl)
              (try simp only [Act.put, List.setIfInBounds_toArray, List.set_cons_zero, List.set_cons_succ])
              refine wpAnyT_take 6 (v := ?vb6) rfl (by kernel_rfl) (fun _ _ _ h => h) (Or.inl ⟨by rfl, ?yb6⟩) hS ?rb6
              case yb6 =>
                intro w hSw
                have p0 := hSw.cell BEC.out (by simp; exact NEB.out)
                go_simp
                (try with_reducible rfl)
              (try simp only [Act.put, List.setIfInBounds_toArray, List.set_cons_zero, List.set_cons_succ])
              refine wpAnyT_take 7 (v := ?vb7) rfl (by kernel_rfl) (fun _ _ _ h => h) (Or.inl ⟨by rfl, ?yb7⟩) hS ?rb7
              case yb7 =>
                intro w hSw
                have p0 := hSw.cell BEC.out (by simp; exact NEB.out)
                go_simp
                (try with_reducible rfl)
              (try simp only [Act.put, List.setIfInBounds_toArray, List.set_cons_zero, List.set_cons_succ])
              refine wpAnyT_take 8 (v := ?vb8) rfl (by kernel_rfl) (fun _ _ _ h => h) (Or.inl ⟨by rfl, ?yb8⟩) hS ?rb8
              case yb8 =>
                intro w hSw
                have p0 := hSw.cell BEC.out (by simp; exact NEB.out)
                go_simp
                (try with_reducible rfl)
              (try simp only [Act.put, List.setIfInBounds_toArray, List.set_cons_zero, List.set_cons_succ])
              refine wpAnyT_take 9 (v := ?vb9) rfl (by kernel_rfl) (fun _ _ _ h => h) (Or.inl ⟨by rfl, ?yb9⟩) hS ?rb9
              case yb9 =>
                intro w hSw
                have p0 := hSw.cell BEC.out (by simp; exact NEB.out)
                go_simp
                (try with_reducible rfl)
              (try simp only [Act.put, List.setIfInBounds_toArray, List.set_cons_zero, List.set_cons_succ])
              refine wpAnyT_take 10 (v := ?vb10) rfl (by kernel_rfl) (fun _ _ _ h => h) (Or.inl ⟨by rfl, ?yb10⟩) hS ?rb10
              case yb10 =>
                intro w hSw
                have p0 := hSw.cell BEC.out (by simp; exact NEB.out)
                go_simp
                (try with_reducible rfl)
              (try simp only [Act.put, List.setIfInBounds_toArray, List.set_cons_zero, List.set_cons_succ])
              refine wpAnyT_take 11 (v := ?vb11) rfl (by kernel_rfl) (fun _ _ _ h => h) (Or.inl ⟨by rfl, ?yb11⟩) hS ?rb11
              case yb11 =>
                intro w hSw
                have p0 := hSw.cell BEC.out (by simp; exact NEB.out)
                go_simp
                (try with_reducible rfl)
              (try simp only [Act.put, List.setIfInBounds_toArray, List.set_cons_zero, List.set_cons_succ])
              refine wpAnyT_take 12 (v := ?vb12) rfl (by kernel_rfl) (fun _ _ _ h => h) (Or.inl ⟨by rfl, ?yb12⟩) hS ?rb12
              case yb12 =>
                intro w hSw
                have p0 := hSw.cell BEC.out (by simp; exact NEB.out)
                go_simp
                (try with_reducible rfl)
              (try simp only [Act.put, List.setIfInBounds_toArray, List.set_cons_zero, List.set_cons_succ])
              refine wpAnyT_take 13 (v := ?vb13) rfl (by kernel_rfl) (fun _ _ _ h => h) (Or.inl ⟨by rfl, ?yb13⟩) hS ?rb13
              case yb13 =>
                intro w hSw
                have p0 := hSw.cell BEC.out (by simp; exact NEB.out)
                go_simp
                (try with_reducible rfl)
              (try simp only [Act.put, List.setIfInBounds_toArray, List.set_cons_zero, List.set_cons_succ])
              refine wpAnyT_take 14 (v := ?vb14) rfl (by kernel_rfl) (fun _ _ _ h => h) (Or.inl ⟨by rfl, ?yb14⟩) hS ?rb14
              case yb14 =>
                intro w hSw
                have p0 := hSw.cell BEC.out (by simp; exact NEB.out)
                go_simp
                (try with_reducible rfl)
              (try simp only [Act.put, List.setIfInBounds_toArray, List.set_cons_zero, List.set_cons_succ])
              refine wpAnyT_take 15 (v := ?vb15) rfl (by kernel_rfl) (fun _ _ _ h => h) (Or.inl ⟨by rfl, ?yb15⟩) hS ?rb15
              case yb15 =>
                intro w hSw
                have p0 := hSw.cell BEC.out (by simp; exact NEB.out)
                go_simp
                (try with_reducible rfl)
              (try simp only [Act.put, List.setIfInBounds_toArray, List.set_cons_zero, List.set_cons_succ])
              refine wpAnyT_take 16 (v := ?vb16) rfl (by kernel_rfl) (fun _ _ _ h => h) (Or.inl ⟨by rfl, ?yb16⟩) hS ?rb16
              case yb16 =>
                intro w hSw
                have p0 := hSw.cell BEC.out (by simp; exact NEB.out)
                go_simp
                (try with_reducible rfl)
              (try simp only [Act.put, List.setIfInBounds_toArray, List.set_cons_zero, List.set_cons_succ])
              refine wpAnyT_take 17 (v := ?vb17) rfl (by kernel_rfl) (fun _ _ _ h => h) (Or.inl ⟨by rfl, ?yb17⟩) hS ?rb17
              case yb17 =>
                intro w hSw
                have p0 := hSw.cell BEC.out (by simp; exact NEB.out)
                go_simp
                (try with_reducible rfl)
              (try simp only [Act.put, List.setIfInBounds_toArray, List.set_cons_zero, List.set_cons_succ])
              refine wpAnyT_take 18 (v := ?vb18) rfl (by kernel_rfl) (fun _ _ _ h => h) (Or.inl ⟨by rfl, ?yb18⟩) hS ?rb18
              case yb18 =>
                intro w hSw
                have p0 := hSw.cell BEC.out (by simp; exact NEB.out)
                go_simp
                (try with_reducible rfl)
              (try simp only [Act.put, List.setIfInBounds_toArray, List.set_cons_zero, List.set_cons_succ])
              refine wpAnyT_take 19 (v := ?vb19) rfl (by kernel_rfl) (fun _ _ _ h => h) (Or.inl ⟨by rfl, ?yb19⟩) hS ?rb19
              case yb19 =>
                intro w hSw
                have p0 := hSw.cell BEC.out (by simp; exact NEB.out)
                go_simp
                (try with_reducible rfl)
              (try simp only [Act.put, List.setIfInBounds_toArray, List.set_cons_zero, List.set_cons_succ])
              refine wpAnyT_take 20 (v := ?vb20) rfl (by kernel_rfl) (fun _ _ _ h => h) (Or.inl ⟨by rfl, ?yb20⟩) hS ?rb20
              case yb20 =>
                intro w hSw
                have p0 := hSw.cell BEC.out (by simp; exact NEB.out)
                go_simp
                (try with_reducible rfl)
              (try simp only [Act.put, List.setIfInBounds_toArray, List.set_cons_zero, List.set_cons_succ])
              refine wpAnyT_take 30 (v := ?vb30) rfl (by kernel_rfl) (fun _ _ _ h => h) (Or.inl ⟨by rfl, ?yb30⟩) hS ?rb30
              case yb30 =>
                intro w hSw
                have p0 := hSw.cell BEC.out (by simp; exact NEB.out)
                go_simp
                (try with_reducible rfl)
              (try simp only [Act.put, List.setIfInBounds_toArray, List.set_cons_zero, List.set_cons_succ])
              refine wpAnyT_take 31 (v := ?vb31) rfl (by kernel_rfl) (fun _ _ _ h => h) (Or.inl ⟨by rfl, ?yb31⟩) hS ?rb31
              case yb31 =>
                intro w hSw
                have p0 := hSw.cell BEC.out (by simp; exact NEB.out)
                go_simp
                (try with_reducible rfl)
              (try simp only [Act.put, List.setIfInBounds_toArray, List.set_cons_zero, List.set_cons_succ])
              refine wpAnyT_take 34 (v := ?vb34) rfl (by kernel_rfl) (fun _ _ _ h => h) (Or.inl ⟨by rfl, ?yb34⟩) hS ?rb34
              case yb34 =>
                intro w hSw
                have p0 := hSw.cell BEC.out (by simp; exact NEB.out)
                go_simp
                (try with_reducible rfl)
              (try simp only [Act.put, List.setIfInBounds_toArray, List.set_cons_zero, List.set_cons_succ])
              refine wpAnyT_take 35 (v := ?vb35) rfl (by kernel_rfl) (fun _ _ _ h => h) (Or.inl ⟨by rfl, ?yb35⟩) hS ?rb35
              case yb35 =>
                intro w hSw
                have p0 := hSw.cell BEC.out (by simp; exact NEB.out)
                go_simp
                (try with_reducible rfl)
              (try simp only [Act.put, List.setIfInBounds_toArray, List.set_cons_zero, List.set_cons_succ])
              have EX0 := hid (EX.out.step HD6.out (by simp))
              refine wpAnyT_call 21 rfl (by kernel_rfl) (fun J hJ => ?_)
              go_simp
              refine hJ.out _ _ (hS) ?_
              clear hJ J
              (try simp only [Act.put, List.setIfInBounds_toArray, List.set_cons_zero, List.set_cons_succ])
              refine wpAnyT_call 22 rfl (by kernel_rfl) (fun J hJ => ?_)
              go_simp
              refine hJ.out _ _ (hS) ?_
              clear hJ J
              (try simp only [Act.put, List.setIfInBounds_toArray, List.set_cons_zero, List.set_cons_succ])
              refine wpAnyT_call 23 rfl (by kernel_rfl) (fun J hJ => ?_)
              have c0 := EX0.out.cell (k := 0) (off := 26) (v := .int .i64 Y.qp) rfl rfl
              have f0 := (EX0.out).k.frozen 26
              go_simp
              refine hJ.out _ _ ((hS).setCell (.inl (by simp)) _) ?_
              clear hJ J c0 f0
              (try simp only [Act.put, List.setIfInBounds_toArray, List.set_cons_zero, List.set_cons_succ])
              obtain ⟨v1, hv⟩ : ∃ W, W = w6.setCell ⟨qb, 26, none⟩ (.int .i64 ev) := ⟨_, rfl⟩
              have EX1 := hid (show ExR v1 qb [({ Y with qp := ev }, s1, s2, s3), (Y, a1, b1, c1), (Y, a2, b2, c2), (Y, a3, b3, c3), (Y, s1, s2, s3), (Y, s1, s2, s3), (Y, s1, s2, s3), (Y, s1, s2, s3)] from hv ▸ EX0.out.set (k := 0) (off := 26) rfl (el_qp _ _ _ _ ev) (by omega))
              have S1 : Only [qb] w5 v1 := hv ▸ (hS).setCell (.inl (by simp)) _
              rw [← hv]
              clear hv
              refine wpAnyT_call 24 rfl (by kernel_rfl) (fun J hJ => ?_)
              go_simp
              refine hJ.out _ _ (S1) ?_
              clear hJ J
              (try simp only [Act.put, List.setIfInBounds_toArray, List.set_cons_zero, List.set_cons_succ])
              refine wpAnyT_call 25 rfl (by kernel_rfl) (fun J hJ => ?_)
              go_simp
              refine hJ.out _ _ (S1) ?_
              clear hJ J
              (try simp only [Act.put, List.setIfInBounds_toArray, List.set_cons_zero, List.set_cons_succ])
              refine wpAnyT_call 26 rfl (by kernel_rfl) (fun J hJ => ?_)
              have c0 := EX1.out.cell (k := 4) (off := 1) (v := .int .u8 Y.mode) rfl rfl
              have f0 := (EX1.out).k.frozen 117
              go_simp
              refine hJ.out _ _ ((S1).setCell (.inl (by simp)) _) ?_
              clear hJ J c0 f0
              (try simp only [Act.put, List.setIfInBounds_toArray, List.set_cons_zero, List.set_cons_succ])
              obtain ⟨v2, hv⟩ : ∃ W, W = v1.setCell ⟨qb, 117, none⟩ (.int .u8 (i : Int)) := ⟨_, rfl⟩
              have EX2 := hid (show ExR v2 qb [({ Y with qp := ev }, s1, s2, s3), (Y, a1, b1, c1), (Y, a2, b2, c2), (Y, a3, b3, c3), ({ Y with mode := (i : Int) }, s1, s2, s3), (Y, s1, s2, s3), (Y, s1, s2, s3), (Y, s1, s2, s3)] from hv ▸ EX1.out.set (k := 4) (off := 1) rfl (el_mode _ _ _ _ (i : Int)) (by omega))
              have S2 : Only [qb] w5 v2 := hv ▸ (S1).setCell (.inl (by simp)) _
              rw [← hv]
              clear hv
              refine wpAnyT_call 27 rfl (by kernel_rfl) (fun J hJ => ?_)
              go_simp
              refine hJ.out _ _ (S2) ?_
              clear hJ J
              (try simp only [Act.put, List.setIfInBounds_toArray, List.set_cons_zero, List.set_cons_succ])
              refine wpAnyT_call 28 rfl (by kernel_rfl) (fun J hJ => ?_)
              go_simp
              refine hJ.out _ _ (S2) ?_
              clear hJ J
              (try simp only [Act.put, List.setIfInBounds_toArray, List.set_cons_zero, List.set_cons_succ])
              refine wpAnyT_call 29 rfl (by kernel_rfl) (fun J hJ => ?_)
              have c0 := EX2.out.cell (k := 5) (off := 2) (v := .int .u8 Y.chroma) rfl rfl
              have f0 := (EX2.out).k.frozen 147
              go_simp
              refine hJ.out _ _ ((S2).setCell (.inl (by simp)) _) ?_
              clear hJ J c0 f0
              (try simp only [Act.put, List.setIfInBounds_toArray, List.set_cons_zero, List.set_cons_succ])
              obtain ⟨v3, hv⟩ : ∃ W, W = v2.setCell ⟨qb, 147, none⟩ (.int .u8 (i : Int)) := ⟨_, rfl⟩
              have EX3 := hid (show ExR v3 qb [({ Y with qp := ev }, s1, s2, s3), (Y, a1, b1, c1), (Y, a2, b2, c2), (Y, a3, b3, c3), ({ Y with mode := (i : Int) }, s1, s2, s3), ({ Y with chroma := (i : Int) }, s1, s2, s3), (Y, s1, s2, s3), (Y, s1, s2, s3)] from hv ▸ EX2.out.set (k := 5) (off := 2) rfl (el_chroma _ _ _ _ (i : Int)) (by omega))
              have S3 : Only [qb] w5 v3 := hv ▸ (S2).setCell (.inl (by simp)) _
              rw [← hv]
              clear hv
              obtain ⟨pq, hpq, hpi⟩ := el_pr Y s1 s2 s3 (i : Int) a (by omega)
              obtain ⟨sq, hsq, hsi⟩ := el_sb Y s1 s2 s3 (i : Int) d (by omega)
              obtain ⟨op, hop⟩ : ∃ v, (elC (Y, s1, s2, s3))[3 + a]? = some v := ⟨_, List.getElem?_eq_getElem (by rw [elC_ok.len]; omega)⟩
              obtain ⟨os, hos⟩ : ∃ v, (elC (Y, s1, s2, s3))[19 + d]? = some v := ⟨_, List.getElem?_eq_getElem (by rw [elC_ok.len]; omega)⟩
              refine wpAnyT_call 32 rfl (by kernel_rfl) (fun J hJ => ?_)
              go_simp
              refine hJ.out _ _ (S3) ?_
              clear hJ J
              (try simp only [Act.put, List.setIfInBounds_toArray, List.set_cons_zero, List.set_cons_succ])
              refine wpAnyT_call 33 rfl (by kernel_rfl) (fun J hJ => ?_)
              have c0 := (show v3.cell? ⟨qb, 177 + a, none⟩ = some op from by have := EX3.out.cell (k := 6) (off := 3 + a) (v := op) rfl hop; rwa [show 6 * 29 + (3 + a) = 177 + a by omega] at this)
              have f0 := (EX3.out).k.frozen (177 + a)
              go_simp
              refine hJ.out _ _ ((S3).setCell (.inl (by simp)) _) ?_
              clear hJ J c0 f0
              (try simp only [Act.put, List.setIfInBounds_toArray, List.set_cons_zero, List.set_cons_succ])
              obtain ⟨v4, hv⟩ : ∃ W, W = v3.setCell ⟨qb, 177 + a, none⟩ (.int .u8 (i : Int)) := ⟨_, rfl⟩
              have EX4 := hid (show ExR v4 qb [({ Y with qp := ev }, s1, s2, s3), (Y, a1, b1, c1), (Y, a2, b2, c2), (Y, a3, b3, c3), ({ Y with mode := (i : Int) }, s1, s2, s3), ({ Y with chroma := (i : Int) }, s1, s2, s3), ({ Y with pr := pq }, s1, s2, s3), (Y, s1, s2, s3)] from by
                have := EX3.out.set (k := 6) (off := 3 + a) rfl hpq (by omega)
                rw [show 6 * 29 + (3 + a) = 177 + a by omega, ← hv] at this
                exact this)
              have S4 : Only [qb] w5 v4 := hv ▸ S3.setCell (.inl (by simp)) _
              rw [← hv]
              clear hv hpq hop
              refine wpAnyT_call 36 rfl (by kernel_rfl) (fun J hJ => ?_)
              go_simp
              refine hJ.out _ _ (S4) ?_
              clear hJ J
              (try simp only [Act.put, List.setIfInBounds_toArray, List.set_cons_zero, List.set_cons_succ])
              have c0 : v4.cell? ⟨qb, 222 + d, none⟩ = some os := by have := EX4.out.cell (k := 7) (off := 19 + d) (v := os) rfl hos; rwa [show 7 * 29 + (19 + d) = 222 + d by omega] at this
              have f0 := EX4.out.k.frozen (222 + d)
              refine wpAnyT_tail _ rfl (by kernel_rfl) ?_
              simp only [List.drop_succ_cons, List.drop_zero]
              go_upto_region 20 with fail
              obtain ⟨v5, hv⟩ : ∃ W, W = v4.setCell ⟨qb, 222 + d, none⟩ (.int .u8 (i : Int)) := ⟨_, rfl⟩
              have EX5 := hid (show ExR v5 qb [({ Y with qp := ev }, s1, s2, s3), (Y, a1, b1, c1), (Y, a2, b2, c2), (Y, a3, b3, c3), ({ Y with mode := (i : Int) }, s1, s2, s3), ({ Y with chroma := (i : Int) }, s1, s2, s3), ({ Y with pr := pq }, s1, s2, s3), ({ Y with sb := sq }, s1, s2, s3)] from by
                have := EX4.out.set (k := 7) (off := 19 + d) rfl hsq (by omega)
                rw [show 7 * 29 + (19 + d) = 222 + d by omega, ← hv] at this
                exact this)
              have S5' : Only [qb] w5 v5 := hv ▸ S4.setCell (.inl (by simp)) _
              rw [← hv]
              clear hv hsq hos c0 f0 S1 S2 S3 S4 hS
              have K35 : Only [qb] y3 v5 := (Y35.out.mono (fun _ _ h => by cases h)).trans S5'
              have HQ' : ∀ g, g ∈ [qb] → y3.heap.size ≤ g := fun g hg => by simp at hg; have := HQB.out; omega
              have T1 := R1.out.old K35 HQ'
              have T2 := R2.out.old K35 HQ'
              have T3 := R3.out.old K35 HQ'
              have M0 := (R0.out.turn EX.out.k S5').at
              have M1 := T1.r.at
              have M2 := T2.r.at
              have M3 := T3.r.at
              have F := FI.out.1
              have ib : 0 ≤ (i : Int) ∧ (i : Int) ≤ 255 := by omega
              have oks : ∀ e, e ∈ ([({ Y with qp := ev }, s1, s2, s3), (Y, a1, b1, c1), (Y, a2, b2, c2), (Y, a3, b3, c3), ({ Y with mode := (i : Int) }, s1, s2, s3), ({ Y with chroma := (i : Int) }, s1, s2, s3), ({ Y with pr := pq }, s1, s2, s3), ({ Y with sb := sq }, s1, s2, s3)] : List El) → ElOk v5 e := by
                intro e he
                simp only [List.mem_cons, List.not_mem_nil, or_false] at he
                rcases he with rfl | rfl | rfl | rfl | rfl | rfl | rfl | rfl
                · exact ⟨⟨M0.r, M0.v, M0.b⟩, ⟨F.k0, F.k1, F.m0, F.m1, F.h0, F.h1, F.p, F.s, F.c0, F.c1, EVB.out.1, EVB.out.2⟩, fun l hl => by have := FI.out.2.1.i l hl; omega, FI.out.2.2.1⟩
                · exact ⟨⟨M1.r, M1.v, M1.b⟩, F, fun l hl => by have := FI.out.2.1.i l hl; omega, FI.out.2.2.1⟩
                · exact ⟨⟨M2.r, M2.v, M2.b⟩, F, fun l hl => by have := FI.out.2.1.i l hl; omega, FI.out.2.2.1⟩
                · exact ⟨⟨M3.r, M3.v, M3.b⟩, F, fun l hl => by have := FI.out.2.1.i l hl; omega, FI.out.2.2.1⟩
                · exact ⟨⟨M0.r, M0.v, M0.b⟩, ⟨F.k0, F.k1, ib.1, ib.2, F.h0, F.h1, F.p, F.s, F.c0, F.c1, F.q0, F.q1⟩, fun l hl => by have := FI.out.2.1.i l hl; omega, FI.out.2.2.1⟩
                · exact ⟨⟨M0.r, M0.v, M0.b⟩, ⟨F.k0, F.k1, F.m0, F.m1, ib.1, ib.2, F.p, F.s, F.c0, F.c1, F.q0, F.q1⟩, fun l hl => by have := FI.out.2.1.i l hl; omega, FI.out.2.2.1⟩
                · exact ⟨⟨M0.r, M0.v, M0.b⟩, ⟨F.k0, F.k1, F.m0, F.m1, F.h0, F.h1, fun z hz => (hpi z hz).elim (fun h => by rw [h]; exact ib) (F.p z), F.s, F.c0, F.c1, F.q0, F.q1⟩, fun l hl => by have := FI.out.2.1.i l hl; omega, FI.out.2.2.1⟩
                · exact ⟨⟨M0.r, M0.v, M0.b⟩, ⟨F.k0, F.k1, F.m0, F.m1, F.h0, F.h1, F.p, fun z hz => (hsi z hz).elim (fun h => by rw [h]; exact ib) (F.s z), F.c0, F.c1, F.q0, F.q1⟩, fun l hl => by have := FI.out.2.1.i l hl; omega, FI.out.2.2.1⟩
              have EV := hid (show ExV w x2 v5 be q qb i ev Y s1 s2 s3 a1 b1 c1 a2 b2 c2 a3 b3 c3 from ⟨⟨_, EX5.out, oks⟩, EX5.out.cell (k := 1) (off := 23) rfl rfl, EX5.out.cell (k := 2) (off := 24) rfl rfl, EX5.out.cell (k := 3) (off := 27) rfl rfl, (BQ.out.only S5.out (by simp)).only S5' (by simp; have := QQ.out; omega), S5'.cell BEC.out (by simp; exact NEB.out), T1.t, T2.t, T3.t, (X2.out.trans S5.out).trans2 S5' (fun g hg => .inr (by have := QB.out.1; simp at hg; omega)), X2.out.size, Nat.lt_of_lt_of_le BE.out.lt X2.out.size, BQ.out.lt⟩)
              obtain ⟨nR, hnR⟩ : ∃ n, n = Y.refs.length := ⟨_, rfl⟩
              obtain ⟨nB, hnB⟩ : ∃ n, n = Y.blocks.length := ⟨_, rfl⟩
              obtain ⟨sa, sc, es1⟩ := R0.out.r.form
              obtain ⟨vs3, ⟨ta, tc, es3, _⟩, hl3, _⟩ := id M0.b
              rw [hl3, ← hnB] at es3
              rw [← hnR] at es1
              have ES1 := hid es1
              have ES3 := hid es3
              have HNR := hid hnR
              have HNB := hid hnB
              have NB27 := hid (show nB ≤ 27 by rw [hnB]; exact FI.out.2.2.2.1)
              have NR4 := hid (show nR ≤ 4 ∧ Y.mvds.length = nR by have := FI.out.2.2.2.2.2; have := nRef_le ((K : Int) % 8); omega)
              clear K35 HQ' T1 T2 T3 M0 M1 M2 M3 F oks EX5 S5' es1 es3 hl3 hnR hnB hpi hsi EX0 EX1 EX2 EX3 EX4 HD6 R0 R1 R2 R3 EX BEC t16 t4 wa wd' wi a0 a1' d0 d1' ib
              have c23 := EV.out.m.cell (i := 23) (v := s1.sl) rfl
              rw [ES1.out] at c23
              by_cases h1 : nR = 0
              · have z1 : ¬ (0 : Int) < (nR : Int) := by omega
                clear h1
                go_upto_region 22 with fail
                clear c23
                have c27 := EV.out.m.cell (i := 27) (v := s3.sl) rfl
                rw [ES3.out] at c27
                by_cases h3 : nB = 0
                · have z3 : ¬ (0 : Int) < (nB : Int) := by omega
                  clear h3
                  go_upto_region 25 with fail
                  obtain ⟨LE, hLE, hOK⟩ := EV.out.ok
                  have XLE := hid hLE
                  have XOK := hid hOK
                  clear hLE hOK
                  go_upto_region 26 with fail
                  go_loopg [9] 8 (fun g t wx => ∃ k : Nat, k + g = 8 ∧ t = .int .i64 k ∧ Only [] v5 wx)
                  case atStart => exact ⟨0, rfl, rfl, Only.refl _ _⟩
                  case round =>
                    obtain ⟨k, hk, rfl, hO8⟩ := hrel
                    have O8 := hid hO8
                    have kk0 : (0 : Int) ≤ (k : Int) := by omega
                    clear hO8
                    by_cases hg : gk = 0
                    · have kk1 : ¬ (k : Int) < 8 := by omega
                      clear hk hg
                      have OE := hid (EV.out.o.trans O8.out)
                      go_wp2_with fail
                      go_roundg g3
                      case measure => omega
                      case rel => exact ⟨i + 1, KN.out, by go_num, OE.out⟩
                    · obtain ⟨g4, rfl⟩ : ∃ gg, gk = gg + 1 := ⟨gk - 1, by omega⟩
                      have KK := hid (show k + 1 + g4 = 8 by omega)
                      have kk1 : (k : Int) < 8 := by omega
                      obtain ⟨el, hel⟩ : ∃ e, LE[k]? = some e := ⟨_, List.getElem?_eq_getElem (by have := XLE.out.n; omega)⟩
                      have HOK := XOK.out el (List.mem_of_getElem? hel)
                      have EL := hid (O8.out.cell EV.out.e (by simp))
                      have LX := hid (fun w' (o : Only [] wr w') => (XLE.out.step (O8.out.trans o) (by simp)).load hel)
                      have CK := hid (fun w' (o : Only [] wr w') => mbchecks_any awake13_any el.1 el.2.1.sl el.2.2.1.sl el.2.2.2.sl ev w' (V.out _ ((EV.out.o.trans O8.out).trans o)) HOK.i (HOK.m.only0 (O8.out.trans o)) HOK.b HOK.p)
                      clear hk hg hel HOK
                      go_upto_region 28 with fail
                      refine wp_region_heldH (fun w' => Only [] wr w') 10 (by kernel_rfl) rfl (Only.refl [] wr).drew (fun hS => ?_)
                      generalize wr.drew = wdd at *
                      refine wpAnyH_read 0 (v := ?va641) rfl (by kernel_rfl) (by kernel_rfl) (by kernel_rfl) (fun _ _ _ h => h) hS (Or.inl ⟨by rfl, ?ya641⟩) ?ra641
                      case ya641 =>
                        intro w hSw
                        have p0 := hSw.cell EL.out (by simp)
                        go_simp
                        (try with_reducible rfl)
                      (try simp only [Act.put, List.setIfInBounds_toArray, List.set_cons_zero, List.set_cons_succ])
                      refine wpAnyH_read 1 (v := ?va642) rfl (by kernel_rfl) (by kernel_rfl) (by kernel_rfl) (fun _ _ _ h => h) hS (Or.inl ⟨by rfl, ?ya642⟩) ?ra642
                      case ya642 =>
                        intro w hSw
                        have p0 := hSw.cell EL.out (by simp)
                        go_simp
                        (try with_reducible rfl)
                      (try simp only [Act.put, List.setIfInBounds_toArray, List.set_cons_zero, List.set_cons_succ])
                      refine wpAnyH_read 2 (v := ?va643) rfl (by kernel_rfl) (by kernel_rfl) (by kernel_rfl) (fun _ _ _ h => h) hS (Or.inl ⟨by rfl, ?ya643⟩) ?ra643
                      case ya643 =>
                        intro w hSw
                        have p0 := hSw.cell EL.out (by simp)
                        go_simp
                        (try with_reducible rfl)
                      (try simp only [Act.put, List.setIfInBounds_toArray, List.set_cons_zero, List.set_cons_succ])
                      refine wpAnyH_read 3 rfl (by kernel_rfl) (by kernel_rfl) (by kernel_rfl) (fun _ _ _ h => h) hS (yields_load 28 _ (by rfl) rfl ⟨qb, k * 29, none⟩ (elC el) rfl (fun w' o => (LX.out w' o))) ?_
                      (try simp only [Act.put, List.setIfInBounds_toArray, List.set_cons_zero, List.set_cons_succ])
                      refine wpAnyH_read 4 (v := ?va644) rfl (by kernel_rfl) (by kernel_rfl) (by kernel_rfl) (fun _ _ _ h => h) hS (Or.inl ⟨by rfl, ?ya644⟩) ?ra644
                      case ya644 =>
                        intro w hSw
                        have p0 := hSw.cell EL.out (by simp)
                        go_simp
                        (try with_reducible rfl)
                      (try simp only [Act.put, List.setIfInBounds_toArray, List.set_cons_zero, List.set_cons_succ])
                      refine wpAnyH_read 5 (v := ?va645) rfl (by kernel_rfl) (by kernel_rfl) (by kernel_rfl) (fun _ _ _ h => h) hS (Or.inl ⟨by rfl, ?ya645⟩) ?ra645
                      case ya645 =>
                        intro w hSw
                        have p0 := hSw.cell EL.out (by simp)
                        go_simp
                        (try with_reducible rfl)
                      (try simp only [Act.put, List.setIfInBounds_toArray, List.set_cons_zero, List.set_cons_succ])
                      refine wpAnyH_read 6 (v := ?va646) rfl (by kernel_rfl) (by kernel_rfl) (by kernel_rfl) (fun _ _ _ h => h) hS (Or.inl ⟨by rfl, ?ya646⟩) ?ra646
                      case ya646 =>
                        intro w hSw
                        have p0 := hSw.cell EL.out (by simp)
                        go_simp
                        (try with_reducible rfl)
                      (try simp only [Act.put, List.setIfInBounds_toArray, List.set_cons_zero, List.set_cons_succ])
                      refine wpAnyH_read 7 (v := ?va647) rfl (by kernel_rfl) (by kernel_rfl) (by kernel_rfl) (fun _ _ _ h => h) hS (Or.inl ⟨by rfl, ?ya647⟩) ?ra647
                      case ya647 =>
                        intro w hSw
                        have p0 := hSw.cell EL.out (by simp)
                        go_simp
                        (try with_reducible rfl)
                      (try simp only [Act.put, List.setIfInBounds_toArray, List.set_cons_zero, List.set_cons_succ])
                      refine wpAnyH_call 8 rfl (by kernel_rfl) (fun J hJ => ?_)
                      rw [if_pos (by rfl)]
                      go_simp
                      refine (CK.out _ hS).mono ?_
                      rintro e z8 ⟨rfl, p_⟩
                      have s8 := hS.trans p_
                      clear p_
                      refine hJ.out _ _ s8 ?_
                      clear hJ J
                      (try simp only [Act.put, List.setIfInBounds_toArray, List.set_cons_zero, List.set_cons_succ])
                      refine wpAnyH_read 9 (v := ?va648) rfl (by kernel_rfl) (by kernel_rfl) (by kernel_rfl) (fun _ _ _ h => h) s8 (Or.inl ⟨by rfl, ?ya648⟩) ?ra648
                      case ya648 =>
                        intro w hSw
                        have p0 := hSw.cell EL.out (by simp)
                        go_simp
                        (try with_reducible rfl)
                      (try simp only [Act.put, List.setIfInBounds_toArray, List.set_cons_zero, List.set_cons_succ])
                      refine wpAnyH_done (by kernel_rfl) ?_ _
                      have O9 := hid (O8.out.trans s8)
                      clear s8 hS
                      go_wp2_with fail
                      go_roundg g4
                      case measure => omega
                      case rel => exact ⟨k + 1, KK.out, by go_num, O9.out⟩
                · obtain ⟨n3, e3⟩ : ∃ m, nB = m + 1 := ⟨nB - 1, by omega⟩
                  have z3 : (0 : Int) < (nB : Int) := by omega
                  have z4 : (nB : Int) - 1 = (n3 : Int) := by omega
                  have z5 : (n3 : Int) < (nB : Int) := by omega
                  have z6 : (0 : Int) ≤ (n3 : Int) := by omega
                  have w3' : IntKind.i64.wrap (n3 : Int) = (n3 : Int) := IntWalk.i64_in _ (by have := NB27.out; omega)
                  obtain ⟨g', k', q', m', d', cur, ec, hb, hc, m2, i3, _, nq⟩ := EV.out.t3.b (by rw [← HNB.out]; omega)
                  have hd3 := EV.out.d3
                  rw [ec, ← HNB.out] at hd3
                  have D3 := hid (show v5.cell? ⟨qb, 114, none⟩ = some (.slice (some ⟨g', 0, none⟩) nB k') from hd3)
                  have BC3 := hid (show v5.cell? ⟨g', n3, none⟩ = some (.slice (some ⟨q', 0, none⟩) m' d') from hb.cell (by rw [← HNB.out, e3] at hc; exact hc))
                  have mm : (1 : Int) < (m' : Int) := by omega
                  have I3 := hid i3
                  have NQ := hid nq
                  clear hb hc ec hd3 i3 nq h3 e3 m2
                  go_upto_region 24 with fail
                  refine wp_region_tail (fun w' => Only [] v5 w') 13 14 (by kernel_rfl) rfl ((Only.refl _ _).drew) (fun hS => ?_)
                  have HD3 := hid (show Only [] v5 v5.drew from (Only.refl _ _).drew)
                  generalize v5.drew = vd at *
                  refine wpAnyT_take 0 (v := ?vc0) rfl (by kernel_rfl) (fun _ _ _ h => h) (Or.inl ⟨by rfl, ?yc0⟩) hS ?rc0
                  case yc0 =>
                    intro w hSw
                    have p0 := hSw.cell EV.out.e (by simp)
                    have p1 := hSw.cell D3.out (by simp)
                    have p2 := hSw.cell BC3.out (by simp)
                    go_simp
                    (try with_reducible rfl)
                  (try simp only [Act.put, List.setIfInBounds_toArray, List.set_cons_zero, List.set_cons_succ])
                  refine wpAnyT_take 1 (v := ?vc1) rfl (by kernel_rfl) (fun _ _ _ h => h) (Or.inl ⟨by rfl, ?yc1⟩) hS ?rc1
                  case yc1 =>
                    intro w hSw
                    have p0 := hSw.cell EV.out.e (by simp)
                    have p1 := hSw.cell D3.out (by simp)
                    have p2 := hSw.cell BC3.out (by simp)
                    go_simp
                    (try with_reducible rfl)
                  (try simp only [Act.put, List.setIfInBounds_toArray, List.set_cons_zero, List.set_cons_succ])
                  refine wpAnyT_take 2 (v := ?vc2) rfl (by kernel_rfl) (fun _ _ _ h => h) (Or.inl ⟨by rfl, ?yc2⟩) hS ?rc2
                  case yc2 =>
                    intro w hSw
                    have p0 := hSw.cell EV.out.e (by simp)
                    have p1 := hSw.cell D3.out (by simp)
                    have p2 := hSw.cell BC3.out (by simp)
                    go_simp
                    (try with_reducible rfl)
                  (try simp only [Act.put, List.setIfInBounds_toArray, List.set_cons_zero, List.set_cons_succ])
                  refine wpAnyT_take 3 (v := ?vc3) rfl (by kernel_rfl) (fun _ _ _ h => h) (Or.inl ⟨by rfl, ?yc3⟩) hS ?rc3
                  case yc3 =>
                    intro w hSw
                    have p0 := hSw.cell EV.out.e (by simp)
                    have p1 := hSw.cell D3.out (by simp)
                    have p2 := hSw.cell BC3.out (by simp)
                    go_simp
                    (try with_reducible rfl)
                  (try simp only [Act.put, List.setIfInBounds_toArray, List.set_cons_zero, List.set_cons_succ])
                  refine wpAnyT_take 4 (v := ?vc4) rfl (by kernel_rfl) (fun _ _ _ h => h) (Or.inl ⟨by rfl, ?yc4⟩) hS ?rc4
                  case yc4 =>
                    intro w hSw
                    have p0 := hSw.cell EV.out.e (by simp)
                    have p1 := hSw.cell D3.out (by simp)
                    have p2 := hSw.cell BC3.out (by simp)
                    go_simp
                    (try with_reducible rfl)
                  (try simp only [Act.put, List.setIfInBounds_toArray, List.set_cons_zero, List.set_cons_succ])
                  refine wpAnyT_take 5 (v := ?vc5) rfl (by kernel_rfl) (fun _ _ _ h => h) (Or.inl ⟨by rfl, ?yc5⟩) hS ?rc5
                  case yc5 =>
                    intro w hSw
                    have p0 := hSw.cell EV.out.e (by simp)
                    have p1 := hSw.cell D3.out (by simp)
                    have p2 := hSw.cell BC3.out (by simp)
                    go_simp
                    (try with_reducible rfl)
                  (try simp only [Act.put, List.setIfInBounds_toArray, List.set_cons_zero, List.set_cons_succ])
                  refine wpAnyT_take 6 (v := ?vc6) rfl (by kernel_rfl) (fun _ _ _ h => h) (Or.inl ⟨by rfl, ?yc6⟩) hS ?rc6
                  case yc6 =>
                    intro w hSw
                    have p0 := hSw.cell EV.out.e (by simp)
                    have p1 := hSw.cell D3.out (by simp)
                    have p2 := hSw.cell BC3.out (by simp)
                    go_simp
                    (try with_reducible rfl)
                  (try simp only [Act.put, List.setIfInBounds_toArray, List.set_cons_zero, List.set_cons_succ])
                  refine wpAnyT_take 7 (v := ?vc7) rfl (by kernel_rfl) (fun _ _ _ h => h) (Or.inl ⟨by rfl, ?yc7⟩) hS ?rc7
                  case yc7 =>
                    intro w hSw
                    have p0 := hSw.cell EV.out.e (by simp)
                    have p1 := hSw.cell D3.out (by simp)
                    have p2 := hSw.cell BC3.out (by simp)
                    go_simp
                    (try with_reducible rfl)
                  (try simp only [Act.put, List.setIfInBounds_toArray, List.set_cons_zero, List.set_cons_succ])
                  refine wpAnyT_take 8 (v := ?vc8) rfl (by kernel_rfl) (fun _ _ _ h => h) (Or.inl ⟨by rfl, ?yc8⟩) hS ?rc8
                  case yc8 =>
                    intro w hSw
                    have p0 := hSw.cell EV.out.e (by simp)
                    have p1 := hSw.cell D3.out (by simp)
                    have p2 := hSw.cell BC3.out (by simp)
                    go_simp
                    (try with_reducible rfl)
                  (try simp only [Act.put, List.setIfInBounds_toArray, List.set_cons_zero, List.set_cons_succ])
                  refine wpAnyT_take 9 (v := ?vc9) rfl (by kernel_rfl) (fun _ _ _ h => h) (Or.inl ⟨by rfl, ?yc9⟩) hS ?rc9
                  case yc9 =>
                    intro w hSw
                    have p0 := hSw.cell EV.out.e (by simp)
                    have p1 := hSw.cell D3.out (by simp)
                    have p2 := hSw.cell BC3.out (by simp)
                    go_simp
                    (try with_reducible rfl)
                  (try simp only [Act.put, List.setIfInBounds_toArray, List.set_cons_zero, List.set_cons_succ])
                  refine wpAnyT_take 10 (v := ?vc10) rfl (by kernel_rfl) (fun _ _ _ h => h) (Or.inl ⟨by rfl, ?yc10⟩) hS ?rc10
                  case yc10 =>
                    intro w hSw
                    have p0 := hSw.cell EV.out.e (by simp)
                    have p1 := hSw.cell D3.out (by simp)
                    have p2 := hSw.cell BC3.out (by simp)
                    go_simp
                    (try with_reducible rfl)
                  (try simp only [Act.put, List.setIfInBounds_toArray, List.set_cons_zero, List.set_cons_succ])
                  refine wpAnyT_take 11 (v := ?vc11) rfl (by kernel_rfl) (fun _ _ _ h => h) (Or.inl ⟨by rfl, ?yc11⟩) hS ?rc11
                  case yc11 =>
                    intro w hSw
                    have p0 := hSw.cell EV.out.e (by simp)
                    have p1 := hSw.cell D3.out (by simp)
                    have p2 := hSw.cell BC3.out (by simp)
                    go_simp
                    (try with_reducible rfl)
                  (try simp only [Act.put, List.setIfInBounds_toArray, List.set_cons_zero, List.set_cons_succ])
                  refine wpAnyT_take 12 (v := ?vc12) rfl (by kernel_rfl) (fun _ _ _ h => h) (Or.inl ⟨by rfl, ?yc12⟩) hS ?rc12
                  case yc12 =>
                    intro w hSw
                    have p0 := hSw.cell EV.out.e (by simp)
                    have p1 := hSw.cell D3.out (by simp)
                    have p2 := hSw.cell BC3.out (by simp)
                    go_simp
                    (try with_reducible rfl)
                  (try simp only [Act.put, List.setIfInBounds_toArray, List.set_cons_zero, List.set_cons_succ])
                  have id3 := I3.out.only HD3.out (by simp)
                  obtain ⟨zz, c0⟩ := id3.cell
                  have f0 := id3.frozen
                  have EVN := hid ((EV.out.step HD3.out).poke id3 NQ.out ev)
                  refine wpAnyT_tail _ rfl (by kernel_rfl) ?_
                  simp only [List.drop_succ_cons, List.drop_zero]
                  clear id3 hS
                  go_upto_region 25 with fail
                  clear c0 f0 c27
                  obtain ⟨vn, hvn⟩ : ∃ W, W = vd.setCell ⟨q', 1, none⟩ (.int .i64 ev) := ⟨_, rfl⟩
                  rw [← hvn] at EVN ⊢
                  (try rw [show decide ((0 : Int) < (nB : Int)) = true from decide_eq_true z3])
                  (try rw [show decide (0 < nB) = true from decide_eq_true (by omega)])
                  clear hvn z3 z4 z5 z6 w3' mm zz
                  obtain ⟨LE, hLE, hOK⟩ := EVN.out.ok
                  have XLE := hid hLE
                  have XOK := hid hOK
                  clear hLE hOK
                  go_upto_region 26 with fail
                  go_loopg [9] 8 (fun g t wx => ∃ k : Nat, k + g = 8 ∧ t = .int .i64 k ∧ Only [] vn wx)
                  case atStart => exact ⟨0, rfl, rfl, Only.refl _ _⟩
                  case round =>
                    obtain ⟨k, hk, rfl, hO8⟩ := hrel
                    have O8 := hid hO8
                    have kk0 : (0 : Int) ≤ (k : Int) := by omega
                    clear hO8
                    by_cases hg : gk = 0
                    · have kk1 : ¬ (k : Int) < 8 := by omega
                      clear hk hg
                      have OE := hid (EVN.out.o.trans O8.out)
                      go_wp2_with fail
                      go_roundg g3
                      case measure => omega
                      case rel => exact ⟨i + 1, KN.out, by go_num, OE.out⟩
                    · obtain ⟨g4, rfl⟩ : ∃ gg, gk = gg + 1 := ⟨gk - 1, by omega⟩
                      have KK := hid (show k + 1 + g4 = 8 by omega)
                      have kk1 : (k : Int) < 8 := by omega
                      obtain ⟨el, hel⟩ : ∃ e, LE[k]? = some e := ⟨_, List.getElem?_eq_getElem (by have := XLE.out.n; omega)⟩
                      have HOK := XOK.out el (List.mem_of_getElem? hel)
                      have EL := hid (O8.out.cell EVN.out.e (by simp))
                      have LX := hid (fun w' (o : Only [] wr w') => (XLE.out.step (O8.out.trans o) (by simp)).load hel)
                      have CK := hid (fun w' (o : Only [] wr w') => mbchecks_any awake13_any el.1 el.2.1.sl el.2.2.1.sl el.2.2.2.sl ev w' (V.out _ ((EVN.out.o.trans O8.out).trans o)) HOK.i (HOK.m.only0 (O8.out.trans o)) HOK.b HOK.p)
                      clear hk hg hel HOK
                      go_upto_region 28 with fail
                      refine wp_region_heldH (fun w' => Only [] wr w') 10 (by kernel_rfl) rfl (Only.refl [] wr).drew (fun hS => ?_)
                      generalize wr.drew = wdd at *
                      refine wpAnyH_read 0 (v := ?va681) rfl (by kernel_rfl) (by kernel_rfl) (by kernel_rfl) (fun _ _ _ h => h) hS (Or.inl ⟨by rfl, ?ya681⟩) ?ra681
                      case ya681 =>
                        intro w hSw
                        have p0 := hSw.cell EL.out (by simp)
                        go_simp
                        (try with_reducible rfl)
                      (try simp only [Act.put, List.setIfInBounds_toArray, List.set_cons_zero, List.set_cons_succ])
                      refine wpAnyH_read 1 (v := ?va682) rfl (by kernel_rfl) (by kernel_rfl) (by kernel_rfl) (fun _ _ _ h => h) hS (Or.inl ⟨by rfl, ?ya682⟩) ?ra682
                      case ya682 =>
                        intro w hSw
                        have p0 := hSw.cell EL.out (by simp)
                        go_simp
                        (try with_reducible rfl)
                      (try simp only [Act.put, List.setIfInBounds_toArray, List.set_cons_zero, List.set_cons_succ])
                      refine wpAnyH_read 2 (v := ?va683) rfl (by kernel_rfl) (by kernel_rfl) (by kernel_rfl) (fun _ _ _ h => h) hS (Or.inl ⟨by rfl, ?ya683⟩) ?ra683
                      case ya683 =>
                        intro w hSw
                        have p0 := hSw.cell EL.out (by simp)
                        go_simp
                        (try with_reducible rfl)
                      (try simp only [Act.put, List.setIfInBounds_toArray, List.set_cons_zero, List.set_cons_succ])
                      refine wpAnyH_read 3 rfl (by kernel_rfl) (by kernel_rfl) (by kernel_rfl) (fun _ _ _ h => h) hS (yields_load 28 _ (by rfl) rfl ⟨qb, k * 29, none⟩ (elC el) rfl (fun w' o => (LX.out w' o))) ?_
                      (try simp only [Act.put, List.setIfInBounds_toArray, List.set_cons_zero, List.set_cons_succ])
                      refine wpAnyH_read 4 (v := ?va684) rfl (by kernel_rfl) (by kernel_rfl) (by kernel_rfl) (fun _ _ _ h => h) hS (Or.inl ⟨by rfl, ?ya684⟩) ?ra684
                      case ya684 =>
                        intro w hSw
                        have p0 := hSw.cell EL.out (by simp)
                        go_simp
                        (try with_reducible rfl)
                      (try simp only [Act.put, List.setIfInBounds_toArray, List.set_cons_zero, List.set_cons_succ])
                      refine wpAnyH_read 5 (v := ?va685) rfl (by kernel_rfl) (by kernel_rfl) (by kernel_rfl) (fun _ _ _ h => h) hS (Or.inl ⟨by rfl, ?ya685⟩) ?ra685
                      case ya685 =>
                        intro w hSw
                        have p0 := hSw.cell EL.out (by simp)
                        go_simp
                        (try with_reducible rfl)
                      (try simp only [Act.put, List.setIfInBounds_toArray, List.set_cons_zero, List.set_cons_succ])
                      refine wpAnyH_read 6 (v := ?va686) rfl (by kernel_rfl) (by kernel_rfl) (by kernel_rfl) (fun _ _ _ h => h) hS (Or.inl ⟨by rfl, ?ya686⟩) ?ra686
                      case ya686 =>
                        intro w hSw
                        have p0 := hSw.cell EL.out (by simp)
                        go_simp
                        (try with_reducible rfl)
                      (try simp only [Act.put, List.setIfInBounds_toArray, List.set_cons_zero, List.set_cons_succ])
                      refine wpAnyH_read 7 (v := ?va687) rfl (by kernel_rfl) (by kernel_rfl) (by kernel_rfl) (fun _ _ _ h => h) hS (Or.inl ⟨by rfl, ?ya687⟩) ?ra687
                      case ya687 =>
                        intro w hSw
                        have p0 := hSw.cell EL.out (by simp)
                        go_simp
                        (try with_reducible rfl)
                      (try simp only [Act.put, List.setIfInBounds_toArray, List.set_cons_zero, List.set_cons_succ])
                      refine wpAnyH_call 8 rfl (by kernel_rfl) (fun J hJ => ?_)
                      rw [if_pos (by rfl)]
                      go_simp
                      refine (CK.out _ hS).mono ?_
                      rintro e z8 ⟨rfl, p_⟩
                      have s8 := hS.trans p_
                      clear p_
                      refine hJ.out _ _ s8 ?_
                      clear hJ J
                      (try simp only [Act.put, List.setIfInBounds_toArray, List.set_cons_zero, List.set_cons_succ])
                      refine wpAnyH_read 9 (v := ?va688) rfl (by kernel_rfl) (by kernel_rfl) (by kernel_rfl) (fun _ _ _ h => h) s8 (Or.inl ⟨by rfl, ?ya688⟩) ?ra688
                      case ya688 =>
                        intro w hSw
                        have p0 := hSw.cell EL.out (by simp)
                        go_simp
                        (try with_reducible rfl)
                      (try simp only [Act.put, List.setIfInBounds_toArray, List.set_cons_zero, List.set_cons_succ])
                      refine wpAnyH_done (by kernel_rfl) ?_ _
                      have O9 := hid (O8.out.trans s8)
                      clear s8 hS
                      go_wp2_with fail
                      go_roundg g4
                      case measure => omega
                      case rel => exact ⟨k + 1, KK.out, by go_num, O9.out⟩
              · obtain ⟨r', er⟩ : ∃ m, nR = m + 1 := ⟨nR - 1, by omega⟩
                have z1 : (0 : Int) < (nR : Int) := by omega
                have z2 : (nR : Int) - 1 = (r' : Int) := by omega
                have y5 : (r' : Int) < (nR : Int) := by omega
                have y6 : (0 : Int) ≤ (r' : Int) := by omega
                have wr' : IntKind.i64.wrap (r' : Int) = (r' : Int) := IntWalk.i64_in _ (by have := NR4.out; omega)
                obtain ⟨g1, k1, e1, i1, n1⟩ := EV.out.t1.r (by rw [← HNR.out]; omega)
                obtain ⟨g2, k2, e2, i2, n2⟩ := EV.out.t2.v (by rw [NR4.out.2]; omega)
                have hd1 := EV.out.d1
                rw [e1, ← HNR.out] at hd1
                have hd2 := EV.out.d2
                rw [e2, NR4.out.2] at hd2
                rw [← HNR.out, show nR - 1 = r' by omega] at i1
                have D1 := hid (show v5.cell? ⟨qb, 52, none⟩ = some (.slice (some ⟨g1, 0, none⟩) nR k1) from hd1)
                have D2 := hid (show v5.cell? ⟨qb, 82, none⟩ = some (.slice (some ⟨g2, 0, none⟩) nR k2) from hd2)
                have C23 := hid c23
                have N1 := hid (EV.out.ne i1 n1)
                have N2 := hid (EV.out.ne i2 n2)
                have I1 := hid i1
                have I2 := hid i2
                have GN := hid (And.intro n1 n2)
                clear hd1 hd2 i1 i2 n1 n2 e1 e2 h1 er
                go_upto_region 21 with fail
                clear c23
                refine wp_region_tail (fun w' => Only [g1, g2] v5 w') 24 25 (by kernel_rfl) rfl ((Only.refl _ _).drew) (fun hS => ?_)
                have HD5 := hid (show Only [] v5 v5.drew from (Only.refl _ _).drew)
                generalize v5.drew = vd5 at *
                refine wpAnyT_take 0 (v := ?vd0) rfl (by kernel_rfl) (fun _ _ _ h => h) (Or.inl ⟨by rfl, ?yd0⟩) hS ?rd0
                case yd0 =>
                  intro w hSw
                  have p0 := hSw.cell EV.out.e (by simp; exact ⟨N1.out.2.2, N2.out.2.2⟩)
                  have p1 := hSw.cell D1.out (by simp; exact ⟨N1.out.1, N2.out.1⟩)
                  have p2 := hSw.cell D2.out (by simp; exact ⟨N1.out.1, N2.out.1⟩)
                  have p3 := hSw.cell C23.out (by simp; exact ⟨N1.out.2.1, N2.out.2.1⟩)
                  go_simp
                  (try with_reducible rfl)
                (try simp only [Act.put, List.setIfInBounds_toArray, List.set_cons_zero, List.set_cons_succ])
                refine wpAnyT_take 1 (v := ?vd1) rfl (by kernel_rfl) (fun _ _ _ h => h) (Or.inl ⟨by rfl, ?yd1⟩) hS ?rd1
                case yd1 =>
                  intro w hSw
                  have p0 := hSw.cell EV.out.e (by simp; exact ⟨N1.out.2.2, N2.out.2.2⟩)
                  have p1 := hSw.cell D1.out (by simp; exact ⟨N1.out.1, N2.out.1⟩)
                  have p2 := hSw.cell D2.out (by simp; exact ⟨N1.out.1, N2.out.1⟩)
                  have p3 := hSw.cell C23.out (by simp; exact ⟨N1.out.2.1, N2.out.2.1⟩)
                  go_simp
                  (try with_reducible rfl)
                (try simp only [Act.put, List.setIfInBounds_toArray, List.set_cons_zero, List.set_cons_succ])
                refine wpAnyT_take 2 (v := ?vd2) rfl (by kernel_rfl) (fun _ _ _ h => h) (Or.inl ⟨by rfl, ?yd2⟩) hS ?rd2
                case yd2 =>
                  intro w hSw
                  have p0 := hSw.cell EV.out.e (by simp; exact ⟨N1.out.2.2, N2.out.2.2⟩)
                  have p1 := hSw.cell D1.out (by simp; exact ⟨N1.out.1, N2.out.1⟩)
                  have p2 := hSw.cell D2.out (by simp; exact ⟨N1.out.1, N2.out.1⟩)
                  have p3 := hSw.cell C23.out (by simp; exact ⟨N1.out.2.1, N2.out.2.1⟩)
                  go_simp
                  (try with_reducible rfl)
                (try simp only [Act.put, List.setIfInBounds_toArray, List.set_cons_zero, List.set_cons_succ])
                refine wpAnyT_take 3 (v := ?vd3) rfl (by kernel_rfl) (fun _ _ _ h => h) (Or.inl ⟨by rfl, ?yd3⟩) hS ?rd3
                case yd3 =>
                  intro w hSw
                  have p0 := hSw.cell EV.out.e (by simp; exact ⟨N1.out.2.2, N2.out.2.2⟩)
                  have p1 := hSw.cell D1.out (by simp; exact ⟨N1.out.1, N2.out.1⟩)
                  have p2 := hSw.cell D2.out (by simp; exact ⟨N1.out.1, N2.out.1⟩)
                  have p3 := hSw.cell C23.out (by simp; exact ⟨N1.out.2.1, N2.out.2.1⟩)
                  go_simp
                  (try with_reducible rfl)
                (try simp only [Act.put, List.setIfInBounds_toArray, List.set_cons_zero, List.set_cons_succ])
                refine wpAnyT_take 4 (v := ?vd4) rfl (by kernel_rfl) (fun _ _ _ h => h) (Or.inl ⟨by rfl, ?yd4⟩) hS ?rd4
                case yd4 =>
                  intro w hSw
                  have p0 := hSw.cell EV.out.e (by simp; exact ⟨N1.out.2.2, N2.out.2.2⟩)
                  have p1 := hSw.cell D1.out (by simp; exact ⟨N1.out.1, N2.out.1⟩)
                  have p2 := hSw.cell D2.out (by simp; exact ⟨N1.out.1, N2.out.1⟩)
                  have p3 := hSw.cell C23.out (by simp; exact ⟨N1.out.2.1, N2.out.2.1⟩)
                  go_simp
                  (try with_reducible rfl)
                (try simp only [Act.put, List.setIfInBounds_toArray, List.set_cons_zero, List.set_cons_succ])
                refine wpAnyT_take 5 (v := ?vd5) rfl (by kernel_rfl) (fun _ _ _ h => h) (Or.inl ⟨by rfl, ?yd5⟩) hS ?rd5
                case yd5 =>
                  intro w hSw
                  have p0 := hSw.cell EV.out.e (by simp; exact ⟨N1.out.2.2, N2.out.2.2⟩)
                  have p1 := hSw.cell D1.out (by simp; exact ⟨N1.out.1, N2.out.1⟩)
                  have p2 := hSw.cell D2.out (by simp; exact ⟨N1.out.1, N2.out.1⟩)
                  have p3 := hSw.cell C23.out (by simp; exact ⟨N1.out.2.1, N2.out.2.1⟩)
                  go_simp
                  (try with_reducible rfl)
                (try simp only [Act.put, List.setIfInBounds_toArray, List.set_cons_zero, List.set_cons_succ])
                refine wpAnyT_take 6 (v := ?vd6) rfl (by kernel_rfl) (fun _ _ _ h => h) (Or.inl ⟨by rfl, ?yd6⟩) hS ?rd6
                case yd6 =>
                  intro w hSw
                  have p0 := hSw.cell EV.out.e (by simp; exact ⟨N1.out.2.2, N2.out.2.2⟩)
                  have p1 := hSw.cell D1.out (by simp; exact ⟨N1.out.1, N2.out.1⟩)
                  have p2 := hSw.cell D2.out (by simp; exact ⟨N1.out.1, N2.out.1⟩)
                  have p3 := hSw.cell C23.out (by simp; exact ⟨N1.out.2.1, N2.out.2.1⟩)
                  go_simp
                  (try with_reducible rfl)
                (try simp only [Act.put, List.setIfInBounds_toArray, List.set_cons_zero, List.set_cons_succ])
                refine wpAnyT_take 7 (v := ?vd7) rfl (by kernel_rfl) (fun _ _ _ h => h) (Or.inl ⟨by rfl, ?yd7⟩) hS ?rd7
                case yd7 =>
                  intro w hSw
                  have p0 := hSw.cell EV.out.e (by simp; exact ⟨N1.out.2.2, N2.out.2.2⟩)
                  have p1 := hSw.cell D1.out (by simp; exact ⟨N1.out.1, N2.out.1⟩)
                  have p2 := hSw.cell D2.out (by simp; exact ⟨N1.out.1, N2.out.1⟩)
                  have p3 := hSw.cell C23.out (by simp; exact ⟨N1.out.2.1, N2.out.2.1⟩)
                  go_simp
                  (try with_reducible rfl)
                (try simp only [Act.put, List.setIfInBounds_toArray, List.set_cons_zero, List.set_cons_succ])
                refine wpAnyT_take 8 (v := ?vd8) rfl (by kernel_rfl) (fun _ _ _ h => h) (Or.inl ⟨by rfl, ?yd8⟩) hS ?rd8
                case yd8 =>
                  intro w hSw
                  have p0 := hSw.cell EV.out.e (by simp; exact ⟨N1.out.2.2, N2.out.2.2⟩)
                  have p1 := hSw.cell D1.out (by simp; exact ⟨N1.out.1, N2.out.1⟩)
                  have p2 := hSw.cell D2.out (by simp; exact ⟨N1.out.1, N2.out.1⟩)
                  have p3 := hSw.cell C23.out (by simp; exact ⟨N1.out.2.1, N2.out.2.1⟩)
                  go_simp
                  (try with_reducible rfl)
                (try simp only [Act.put, List.setIfInBounds_toArray, List.set_cons_zero, List.set_cons_succ])
                refine wpAnyT_take 9 (v := ?vd9) rfl (by kernel_rfl) (fun _ _ _ h => h) (Or.inl ⟨by rfl, ?yd9⟩) hS ?rd9
                case yd9 =>
                  intro w hSw
                  have p0 := hSw.cell EV.out.e (by simp; exact ⟨N1.out.2.2, N2.out.2.2⟩)
                  have p1 := hSw.cell D1.out (by simp; exact ⟨N1.out.1, N2.out.1⟩)
                  have p2 := hSw.cell D2.out (by simp; exact ⟨N1.out.1, N2.out.1⟩)
                  have p3 := hSw.cell C23.out (by simp; exact ⟨N1.out.2.1, N2.out.2.1⟩)
                  go_simp
                  (try with_reducible rfl)
                (try simp only [Act.put, List.setIfInBounds_toArray, List.set_cons_zero, List.set_cons_succ])
                refine wpAnyT_take 10 (v := ?vd10) rfl (by kernel_rfl) (fun _ _ _ h => h) (Or.inl ⟨by rfl, ?yd10⟩) hS ?rd10
                case yd10 =>
                  intro w hSw
                  have p0 := hSw.cell EV.out.e (by simp; exact ⟨N1.out.2.2, N2.out.2.2⟩)
                  have p1 := hSw.cell D1.out (by simp; exact ⟨N1.out.1, N2.out.1⟩)
                  have p2 := hSw.cell D2.out (by simp; exact ⟨N1.out.1, N2.out.1⟩)
                  have p3 := hSw.cell C23.out (by simp; exact ⟨N1.out.2.1, N2.out.2.1⟩)
                  go_simp
                  (try with_reducible rfl)
                (try simp only [Act.put, List.setIfInBounds_toArray, List.set_cons_zero, List.set_cons_succ])
                refine wpAnyT_take 11 (v := ?vd11) rfl (by kernel_rfl) (fun _ _ _ h => h) (Or.inl ⟨by rfl, ?yd11⟩) hS ?rd11
                case yd11 =>
                  intro w hSw
                  have p0 := hSw.cell EV.out.e (by simp; exact ⟨N1.out.2.2, N2.out.2.2⟩)
                  have p1 := hSw.cell D1.out (by simp; exact ⟨N1.out.1, N2.out.1⟩)
                  have p2 := hSw.cell D2.out (by simp; exact ⟨N1.out.1, N2.out.1⟩)
                  have p3 := hSw.cell C23.out (by simp; exact ⟨N1.out.2.1, N2.out.2.1⟩)
                  go_simp
                  (try with_reducible rfl)
                (try simp only [Act.put, List.setIfInBounds_toArray, List.set_cons_zero, List.set_cons_succ])
                refine wpAnyT_take 12 (v := ?vd12) rfl (by kernel_rfl) (fun _ _ _ h => h) (Or.inl ⟨by rfl, ?yd12⟩) hS ?rd12
                case yd12 =>
                  intro w hSw
                  have p0 := hSw.cell EV.out.e (by simp; exact ⟨N1.out.2.2, N2.out.2.2⟩)
                  have p1 := hSw.cell D1.out (by simp; exact ⟨N1.out.1, N2.out.1⟩)
                  have p2 := hSw.cell D2.out (by simp; exact ⟨N1.out.1, N2.out.1⟩)
                  have p3 := hSw.cell C23.out (by simp; exact ⟨N1.out.2.1, N2.out.2.1⟩)
                  go_simp
                  (try with_reducible rfl)
                (try simp only [Act.put, List.setIfInBounds_toArray, List.set_cons_zero, List.set_cons_succ])
                refine wpAnyT_take 13 (v := ?vd13) rfl (by kernel_rfl) (fun _ _ _ h => h) (Or.inl ⟨by rfl, ?yd13⟩) hS ?rd13
                case yd13 =>
                  intro w hSw
                  have p0 := hSw.cell EV.out.e (by simp; exact ⟨N1.out.2.2, N2.out.2.2⟩)
                  have p1 := hSw.cell D1.out (by simp; exact ⟨N1.out.1, N2.out.1⟩)
                  have p2 := hSw.cell D2.out (by simp; exact ⟨N1.out.1, N2.out.1⟩)
                  have p3 := hSw.cell C23.out (by simp; exact ⟨N1.out.2.1, N2.out.2.1⟩)
                  go_simp
                  (try with_reducible rfl)
                (try simp only [Act.put, List.setIfInBounds_toArray, List.set_cons_zero, List.set_cons_succ])
                refine wpAnyT_take 14 (v := ?vd14) rfl (by kernel_rfl) (fun _ _ _ h => h) (Or.inl ⟨by rfl, ?yd14⟩) hS ?rd14
                case yd14 =>
                  intro w hSw
                  have p0 := hSw.cell EV.out.e (by simp; exact ⟨N1.out.2.2, N2.out.2.2⟩)
                  have p1 := hSw.cell D1.out (by simp; exact ⟨N1.out.1, N2.out.1⟩)
                  have p2 := hSw.cell D2.out (by simp; exact ⟨N1.out.1, N2.out.1⟩)
                  have p3 := hSw.cell C23.out (by simp; exact ⟨N1.out.2.1, N2.out.2.1⟩)
                  go_simp
                  (try with_reducible rfl)
                (try simp only [Act.put, List.setIfInBounds_toArray, List.set_cons_zero, List.set_cons_succ])
                refine wpAnyT_take 15 (v := ?vd15) rfl (by kernel_rfl) (fun _ _ _ h => h) (Or.inl ⟨by rfl, ?yd15⟩) hS ?rd15
                case yd15 =>
                  intro w hSw
                  have p0 := hSw.cell EV.out.e (by simp; exact ⟨N1.out.2.2, N2.out.2.2⟩)
                  have p1 := hSw.cell D1.out (by simp; exact ⟨N1.out.1, N2.out.1⟩)
                  have p2 := hSw.cell D2.out (by simp; exact ⟨N1.out.1, N2.out.1⟩)
                  have p3 := hSw.cell C23.out (by simp; exact ⟨N1.out.2.1, N2.out.2.1⟩)
                  go_simp
                  (try with_reducible rfl)
                (try simp only [Act.put, List.setIfInBounds_toArray, List.set_cons_zero, List.set_cons_succ])
                refine wpAnyT_take 16 (v := ?vd16) rfl (by kernel_rfl) (fun _ _ _ h => h) (Or.inl ⟨by rfl, ?yd16⟩) hS ?rd16
                case yd16 =>
                  intro w hSw
                  have p0 := hSw.cell EV.out.e (by simp; exact ⟨N1.out.2.2, N2.out.2.2⟩)
                  have p1 := hSw.cell D1.out (by simp; exact ⟨N1.out.1, N2.out.1⟩)
                  have p2 := hSw.cell D2.out (by simp; exact ⟨N1.out.1, N2.out.1⟩)
                  have p3 := hSw.cell C23.out (by simp; exact ⟨N1.out.2.1, N2.out.2.1⟩)
                  go_simp
                  (try with_reducible rfl)
                (try simp only [Act.put, List.setIfInBounds_toArray, List.set_cons_zero, List.set_cons_succ])
                refine wpAnyT_take 17 (v := ?vd17) rfl (by kernel_rfl) (fun _ _ _ h => h) (Or.inl ⟨by rfl, ?yd17⟩) hS ?rd17
                case yd17 =>
                  intro w hSw
                  have p0 := hSw.cell EV.out.e (by simp; exact ⟨N1.out.2.2, N2.out.2.2⟩)
                  have p1 := hSw.cell D1.out (by simp; exact ⟨N1.out.1, N2.out.1⟩)
                  have p2 := hSw.cell D2.out (by simp; exact ⟨N1.out.1, N2.out.1⟩)
                  have p3 := hSw.cell C23.out (by simp; exact ⟨N1.out.2.1, N2.out.2.1⟩)
                  go_simp
                  (try with_reducible rfl)
                (try simp only [Act.put, List.setIfInBounds_toArray, List.set_cons_zero, List.set_cons_succ])
                refine wpAnyT_take 18 (v := ?vd18) rfl (by kernel_rfl) (fun _ _ _ h => h) (Or.inl ⟨by rfl, ?yd18⟩) hS ?rd18
                case yd18 =>
                  intro w hSw
                  have p0 := hSw.cell EV.out.e (by simp; exact ⟨N1.out.2.2, N2.out.2.2⟩)
                  have p1 := hSw.cell D1.out (by simp; exact ⟨N1.out.1, N2.out.1⟩)
                  have p2 := hSw.cell D2.out (by simp; exact ⟨N1.out.1, N2.out.1⟩)
                  have p3 := hSw.cell C23.out (by simp; exact ⟨N1.out.2.1, N2.out.2.1⟩)
                  go_simp
                  (try with_reducible rfl)
                (try simp only [Act.put, List.setIfInBounds_toArray, List.set_cons_zero, List.set_cons_succ])
                refine wpAnyT_take 19 (v := ?vd19) rfl (by kernel_rfl) (fun _ _ _ h => h) (Or.inl ⟨by rfl, ?yd19⟩) hS ?rd19
                case yd19 =>
                  intro w hSw
                  have p0 := hSw.cell EV.out.e (by simp; exact ⟨N1.out.2.2, N2.out.2.2⟩)
                  have p1 := hSw.cell D1.out (by simp; exact ⟨N1.out.1, N2.out.1⟩)
                  have p2 := hSw.cell D2.out (by simp; exact ⟨N1.out.1, N2.out.1⟩)
                  have p3 := hSw.cell C23.out (by simp; exact ⟨N1.out.2.1, N2.out.2.1⟩)
                  go_simp
                  (try with_reducible rfl)
                (try simp only [Act.put, List.setIfInBounds_toArray, List.set_cons_zero, List.set_cons_succ])
                have i1d := I1.out.only HD5.out (by simp)
                have EV1 := (EV.out.step HD5.out).poke i1d GN.out.1 ev
                have i2d := (I2.out.only HD5.out (by simp)).poke g1 r' ev
                obtain ⟨za, ca⟩ := i1d.cell
                have fa := i1d.frozen
                refine wpAnyT_call 20 rfl (by kernel_rfl) (fun J hJ => ?_)
                go_simp
                refine hJ.out _ _ (hS) ?_
                clear hJ J
                (try simp only [Act.put, List.setIfInBounds_toArray, List.set_cons_zero, List.set_cons_succ])
                refine wpAnyT_call 21 rfl (by kernel_rfl) (fun J hJ => ?_)
                go_simp
                refine hJ.out _ _ (hS.setCell (.inl (by simp)) _) ?_
                clear hJ J ca fa
                (try simp only [Act.put, List.setIfInBounds_toArray, List.set_cons_zero, List.set_cons_succ])
                have S6 := hS.setCell (p := ⟨g1, r', none⟩) (.inl (by simp)) (.int .i64 ev)
                obtain ⟨v6, hv6⟩ : ∃ W, W = vd5.setCell ⟨g1, r', none⟩ (.int .i64 ev) := ⟨_, rfl⟩
                rw [← hv6] at EV1 i2d S6 ⊢
                clear hv6 hS i1d
                have EV2 := hid (EV1.poke i2d GN.out.2 ev)
                obtain ⟨zb, cb⟩ := i2d.cell
                have fb := i2d.frozen
                refine wpAnyT_call 22 rfl (by kernel_rfl) (fun J hJ => ?_)
                go_simp
                refine hJ.out _ _ (S6) ?_
                clear hJ J
                (try simp only [Act.put, List.setIfInBounds_toArray, List.set_cons_zero, List.set_cons_succ])
                refine wpAnyT_call 23 rfl (by kernel_rfl) (fun J hJ => ?_)
                go_simp
                refine hJ.out _ _ (S6) ?_
                clear hJ J
                (try simp only [Act.put, List.setIfInBounds_toArray, List.set_cons_zero, List.set_cons_succ])
                refine wpAnyT_tail _ rfl (by kernel_rfl) ?_
                simp only [List.drop_succ_cons, List.drop_zero]
                clear EV1 i2d S6
                go_upto_region 22 with fail
                clear cb fb
                obtain ⟨v7, hv7⟩ : ∃ W, W = v6.setCell ⟨g2, 1, none⟩ (.int .i64 ev) := ⟨_, rfl⟩
                rw [← hv7] at EV2 ⊢
                clear hv7 z1 z2 y5 y6 wr' za zb
                have c27 := EV2.out.m.cell (i := 27) (v := s3.sl) rfl
                rw [ES3.out] at c27
                by_cases h3 : nB = 0
                · have z3 : ¬ (0 : Int) < (nB : Int) := by omega
                  clear h3
                  go_upto_region 25 with fail
                  obtain ⟨LE, hLE, hOK⟩ := EV2.out.ok
                  have XLE := hid hLE
                  have XOK := hid hOK
                  clear hLE hOK
                  go_upto_region 26 with fail
                  go_loopg [9] 8 (fun g t wx => ∃ k : Nat, k + g = 8 ∧ t = .int .i64 k ∧ Only [] v7 wx)
                  case atStart => exact ⟨0, rfl, rfl, Only.refl _ _⟩
                  case round =>
                    obtain ⟨k, hk, rfl, hO8⟩ := hrel
                    have O8 := hid hO8
                    have kk0 : (0 : Int) ≤ (k : Int) := by omega
                    clear hO8
                    by_cases hg : gk = 0
                    · have kk1 : ¬ (k : Int) < 8 := by omega
                      clear hk hg
                      have OE := hid (EV2.out.o.trans O8.out)
                      go_wp2_with fail
                      go_roundg g3
                      case measure => omega
                      case rel => exact ⟨i + 1, KN.out, by go_num, OE.out⟩
                    · obtain ⟨g4, rfl⟩ : ∃ gg, gk = gg + 1 := ⟨gk - 1, by omega⟩
                      have KK := hid (show k + 1 + g4 = 8 by omega)
                      have kk1 : (k : Int) < 8 := by omega
                      obtain ⟨el, hel⟩ : ∃ e, LE[k]? = some e := ⟨_, List.getElem?_eq_getElem (by have := XLE.out.n; omega)⟩
                      have HOK := XOK.out el (List.mem_of_getElem? hel)
                      have EL := hid (O8.out.cell EV2.out.e (by simp))
                      have LX := hid (fun w' (o : Only [] wr w') => (XLE.out.step (O8.out.trans o) (by simp)).load hel)
                      have CK := hid (fun w' (o : Only [] wr w') => mbchecks_any awake13_any el.1 el.2.1.sl el.2.2.1.sl el.2.2.2.sl ev w' (V.out _ ((EV2.out.o.trans O8.out).trans o)) HOK.i (HOK.m.only0 (O8.out.trans o)) HOK.b HOK.p)
                      clear hk hg hel HOK
                      go_upto_region 28 with fail
                      refine wp_region_heldH (fun w' => Only [] wr w') 10 (by kernel_rfl) rfl (Only.refl [] wr).drew (fun hS => ?_)
                      generalize wr.drew = wdd at *
                      refine wpAnyH_read 0 (v := ?va721) rfl (by kernel_rfl) (by kernel_rfl) (by kernel_rfl) (fun _ _ _ h => h) hS (Or.inl ⟨by rfl, ?ya721⟩) ?ra721
                      case ya721 =>
                        intro w hSw
                        have p0 := hSw.cell EL.out (by simp)
                        go_simp
                        (try with_reducible rfl)
                      (try simp only [Act.put, List.setIfInBounds_toArray, List.set_cons_zero, List.set_cons_succ])
                      refine wpAnyH_read 1 (v := ?va722) rfl (by kernel_rfl) (by kernel_rfl) (by kernel_rfl) (fun _ _ _ h => h) hS (Or.inl ⟨by rfl, ?ya722⟩) ?ra722
                      case ya722 =>
                        intro w hSw
                        have p0 := hSw.cell EL.out (by simp)
                        go_simp
                        (try with_reducible rfl)
                      (try simp only [Act.put, List.setIfInBounds_toArray, List.set_cons_zero, List.set_cons_succ])
                      refine wpAnyH_read 2 (v := ?va723) rfl (by kernel_rfl) (by kernel_rfl) (by kernel_rfl) (fun _ _ _ h => h) hS (Or.inl ⟨by rfl, ?ya723⟩) ?ra723
                      case ya723 =>
                        intro w hSw
                        have p0 := hSw.cell EL.out (by simp)
                        go_simp
                        (try with_reducible rfl)
                      (try simp only [Act.put, List.setIfInBounds_toArray, List.set_cons_zero, List.set_cons_succ])
                      refine wpAnyH_read 3 rfl (by kernel_rfl) (by kernel_rfl) (by kernel_rfl) (fun _ _ _ h => h) hS (yields_load 28 _ (by rfl) rfl ⟨qb, k * 29, none⟩ (elC el) rfl (fun w' o => (LX.out w' o))) ?_
                      (try simp only [Act.put, List.setIfInBounds_toArray, List.set_cons_zero, List.set_cons_succ])
                      refine wpAnyH_read 4 (v := ?va724) rfl (by kernel_rfl) (by kernel_rfl) (by kernel_rfl) (fun _ _ _ h => h) hS (Or.inl ⟨by rfl, ?ya724⟩) ?ra724
                      case ya724 =>
                        intro w hSw
                        have p0 := hSw.cell EL.out (by simp)
                        go_simp
                        (try with_reducible rfl)
                      (try simp only [Act.put, List.setIfInBounds_toArray, List.set_cons_zero, List.set_cons_succ])
                      refine wpAnyH_read 5 (v := ?va725) rfl (by kernel_rfl) (by kernel_rfl) (by kernel_rfl) (fun _ _ _ h => h) hS (Or.inl ⟨by rfl, ?ya725⟩) ?ra725
                      case ya725 =>
                        intro w hSw
                        have p0 := hSw.cell EL.out (by simp)
                        go_simp
                        (try with_reducible rfl)
                      (try simp only [Act.put, List.setIfInBounds_toArray, List.set_cons_zero, List.set_cons_succ])
                      refine wpAnyH_read 6 (v := ?va726) rfl (by kernel_rfl) (by kernel_rfl) (by kernel_rfl) (fun _ _ _ h => h) hS (Or.inl ⟨by rfl, ?ya726⟩) ?ra726
                      case ya726 =>
                        intro w hSw
                        have p0 := hSw.cell EL.out (by simp)
                        go_simp
                        (try with_reducible rfl)
                      (try simp only [Act.put, List.setIfInBounds_toArray, List.set_cons_zero, List.set_cons_succ])
                      refine wpAnyH_read 7 (v := ?va727) rfl (by kernel_rfl) (by kernel_rfl) (by kernel_rfl) (fun _ _ _ h => h) hS (Or.inl ⟨by rfl, ?ya727⟩) ?ra727
                      case ya727 =>
                        intro w hSw
                        have p0 := hSw.cell EL.out (by simp)
                        go_simp
                        (try with_reducible rfl)
                      (try simp only [Act.put, List.setIfInBounds_toArray, List.set_cons_zero, List.set_cons_succ])
                      refine wpAnyH_call 8 rfl (by kernel_rfl) (fun J hJ => ?_)
                      rw [if_pos (by rfl)]
                      go_simp
                      refine (CK.out _ hS).mono ?_
                      rintro e z8 ⟨rfl, p_⟩
                      have s8 := hS.trans p_
                      clear p_
                      refine hJ.out _ _ s8 ?_
                      clear hJ J
                      (try simp only [Act.put, List.setIfInBounds_toArray, List.set_cons_zero, List.set_cons_succ])
                      refine wpAnyH_read 9 (v := ?va728) rfl (by kernel_rfl) (by kernel_rfl) (by kernel_rfl) (fun _ _ _ h => h) s8 (Or.inl ⟨by rfl, ?ya728⟩) ?ra728
                      case ya728 =>
                        intro w hSw
                        have p0 := hSw.cell EL.out (by simp)
                        go_simp
                        (try with_reducible rfl)
                      (try simp only [Act.put, List.setIfInBounds_toArray, List.set_cons_zero, List.set_cons_succ])
                      refine wpAnyH_done (by kernel_rfl) ?_ _
                      have O9 := hid (O8.out.trans s8)
                      clear s8 hS
                      go_wp2_with fail
                      go_roundg g4
                      case measure => omega
                      case rel => exact ⟨k + 1, KK.out, by go_num, O9.out⟩
                · obtain ⟨n3, e3⟩ : ∃ m, nB = m + 1 := ⟨nB - 1, by omega⟩
                  have z3 : (0 : Int) < (nB : Int) := by omega
                  have z4 : (nB : Int) - 1 = (n3 : Int) := by omega
                  have z5 : (n3 : Int) < (nB : Int) := by omega
                  have z6 : (0 : Int) ≤ (n3 : Int) := by omega
                  have w3' : IntKind.i64.wrap (n3 : Int) = (n3 : Int) := IntWalk.i64_in _ (by have := NB27.out; omega)
                  obtain ⟨g', k', q', m', d', cur, ec, hb, hc, m2, i3, _, nq⟩ := EV2.out.t3.b (by rw [← HNB.out]; omega)
                  have hd3 := EV2.out.d3
                  rw [ec, ← HNB.out] at hd3
                  have D3 := hid (show v7.cell? ⟨qb, 114, none⟩ = some (.slice (some ⟨g', 0, none⟩) nB k') from hd3)
                  have BC3 := hid (show v7.cell? ⟨g', n3, none⟩ = some (.slice (some ⟨q', 0, none⟩) m' d') from hb.cell (by rw [← HNB.out, e3] at hc; exact hc))
                  have mm : (1 : Int) < (m' : Int) := by omega
                  have I3 := hid i3
                  have NQ := hid nq
                  clear hb hc ec hd3 i3 nq h3 e3 m2
                  go_upto_region 24 with fail
                  refine wp_region_tail (fun w' => Only [] v7 w') 13 14 (by kernel_rfl) rfl ((Only.refl _ _).drew) (fun hS => ?_)
                  have HD3 := hid (show Only [] v7 v7.drew from (Only.refl _ _).drew)
                  generalize v7.drew = vd at *
                  refine wpAnyT_take 0 (v := ?vf0) rfl (by kernel_rfl) (fun _ _ _ h => h) (Or.inl ⟨by rfl, ?yf0⟩) hS ?rf0
                  case yf0 =>
                    intro w hSw
                    have p0 := hSw.cell EV2.out.e (by simp)
                    have p1 := hSw.cell D3.out (by simp)
                    have p2 := hSw.cell BC3.out (by simp)
                    go_simp
                    (try with_reducible rfl)
                  (try simp only [Act.put, List.setIfInBounds_toArray, List.set_cons_zero, List.set_cons_succ])
                  refine wpAnyT_take 1 (v := ?vf1) rfl (by kernel_rfl) (fun _ _ _ h => h) (Or.inl ⟨by rfl, ?yf1⟩) hS ?rf1
                  case yf1 =>
                    intro w hSw
                    have p0 := hSw.cell EV2.out.e (by simp)
                    have p1 := hSw.cell D3.out (by simp)
                    have p2 := hSw.cell BC3.out (by simp)
                    go_simp
                    (try with_reducible rfl)
                  (try simp only [Act.put, List.setIfInBounds_toArray, List.set_cons_zero, List.set_cons_succ])
                  refine wpAnyT_take 2 (v := ?vf2) rfl (by kernel_rfl) (fun _ _ _ h => h) (Or.inl ⟨by rfl, ?yf2⟩) hS ?rf2
                  case yf2 =>
                    intro w hSw
                    have p0 := hSw.cell EV2.out.e (by simp)
                    have p1 := hSw.cell D3.out (by simp)
                    have p2 := hSw.cell BC3.out (by simp)
                    go_simp
                    (try with_reducible rfl)
                  (try simp only [Act.put, List.setIfInBounds_toArray, List.set_cons_zero, List.set_cons_succ])
                  refine wpAnyT_take 3 (v := ?vf3) rfl (by kernel_rfl) (fun _ _ _ h => h) (Or.inl ⟨by rfl, ?yf3⟩) hS ?rf3
                  case yf3 =>
                    intro w hSw
                    have p0 := hSw.cell EV2.out.e (by simp)
                    have p1 := hSw.cell D3.out (by simp)
                    have p2 := hSw.cell BC3.out (by simp)
                    go_simp
                    (try with_reducible rfl)
                  (try simp only [Act.put, List.setIfInBounds_toArray, List.set_cons_zero, List.set_cons_succ])
                  refine wpAnyT_take 4 (v := ?vf4) rfl (by kernel_rfl) (fun _ _ _ h => h) (Or.inl ⟨by rfl, ?yf4⟩) hS ?rf4
                  case yf4 =>
                    intro w hSw
                    have p0 := hSw.cell EV2.out.e (by simp)
                    have p1 := hSw.cell D3.out (by simp)
                    have p2 := hSw.cell BC3.out (by simp)
                    go_simp
                    (try with_reducible rfl)
                  (try simp only [Act.put, List.setIfInBounds_toArray, List.set_cons_zero, List.set_cons_succ])
                  refine wpAnyT_take 5 (v := ?vf5) rfl (by kernel_rfl) (fun _ _ _ h => h) (Or.inl ⟨by rfl, ?yf5⟩) hS ?rf5
                  case yf5 =>
                    intro w hSw
                    have p0 := hSw.cell EV2.out.e (by simp)
                    have p1 := hSw.cell D3.out (by simp)
                    have p2 := hSw.cell BC3.out (by simp)
                    go_simp
                    (try with_reducible rfl)
                  (try simp only [Act.put, List.setIfInBounds_toArray, List.set_cons_zero, List.set_cons_succ])
                  refine wpAnyT_take 6 (v := ?vf6) rfl (by kernel_rfl) (fun _ _ _ h => h) (Or.inl ⟨by rfl, ?yf6⟩) hS ?rf6
                  case yf6 =>
                    intro w hSw
                    have p0 := hSw.cell EV2.out.e (by simp)
                    have p1 := hSw.cell D3.out (by simp)
                    have p2 := hSw.cell BC3.out (by simp)
                    go_simp
                    (try with_reducible rfl)
                  (try simp only [Act.put, List.setIfInBounds_toArray, List.set_cons_zero, List.set_cons_succ])
                  refine wpAnyT_take 7 (v := ?vf7) rfl (by kernel_rfl) (fun _ _ _ h => h) (Or.inl ⟨by rfl, ?yf7⟩) hS ?rf7
                  case yf7 =>
                    intro w hSw
                    have p0 := hSw.cell EV2.out.e (by simp)
                    have p1 := hSw.cell D3.out (by simp)
                    have p2 := hSw.cell BC3.out (by simp)
                    go_simp
                    (try with_reducible rfl)
                  (try simp only [Act.put, List.setIfInBounds_toArray, List.set_cons_zero, List.set_cons_succ])
                  refine wpAnyT_take 8 (v := ?vf8) rfl (by kernel_rfl) (fun _ _ _ h => h) (Or.inl ⟨by rfl, ?yf8⟩) hS ?rf8
                  case yf8 =>
                    intro w hSw
                    have p0 := hSw.cell EV2.out.e (by simp)
                    have p1 := hSw.cell D3.out (by simp)
                    have p2 := hSw.cell BC3.out (by simp)
                    go_simp
                    (try with_reducible rfl)
                  (try simp only [Act.put, List.setIfInBounds_toArray, List.set_cons_zero, List.set_cons_succ])
                  refine wpAnyT_take 9 (v := ?vf9) rfl (by kernel_rfl) (fun _ _ _ h => h) (Or.inl ⟨by rfl, ?yf9⟩) hS ?rf9
                  case yf9 =>
                    intro w hSw
                    have p0 := hSw.cell EV2.out.e (by simp)
                    have p1 := hSw.cell D3.out (by simp)
                    have p2 := hSw.cell BC3.out (by simp)
                    go_simp
                    (try with_reducible rfl)
                  (try simp only [Act.put, List.setIfInBounds_toArray, List.set_cons_zero, List.set_cons_succ])
                  refine wpAnyT_take 10 (v := ?vf10) rfl (by kernel_rfl) (fun _ _ _ h => h) (Or.inl ⟨by rfl, ?yf10⟩) hS ?rf10
                  case yf10 =>
                    intro w hSw
                    have p0 := hSw.cell EV2.out.e (by simp)
                    have p1 := hSw.cell D3.out (by simp)
                    have p2 := hSw.cell BC3.out (by simp)
                    go_simp
                    (try with_reducible rfl)
                  (try simp only [Act.put, List.setIfInBounds_toArray, List.set_cons_zero, List.set_cons_succ])
                  refine wpAnyT_take 11 (v := ?vf11) rfl (by kernel_rfl) (fun _ _ _ h => h) (Or.inl ⟨by rfl, ?yf11⟩) hS ?rf11
                  case yf11 =>
                    intro w hSw
                    have p0 := hSw.cell EV2.out.e (by simp)
                    have p1 := hSw.cell D3.out (by simp)
                    have p2 := hSw.cell BC3.out (by simp)
                    go_simp
                    (try with_reducible rfl)
                  (try simp only [Act.put, List.setIfInBounds_toArray, List.set_cons_zero, List.set_cons_succ])
                  refine wpAnyT_take 12 (v := ?vf12) rfl (by kernel_rfl) (fun _ _ _ h => h) (Or.inl ⟨by rfl, ?yf12⟩) hS ?rf12
                  case yf12 =>
                    intro w hSw
                    have p0 := hSw.cell EV2.out.e (by simp)
                    have p1 := hSw.cell D3.out (by simp)
                    have p2 := hSw.cell BC3.out (by simp)
                    go_simp
                    (try with_reducible rfl)
                  (try simp only [Act.put, List.setIfInBounds_toArray, List.set_cons_zero, List.set_cons_succ])
                  have id3 := I3.out.only HD3.out (by simp)
                  obtain ⟨zz, c0⟩ := id3.cell
                  have f0 := id3.frozen
                  have EVN := hid ((EV2.out.step HD3.out).poke id3 NQ.out ev)
                  refine wpAnyT_tail _ rfl (by kernel_rfl) ?_
                  simp only [List.drop_succ_cons, List.drop_zero]
                  clear id3 hS
                  go_upto_region 25 with fail
                  clear c0 f0 c27
                  obtain ⟨vn, hvn⟩ : ∃ W, W = vd.setCell ⟨q', 1, none⟩ (.int .i64 ev) := ⟨_, rfl⟩
                  rw [← hvn] at EVN ⊢
                  (try rw [show decide ((0 : Int) < (nB : Int)) = true from decide_eq_true z3])
                  (try rw [show decide (0 < nB) = true from decide_eq_true (by omega)])
                  clear hvn z3 z4 z5 z6 w3' mm zz
                  obtain ⟨LE, hLE, hOK⟩ := EVN.out.ok
                  have XLE := hid hLE
                  have XOK := hid hOK
                  clear hLE hOK
                  go_upto_region 26 with fail
                  go_loopg [9] 8 (fun g t wx => ∃ k : Nat, k + g = 8 ∧ t = .int .i64 k ∧ Only [] vn wx)
                  case atStart => exact ⟨0, rfl, rfl, Only.refl _ _⟩
                  case round =>
                    obtain ⟨k, hk, rfl, hO8⟩ := hrel
                    have O8 := hid hO8
                    have kk0 : (0 : Int) ≤ (k : Int) := by omega
                    clear hO8
                    by_cases hg : gk = 0
                    · have kk1 : ¬ (k : Int) < 8 := by omega
                      clear hk hg
                      have OE := hid (EVN.out.o.trans O8.out)
                      go_wp2_with fail
                      go_roundg g3
                      case measure => omega
                      case rel => exact ⟨i + 1, KN.out, by go_num, OE.out⟩
                    · obtain ⟨g4, rfl⟩ : ∃ gg, gk = gg + 1 := ⟨gk - 1, by omega⟩
                      have KK := hid (show k + 1 + g4 = 8 by omega)
                      have kk1 : (k : Int) < 8 := by omega
                      obtain ⟨el, hel⟩ : ∃ e, LE[k]? = some e := ⟨_, List.getElem?_eq_getElem (by have := XLE.out.n; omega)⟩
                      have HOK := XOK.out el (List.mem_of_getElem? hel)
                      have EL := hid (O8.out.cell EVN.out.e (by simp))
                      have LX := hid (fun w' (o : Only [] wr w') => (XLE.out.step (O8.out.trans o) (by simp)).load hel)
                      have CK := hid (fun w' (o : Only [] wr w') => mbchecks_any awake13_any el.1 el.2.1.sl el.2.2.1.sl el.2.2.2.sl ev w' (V.out _ ((EVN.out.o.trans O8.out).trans o)) HOK.i (HOK.m.only0 (O8.out.trans o)) HOK.b HOK.p)
                      clear hk hg hel HOK
                      go_upto_region 28 with fail
                      refine wp_region_heldH (fun w' => Only [] wr w') 10 (by kernel_rfl) rfl (Only.refl [] wr).drew (fun hS => ?_)
                      generalize wr.drew = wdd at *
                      refine wpAnyH_read 0 (v := ?va761) rfl (by kernel_rfl) (by kernel_rfl) (by kernel_rfl) (fun _ _ _ h => h) hS (Or.inl ⟨by rfl, ?ya761⟩) ?ra761
                      case ya761 =>
                        intro w hSw
                        have p0 := hSw.cell EL.out (by simp)
                        go_simp
                        (try with_reducible rfl)
                      (try simp only [Act.put, List.setIfInBounds_toArray, List.set_cons_zero, List.set_cons_succ])
                      refine wpAnyH_read 1 (v := ?va762) rfl (by kernel_rfl) (by kernel_rfl) (by kernel_rfl) (fun _ _ _ h => h) hS (Or.inl ⟨by rfl, ?ya762⟩) ?ra762
                      case ya762 =>
                        intro w hSw
                        have p0 := hSw.cell EL.out (by simp)
                        go_simp
                        (try with_reducible rfl)
                      (try simp only [Act.put, List.setIfInBounds_toArray, List.set_cons_zero, List.set_cons_succ])
                      refine wpAnyH_read 2 (v := ?va763) rfl (by kernel_rfl) (by kernel_rfl) (by kernel_rfl) (fun _ _ _ h => h) hS (Or.inl ⟨by rfl, ?ya763⟩) ?ra763
                      case ya763 =>
                        intro w hSw
                        have p0 := hSw.cell EL.out (by simp)
                        go_simp
                        (try with_reducible rfl)
                      (try simp only [Act.put, List.setIfInBounds_toArray, List.set_cons_zero, List.set_cons_succ])
                      refine wpAnyH_read 3 rfl (by kernel_rfl) (by kernel_rfl) (by kernel_rfl) (fun _ _ _ h => h) hS (yields_load 28 _ (by rfl) rfl ⟨qb, k * 29, none⟩ (elC el) rfl (fun w' o => (LX.out w' o))) ?_
                      (try simp only [Act.put, List.setIfInBounds_toArray, List.set_cons_zero, List.set_cons_succ])
                      refine wpAnyH_read 4 (v := ?va764) rfl (by kernel_rfl) (by kernel_rfl) (by kernel_rfl) (fun _ _ _ h => h) hS (Or.inl ⟨by rfl, ?ya764⟩) ?ra764
                      case ya764 =>
                        intro w hSw
                        have p0 := hSw.cell EL.out (by simp)
                        go_simp
                        (try with_reducible rfl)
                      (try simp only [Act.put, List.setIfInBounds_toArray, List.set_cons_zero, List.set_cons_succ])
                      refine wpAnyH_read 5 (v := ?va765) rfl (by kernel_rfl) (by kernel_rfl) (by kernel_rfl) (fun _ _ _ h => h) hS (Or.inl ⟨by rfl, ?ya765⟩) ?ra765
                      case ya765 =>
                        intro w hSw
                        have p0 := hSw.cell EL.out (by simp)
                        go_simp
                        (try with_reducible rfl)
                      (try simp only [Act.put, List.setIfInBounds_toArray, List.set_cons_zero, List.set_cons_succ])
                      refine wpAnyH_read 6 (v := ?va766) rfl (by kernel_rfl) (by kernel_rfl) (by kernel_rfl) (fun _ _ _ h => h) hS (Or.inl ⟨by rfl, ?ya766⟩) ?ra766
                      case ya766 =>
                        intro w hSw
                        have p0 := hSw.cell EL.out (by simp)
                        go_simp
                        (try with_reducible rfl)
                      (try simp only [Act.put, List.setIfInBounds_toArray, List.set_cons_zero, List.set_cons_succ])
                      refine wpAnyH_read 7 (v := ?va767) rfl (by kernel_rfl) (by kernel_rfl) (by kernel_rfl) (fun _ _ _ h => h) hS (Or.inl ⟨by rfl, ?ya767⟩) ?ra767
                      case ya767 =>
                        intro w hSw
                        have p0 := hSw.cell EL.out (by simp)
                        go_simp
                        (try with_reducible rfl)
                      (try simp only [Act.put, List.setIfInBounds_toArray, List.set_cons_zero, List.set_cons_succ])
                      refine wpAnyH_call 8 rfl (by kernel_rfl) (fun J hJ => ?_)
                      rw [if_pos (by rfl)]
                      go_simp
                      refine (CK.out _ hS).mono ?_
                      rintro e z8 ⟨rfl, p_⟩
                      have s8 := hS.trans p_
                      clear p_
                      refine hJ.out _ _ s8 ?_
                      clear hJ J
                      (try simp only [Act.put, List.setIfInBounds_toArray, List.set_cons_zero, List.set_cons_succ])
                      refine wpAnyH_read 9 (v := ?va768) rfl (by kernel_rfl) (by kernel_rfl) (by kernel_rfl) (fun _ _ _ h => h) s8 (Or.inl ⟨by rfl, ?ya768⟩) ?ra768
                      case ya768 =>
                        intro w hSw
                        have p0 := hSw.cell EL.out (by simp)
                        go_simp
                        (try with_reducible rfl)
                      (try simp only [Act.put, List.setIfInBounds_toArray, List.set_cons_zero, List.set_cons_succ])
                      refine wpAnyH_done (by kernel_rfl) ?_ _
                      have O9 := hid (O8.out.trans s8)
                      clear s8 hS
                      go_wp2_with fail
                      go_roundg g4
                      case measure => omega
                      case rel => exact ⟨k + 1, KK.out, by go_num, O9.out⟩
        · obtain ⟨g2, rfl⟩ : ∃ gg, gk = gg + 1 := ⟨gk - 1, by omega⟩
          have JN := hid (show j + 1 + g2 = 256 by omega)
          have j1 : (j : Int) < 256 := by omega
          have wj : IntKind.u8.wrap (j : Int) = (j : Int) := u8_in _ (by omega)
          have CB := hid (show 0 ≤ (j : Int) ∧ (j : Int) ≤ 255 by omega)
          clear hj hg
          go_wp2_with fail
          refine (PL.out K HK.out ((j : Int)) CB.out _ OO.out).mono ?_
          rintro e x1 ⟨rv, vv, bv, rfl, ho⟩
          have one1 := ho.m.at.one
          have HO := hid ho
          have X1 := hid (OO.out.trans ho.m.only)
          clear ho
          obtain ⟨Y, hY⟩ : ∃ Y, Y = plainM ((K : Int) % 8) ((j : Int)) := ⟨_, rfl⟩
          rw [← hY] at HO ⊢
          have HY := hid hY
          clear hY
          unfold mV
          go_upto_region 9 with (refine store_blk rfl 28 (.tmp 4) (.tmp 22) rfl x1.heap.size 0 _ _ (mC Y rv vv bv) rfl rfl (info_mb' _ _ _ _) (Blk.new x1 _ _) (by simp [mC]) (one_mC Y one1.1 one1.2.1 one1.2.2) ?_; intro x2 hB2 hO2)
          rw [setsA_full (by simp [mC])] at hB2
          have o12 : Only [] x1 x2 := ((Only.refl [] x1).alloc _).trans2 hO2 (fun g hg => .inr (by simp at hg; omega))
          obtain ⟨q, hq⟩ : ∃ q, q = x1.heap.size := ⟨_, rfl⟩
          have QN := hid (show w.heap.size ≤ q from by rw [hq]; exact X1.out.size)
          rw [← hq] at hB2 ⊢
          have BQ := hid hB2
          have RA := hid (HO.out.m.rat.step o12)
          have X2 := hid (X1.out.trans o12)
          clear hB2 hO2 o12 hq one1 HO
          have FI := hid (show MIn Y ∧ MFew Y ∧ Y.pcm.size ≤ maxLen from by
            rw [HY.out]
            exact ⟨pl_in _ _ (by omega) (by omega) CB.out.1 CB.out.2, pl_few _ _, by have := pl_pcmv ((K : Int) % 8) (j : Int); split at this <;> (unfold maxLen; omega)⟩)
          have MBK := hid (fun c (cat : Int) h0 h1 => mbblocks_any awake13_any Y rv vv bv c cat x2 (V.out _ X2.out) FI.out.1 RA.out.at (fun l hl => by have := FI.out.2.1.i l hl; omega) FI.out.2.2 h0 h1)
          unfold mV at MBK
          go_wp2_with (refine load_atG (by kernel_rfl) 28 (.tmp 4) rfl ⟨q, 0, none⟩ (mC Y rv vv bv) rfl (BQ.out).mb ?_; simp only [Act.put, List.setIfInBounds_toArray, List.set_cons_zero, List.set_cons_succ])
          refine (MBK.out (_, _, _) _ (by omega) (by omega)).mono ?_
          rintro e x3 ⟨rfl, o3⟩
          have BQ3 := hid (BQ.out.only o3 (by simp))
          have RA3 := hid (RA.out.step o3)
          have X3 := hid (X2.out.trans o3)
          have c25 := BQ3.out.cell (i := 25) (v := .int .u8 Y.cbp) rfl
          have f25 := BQ3.out.frozen 25
          have BQ4 := hid (BQ3.out.set 25 (.int .u8 (j : Int)))
          rw [el_cbp] at BQ4
          have k4 : Only [q] x3 (x3.setCell ⟨q, 25, none⟩ (.int .u8 (j : Int))) := (Only.refl _ _).setCell (.inl (by simp)) _
          have RA4 := hid ((RA3.out.turn BQ3.out k4).at)
          have X4 := hid (X3.out.trans2 k4 (fun g hg => .inr (by have := QN.out; simp at hg; omega)))
          clear o3 k4 MBK
          go_upto_region 12 with fail
          clear c25 f25
          generalize x3.setCell _ _ = x4 at *
          have MCK := hid (fun r => mbchecks_any awake13_any { Y with cbp := (j : Int) } rv vv bv r x4 (V.out _ X4.out) ⟨FI.out.1.k0, FI.out.1.k1, FI.out.1.m0, FI.out.1.m1, FI.out.1.h0, FI.out.1.h1, FI.out.1.p, FI.out.1.s, CB.out.1, CB.out.2, FI.out.1.q0, FI.out.1.q1⟩ ⟨RA4.out.r, RA4.out.v, RA4.out.b⟩ (fun l hl => by have := FI.out.2.1.i l hl; omega) FI.out.2.2)
          unfold mV at MCK
          go_wp2_with (refine load_atG (by kernel_rfl) 28 (.tmp 4) rfl ⟨q, 0, none⟩ (mC { Y with cbp := (j : Int) } rv vv bv) rfl (BQ4.out).mb ?_; simp only [Act.put, List.setIfInBounds_toArray, List.set_cons_zero, List.set_cons_succ])
          refine (MCK.out _).mono ?_
          rintro e x5 ⟨rfl, o5⟩
          have X5 := hid (X4.out.trans o5)
          clear o5 MCK
          go_wp2_with fail
          go_roundg g2
          case measure => omega
          case rel => exact ⟨j + 1, JN.out, by go_num, X5.out⟩
end Go.Proofs.YtpmmnjeomdjakaaDoor

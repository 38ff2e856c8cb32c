/- NearMatches' same: what is found is the same. -/
import Derived.Test.YtfmfknjjhemnoaaNhB
import Derived.Test.YtfmfknjjhemnoaaNqB
import Derived.Test.YtfmfknjjhemnoaaNqD
import Derived.Test.YtfmfknjjhemnoaaNkA
namespace Go.Proofs.Ytfmfknjjhemnoaa
open Go.RowKit
set_option linter.unusedVariables false
set_option linter.unusedSimpArgs false

set_option maxRecDepth 1000000 in
set_option maxHeartbeats 4000000 in
theorem same_any {F G : Nat → Prop} {nb rb : Nat} {f wd : Int} {ms : List MV} (w : World) (h : NAt 59 F w nb f wd ms) (k : NAt 61 G w rb f wd ms) :
    Calls Try.prog 13 #[.pointer (some ⟨nb, 0, none⟩), .pointer (some ⟨rb, 0, none⟩)] w fun e w' => e = .returned (.bool true) ∧ Only [] w w' := by
  obtain ⟨sv, els, r⟩ := k.read
  obtain ⟨sa, sc, se, sl⟩ := r.sl
  have hn := k.n
  have f0 := k.f0
  have f1 := k.f1
  have HS := hid h.sm
  have S1 := hid (ans_small h (f + ms.length - 1))
  have S2 := hid (ans_small h (f + ms.length - wd))
  have S3 := hid (show MSm (ansM (leftO f wd ms)) from by
    unfold leftO
    split
    · exact msm_m0
    · exact S1.out)
  have LL := hid (fun w' (o : Only [] w w') => left_any w' (h.only0 o))
  have RL := hid (fun w' (o : Only [] w w') => rleft_any w' (k.only0 o))
  have LA := hid (fun w' (o : Only [] w w') => above_any w' (h.only0 o))
  have RA := hid (fun w' (o : Only [] w w') => rabove_any w' (k.only0 o))
  have LT := hid (fun w' (o : Only [] w w') => last_any w' (h.only0 o))
  have RT := hid (fun w' (o : Only [] w w') => rlast_any w' (k.only0 o))
  have NX := hid (fun w' (o : Only [] w w') => next_any w' (h.only0 o))
  have RX := hid (fun w' (o : Only [] w w') => rnext_any w' (k.only0 o))
  have MS := hid (fun w' (o : Only [] w w') => mbs_any w' (h.only0 o))
  have C2 := hid (fun w' (o : Only [] w w') => (r.b.only o (by simp)).cell (i := 2) (v := .slice sa ms.length sc) (by rw [← se]; rfl))
  have HR := hid (fun w' (o : Only [] w w') => r.h.only0 o)
  rw [se] at HR
  have HE := hid (fun w' (o : Only [] w w') e (he : e ∈ els) => (r.e e he).only0 o)
  have RM := hid r.m
  have LE := hid (show ms.length ≤ 10000 by omega)
  have eS1 : MSm (ansM (lastO f ms)) := S1.out
  have eS2 : MSm (ansM (aboveO f wd ms)) := S2.out
  have eS3 := S3.out
  have EL := hid eS3.len
  have EA := hid eS2.len
  have ET := hid eS1.len
  clear h k r se sl S1 S2 S3 eS1 eS2 eS3 hn
  obtain ⟨N, hN⟩ : ∃ N : Int, N = f + ms.length := ⟨_, rfl⟩
  rw [← hN] at NX RX
  clear hN
  generalize leftO f wd ms = ol at *
  generalize aboveO f wd ms = oa at *
  generalize lastO f ms = ot at *
  go_enter Try.func13, Try.ntmps13
  go_wp2_with fail
  refine (LL.out w (Only.refl [] w)).mono ?_
  rintro e v1 ⟨rv, vv, bv, rfl, ow⟩
  obtain ⟨a1, b1, c1, rfl, rfl, rfl⟩ := ow.at.sl
  have bz := blk_m0 v1
  have OV1 := hid ((Only.refl [] w).trans ow.only)
  have MV1 := hid ow.at
  have PV1 := hid ow.only
  obtain ⟨q1, hq⟩ : ∃ q, q = v1.heap.size := ⟨_, rfl⟩
  have one := hid (one_mC (ansM ol) (rv := a1.sl) (vv := b1.sl) (bv := c1.sl) rfl rfl rfl)
  clear ow
  unfold mV
  go_upto_region 2 with (refine store_blk rfl 40 (.tmp 5) (.tmp 20) rfl v1.heap.size 0 _ _ (mC (ansM ol) a1.sl b1.sl c1.sl) rfl rfl (info_mb' _ _ _ _) bz (by simp [mC]) one.out ?_; intro u1 hB2 hO2)
  rw [setsA_full (by simp [mC])] at hB2
  rw [← hq] at hB2 hO2 ⊢
  have W1 := hid (show Only [] v1 u1 from ((Only.refl [] v1).alloc _).trans2 hO2 (fun g hg => .inr (by simp at hg; omega)))
  have O1 := hid (OV1.out.trans W1.out)
  have P1 := hid (PV1.out.trans W1.out)
  have B1 := hid (fun w' (o : Only [] u1 w') => (hB2.only o (by simp)).mb)
  have M1 := hid (fun w' (o : Only [] u1 w') => MV1.out.only0 (W1.out.trans o))
  clear hq hB2 hO2 bz one MV1
  go_wp2_with fail
  refine (RL.out u1 (O1.out)).mono ?_
  rintro e v2 ⟨rv, vv, bv, rfl, ow⟩
  obtain ⟨a2, b2, c2, rfl, rfl, rfl⟩ := ow.at.sl
  have bz := blk_m0 v2
  have OV2 := hid ((O1.out).trans ow.only)
  have MV2 := hid ow.at
  have PV2 := hid ow.only
  obtain ⟨q2, hq⟩ : ∃ q, q = v2.heap.size := ⟨_, rfl⟩
  have one := hid (one_mC (ansM ol) (rv := a2.sl) (vv := b2.sl) (bv := c2.sl) rfl rfl rfl)
  clear ow
  unfold mV
  go_upto_region 3 with (refine store_blk rfl 40 (.tmp 7) (.tmp 25) rfl v2.heap.size 0 _ _ (mC (ansM ol) a2.sl b2.sl c2.sl) rfl rfl (info_mb' _ _ _ _) bz (by simp [mC]) one.out ?_; intro u2 hB2 hO2)
  rw [setsA_full (by simp [mC])] at hB2
  rw [← hq] at hB2 hO2 ⊢
  have W2 := hid (show Only [] v2 u2 from ((Only.refl [] v2).alloc _).trans2 hO2 (fun g hg => .inr (by simp at hg; omega)))
  have O2 := hid (OV2.out.trans W2.out)
  have P2 := hid (PV2.out.trans W2.out)
  have B2 := hid (fun w' (o : Only [] u2 w') => (hB2.only o (by simp)).mb)
  have M2 := hid (fun w' (o : Only [] u2 w') => MV2.out.only0 (W2.out.trans o))
  clear hq hB2 hO2 bz one MV2
  go_wp2_with fail
  refine (LA.out u2 (O2.out)).mono ?_
  rintro e v3 ⟨rv, vv, bv, rfl, ow⟩
  obtain ⟨a3, b3, c3, rfl, rfl, rfl⟩ := ow.at.sl
  have bz := blk_m0 v3
  have OV3 := hid ((O2.out).trans ow.only)
  have MV3 := hid ow.at
  have PV3 := hid ow.only
  obtain ⟨q3, hq⟩ : ∃ q, q = v3.heap.size := ⟨_, rfl⟩
  have one := hid (one_mC (ansM oa) (rv := a3.sl) (vv := b3.sl) (bv := c3.sl) rfl rfl rfl)
  clear ow
  unfold mV
  go_upto_region 4 with (refine store_blk rfl 40 (.tmp 9) (.tmp 30) rfl v3.heap.size 0 _ _ (mC (ansM oa) a3.sl b3.sl c3.sl) rfl rfl (info_mb' _ _ _ _) bz (by simp [mC]) one.out ?_; intro u3 hB2 hO2)
  rw [setsA_full (by simp [mC])] at hB2
  rw [← hq] at hB2 hO2 ⊢
  have W3 := hid (show Only [] v3 u3 from ((Only.refl [] v3).alloc _).trans2 hO2 (fun g hg => .inr (by simp at hg; omega)))
  have O3 := hid (OV3.out.trans W3.out)
  have P3 := hid (PV3.out.trans W3.out)
  have B3 := hid (fun w' (o : Only [] u3 w') => (hB2.only o (by simp)).mb)
  have M3 := hid (fun w' (o : Only [] u3 w') => MV3.out.only0 (W3.out.trans o))
  clear hq hB2 hO2 bz one MV3
  go_wp2_with fail
  refine (RA.out u3 (O3.out)).mono ?_
  rintro e v4 ⟨rv, vv, bv, rfl, ow⟩
  obtain ⟨a4, b4, c4, rfl, rfl, rfl⟩ := ow.at.sl
  have bz := blk_m0 v4
  have OV4 := hid ((O3.out).trans ow.only)
  have MV4 := hid ow.at
  have PV4 := hid ow.only
  obtain ⟨q4, hq⟩ : ∃ q, q = v4.heap.size := ⟨_, rfl⟩
  have one := hid (one_mC (ansM oa) (rv := a4.sl) (vv := b4.sl) (bv := c4.sl) rfl rfl rfl)
  clear ow
  unfold mV
  go_upto_region 5 with (refine store_blk rfl 40 (.tmp 11) (.tmp 35) rfl v4.heap.size 0 _ _ (mC (ansM oa) a4.sl b4.sl c4.sl) rfl rfl (info_mb' _ _ _ _) bz (by simp [mC]) one.out ?_; intro u4 hB2 hO2)
  rw [setsA_full (by simp [mC])] at hB2
  rw [← hq] at hB2 hO2 ⊢
  have W4 := hid (show Only [] v4 u4 from ((Only.refl [] v4).alloc _).trans2 hO2 (fun g hg => .inr (by simp at hg; omega)))
  have O4 := hid (OV4.out.trans W4.out)
  have P4 := hid (PV4.out.trans W4.out)
  have B4 := hid (fun w' (o : Only [] u4 w') => (hB2.only o (by simp)).mb)
  have M4 := hid (fun w' (o : Only [] u4 w') => MV4.out.only0 (W4.out.trans o))
  clear hq hB2 hO2 bz one MV4
  go_wp2_with fail
  refine (LT.out u4 (O4.out)).mono ?_
  rintro e v5 ⟨rv, vv, bv, rfl, ow⟩
  obtain ⟨a5, b5, c5, rfl, rfl, rfl⟩ := ow.at.sl
  have bz := blk_m0 v5
  have OV5 := hid ((O4.out).trans ow.only)
  have MV5 := hid ow.at
  have PV5 := hid ow.only
  obtain ⟨q5, hq⟩ : ∃ q, q = v5.heap.size := ⟨_, rfl⟩
  have one := hid (one_mC (ansM ot) (rv := a5.sl) (vv := b5.sl) (bv := c5.sl) rfl rfl rfl)
  clear ow
  unfold mV
  go_upto_region 6 with (refine store_blk rfl 40 (.tmp 13) (.tmp 40) rfl v5.heap.size 0 _ _ (mC (ansM ot) a5.sl b5.sl c5.sl) rfl rfl (info_mb' _ _ _ _) bz (by simp [mC]) one.out ?_; intro u5 hB2 hO2)
  rw [setsA_full (by simp [mC])] at hB2
  rw [← hq] at hB2 hO2 ⊢
  have W5 := hid (show Only [] v5 u5 from ((Only.refl [] v5).alloc _).trans2 hO2 (fun g hg => .inr (by simp at hg; omega)))
  have O5 := hid (OV5.out.trans W5.out)
  have P5 := hid (PV5.out.trans W5.out)
  have B5 := hid (fun w' (o : Only [] u5 w') => (hB2.only o (by simp)).mb)
  have M5 := hid (fun w' (o : Only [] u5 w') => MV5.out.only0 (W5.out.trans o))
  clear hq hB2 hO2 bz one MV5
  go_wp2_with fail
  refine (RT.out u5 (O5.out)).mono ?_
  rintro e v6 ⟨rv, vv, bv, rfl, ow⟩
  obtain ⟨a6, b6, c6, rfl, rfl, rfl⟩ := ow.at.sl
  have bz := blk_m0 v6
  have OV6 := hid ((O5.out).trans ow.only)
  have MV6 := hid ow.at
  have PV6 := hid ow.only
  obtain ⟨q6, hq⟩ : ∃ q, q = v6.heap.size := ⟨_, rfl⟩
  have one := hid (one_mC (ansM ot) (rv := a6.sl) (vv := b6.sl) (bv := c6.sl) rfl rfl rfl)
  clear ow
  unfold mV
  go_upto_region 7 with (refine store_blk rfl 40 (.tmp 15) (.tmp 45) rfl v6.heap.size 0 _ _ (mC (ansM ot) a6.sl b6.sl c6.sl) rfl rfl (info_mb' _ _ _ _) bz (by simp [mC]) one.out ?_; intro u6 hB2 hO2)
  rw [setsA_full (by simp [mC])] at hB2
  rw [← hq] at hB2 hO2 ⊢
  have W6 := hid (show Only [] v6 u6 from ((Only.refl [] v6).alloc _).trans2 hO2 (fun g hg => .inr (by simp at hg; omega)))
  have O6 := hid (OV6.out.trans W6.out)
  have P6 := hid (PV6.out.trans W6.out)
  have B6 := hid (fun w' (o : Only [] u6 w') => (hB2.only o (by simp)).mb)
  have M6 := hid (fun w' (o : Only [] u6 w') => MV6.out.only0 (W6.out.trans o))
  clear hq hB2 hO2 bz one MV6
  have D1 := hid (fun w' (o : Only [] u6 w') => B1.out w' ((P2.out.trans (P3.out.trans (P4.out.trans (P5.out.trans (P6.out.trans o)))))))
  have D2 := hid (fun w' (o : Only [] u6 w') => B2.out w' ((P3.out.trans (P4.out.trans (P5.out.trans (P6.out.trans o))))))
  have D3 := hid (fun w' (o : Only [] u6 w') => B3.out w' ((P4.out.trans (P5.out.trans (P6.out.trans o)))))
  have D4 := hid (fun w' (o : Only [] u6 w') => B4.out w' ((P5.out.trans (P6.out.trans o))))
  have D5 := hid (fun w' (o : Only [] u6 w') => B5.out w' ((P6.out.trans o)))
  have D6 := hid (fun w' (o : Only [] u6 w') => B6.out w' (o))
  have E1 := hid (fun w' (o : Only [] u6 w') => M1.out w' ((P2.out.trans (P3.out.trans (P4.out.trans (P5.out.trans (P6.out.trans o)))))))
  have E2 := hid (fun w' (o : Only [] u6 w') => M2.out w' ((P3.out.trans (P4.out.trans (P5.out.trans (P6.out.trans o))))))
  have E3 := hid (fun w' (o : Only [] u6 w') => M3.out w' ((P4.out.trans (P5.out.trans (P6.out.trans o)))))
  have E4 := hid (fun w' (o : Only [] u6 w') => M4.out w' ((P5.out.trans (P6.out.trans o))))
  have E5 := hid (fun w' (o : Only [] u6 w') => M5.out w' ((P6.out.trans o)))
  have E6 := hid (fun w' (o : Only [] u6 w') => M6.out w' (o))
  refine wp_region_heldH (fun w' => Only [] u6 w') 45 (by kernel_rfl) rfl (Only.refl [] u6).drew (fun hS => ?_)
  generalize u6.drew = wx at *
  refine wpAnyH_read 0 rfl (by kernel_rfl) (by kernel_rfl) (by kernel_rfl) (fun _ _ _ h => h) hS (yields_load 40 _ (by rfl) rfl ⟨q1, 0, none⟩ (mC (ansM ol) a1.sl b1.sl c1.sl) rfl (fun w h => D1.out w h)) ?_
  (try simp only [Act.put, List.setIfInBounds_toArray, List.set_cons_zero, List.set_cons_succ])
  refine wpAnyH_read 1 rfl (by kernel_rfl) (by kernel_rfl) (by kernel_rfl) (fun _ _ _ h => h) hS (yields_load 40 _ (by rfl) rfl ⟨q2, 0, none⟩ (mC (ansM ol) a2.sl b2.sl c2.sl) rfl (fun w h => D2.out w h)) ?_
  (try simp only [Act.put, List.setIfInBounds_toArray, List.set_cons_zero, List.set_cons_succ])
  refine wpAnyH_call 2 rfl (by kernel_rfl) (fun J hJ => ?_)
  rw [if_pos (by rfl)]
  go_simp
  refine (eqmb_same (ansM ol) a1.sl b1.sl c1.sl a2.sl b2.sl c2.sl _ (E1.out _ hS) (E2.out _ hS) EL.out).mono ?_
  rintro e x1 ⟨rfl, p_⟩
  have s1 := hS.trans p_
  clear p_
  refine hJ.out _ _ s1 ?_
  clear hJ J
  (try simp only [Act.put, List.setIfInBounds_toArray, List.set_cons_zero, List.set_cons_succ])
  refine wpAnyH_read 3 (v := ?va1) rfl (by kernel_rfl) (by kernel_rfl) (by kernel_rfl) (fun _ _ _ h => h) s1 (Or.inl ⟨by rfl, ?ya1⟩) ?ra1
  case ya1 =>
    intro w hSw
    have hc := C2.out w (O6.out.trans hSw)
    go_simp
    (try with_reducible rfl)
  (try simp only [Act.put, List.setIfInBounds_toArray, List.set_cons_zero, List.set_cons_succ])
  refine wpAnyH_read 4 (v := ?va2) rfl (by kernel_rfl) (by kernel_rfl) (by kernel_rfl) (fun _ _ _ h => h) s1 (Or.inl ⟨by rfl, ?ya2⟩) ?ra2
  case ya2 =>
    intro w hSw
    have hc := C2.out w (O6.out.trans hSw)
    go_simp
    (try with_reducible rfl)
  (try simp only [Act.put, List.setIfInBounds_toArray, List.set_cons_zero, List.set_cons_succ])
  refine wpAnyH_read 5 (v := ?va3) rfl (by kernel_rfl) (by kernel_rfl) (by kernel_rfl) (fun _ _ _ h => h) s1 (Or.inl ⟨by rfl, ?ya3⟩) ?ra3
  case ya3 =>
    intro w hSw
    have hc := C2.out w (O6.out.trans hSw)
    go_simp
    (try with_reducible rfl)
  (try simp only [Act.put, List.setIfInBounds_toArray, List.set_cons_zero, List.set_cons_succ])
  refine wpAnyH_read 6 (v := ?va4) rfl (by kernel_rfl) (by kernel_rfl) (by kernel_rfl) (fun _ _ _ h => h) s1 (Or.inl ⟨by rfl, ?ya4⟩) ?ra4
  case ya4 =>
    intro w hSw
    have hc := C2.out w (O6.out.trans hSw)
    go_simp
    (try with_reducible rfl)
  (try simp only [Act.put, List.setIfInBounds_toArray, List.set_cons_zero, List.set_cons_succ])
  refine wpAnyH_read 7 (v := ?va5) rfl (by kernel_rfl) (by kernel_rfl) (by kernel_rfl) (fun _ _ _ h => h) s1 (Or.inl ⟨by rfl, ?ya5⟩) ?ra5
  case ya5 =>
    intro w hSw
    have hc := C2.out w (O6.out.trans hSw)
    go_simp
    (try with_reducible rfl)
  (try simp only [Act.put, List.setIfInBounds_toArray, List.set_cons_zero, List.set_cons_succ])
  refine wpAnyH_read 8 (v := ?va6) rfl (by kernel_rfl) (by kernel_rfl) (by kernel_rfl) (fun _ _ _ h => h) s1 (Or.inl ⟨by rfl, ?ya6⟩) ?ra6
  case ya6 =>
    intro w hSw
    have hc := C2.out w (O6.out.trans hSw)
    go_simp
    (try with_reducible rfl)
  (try simp only [Act.put, List.setIfInBounds_toArray, List.set_cons_zero, List.set_cons_succ])
  refine wpAnyH_read 9 rfl (by kernel_rfl) (by kernel_rfl) (by kernel_rfl) (fun _ _ _ h => h) s1 (yields_load 40 _ (by rfl) rfl ⟨q3, 0, none⟩ (mC (ansM oa) a3.sl b3.sl c3.sl) rfl (fun w h => D3.out w h)) ?_
  (try simp only [Act.put, List.setIfInBounds_toArray, List.set_cons_zero, List.set_cons_succ])
  refine wpAnyH_read 10 rfl (by kernel_rfl) (by kernel_rfl) (by kernel_rfl) (fun _ _ _ h => h) s1 (yields_load 40 _ (by rfl) rfl ⟨q4, 0, none⟩ (mC (ansM oa) a4.sl b4.sl c4.sl) rfl (fun w h => D4.out w h)) ?_
  (try simp only [Act.put, List.setIfInBounds_toArray, List.set_cons_zero, List.set_cons_succ])
  refine wpAnyH_call 11 rfl (by kernel_rfl) (fun J hJ => ?_)
  rw [if_pos (by rfl)]
  go_simp
  refine (eqmb_same (ansM oa) a3.sl b3.sl c3.sl a4.sl b4.sl c4.sl _ (E3.out _ s1) (E4.out _ s1) EA.out).mono ?_
  rintro e x2 ⟨rfl, p_⟩
  have s2 := s1.trans p_
  clear p_
  refine hJ.out _ _ s2 ?_
  clear hJ J
  (try simp only [Act.put, List.setIfInBounds_toArray, List.set_cons_zero, List.set_cons_succ])
  refine wpAnyH_read 12 (v := ?va7) rfl (by kernel_rfl) (by kernel_rfl) (by kernel_rfl) (fun _ _ _ h => h) s2 (Or.inl ⟨by rfl, ?ya7⟩) ?ra7
  case ya7 =>
    intro w hSw
    have hc := C2.out w (O6.out.trans hSw)
    go_simp
    (try with_reducible rfl)
  (try simp only [Act.put, List.setIfInBounds_toArray, List.set_cons_zero, List.set_cons_succ])
  refine wpAnyH_read 13 (v := ?va8) rfl (by kernel_rfl) (by kernel_rfl) (by kernel_rfl) (fun _ _ _ h => h) s2 (Or.inl ⟨by rfl, ?ya8⟩) ?ra8
  case ya8 =>
    intro w hSw
    have hc := C2.out w (O6.out.trans hSw)
    go_simp
    (try with_reducible rfl)
  (try simp only [Act.put, List.setIfInBounds_toArray, List.set_cons_zero, List.set_cons_succ])
  refine wpAnyH_read 14 (v := ?va9) rfl (by kernel_rfl) (by kernel_rfl) (by kernel_rfl) (fun _ _ _ h => h) s2 (Or.inl ⟨by rfl, ?ya9⟩) ?ra9
  case ya9 =>
    intro w hSw
    have hc := C2.out w (O6.out.trans hSw)
    go_simp
    (try with_reducible rfl)
  (try simp only [Act.put, List.setIfInBounds_toArray, List.set_cons_zero, List.set_cons_succ])
  refine wpAnyH_read 15 (v := ?va10) rfl (by kernel_rfl) (by kernel_rfl) (by kernel_rfl) (fun _ _ _ h => h) s2 (Or.inl ⟨by rfl, ?ya10⟩) ?ra10
  case ya10 =>
    intro w hSw
    have hc := C2.out w (O6.out.trans hSw)
    go_simp
    (try with_reducible rfl)
  (try simp only [Act.put, List.setIfInBounds_toArray, List.set_cons_zero, List.set_cons_succ])
  refine wpAnyH_read 16 (v := ?va11) rfl (by kernel_rfl) (by kernel_rfl) (by kernel_rfl) (fun _ _ _ h => h) s2 (Or.inl ⟨by rfl, ?ya11⟩) ?ra11
  case ya11 =>
    intro w hSw
    have hc := C2.out w (O6.out.trans hSw)
    go_simp
    (try with_reducible rfl)
  (try simp only [Act.put, List.setIfInBounds_toArray, List.set_cons_zero, List.set_cons_succ])
  refine wpAnyH_read 17 (v := ?va12) rfl (by kernel_rfl) (by kernel_rfl) (by kernel_rfl) (fun _ _ _ h => h) s2 (Or.inl ⟨by rfl, ?ya12⟩) ?ra12
  case ya12 =>
    intro w hSw
    have hc := C2.out w (O6.out.trans hSw)
    go_simp
    (try with_reducible rfl)
  (try simp only [Act.put, List.setIfInBounds_toArray, List.set_cons_zero, List.set_cons_succ])
  refine wpAnyH_read 18 (v := ?va13) rfl (by kernel_rfl) (by kernel_rfl) (by kernel_rfl) (fun _ _ _ h => h) s2 (Or.inl ⟨by rfl, ?ya13⟩) ?ra13
  case ya13 =>
    intro w hSw
    have hc := C2.out w (O6.out.trans hSw)
    go_simp
    (try with_reducible rfl)
  (try simp only [Act.put, List.setIfInBounds_toArray, List.set_cons_zero, List.set_cons_succ])
  refine wpAnyH_read 19 rfl (by kernel_rfl) (by kernel_rfl) (by kernel_rfl) (fun _ _ _ h => h) s2 (yields_load 40 _ (by rfl) rfl ⟨q5, 0, none⟩ (mC (ansM ot) a5.sl b5.sl c5.sl) rfl (fun w h => D5.out w h)) ?_
  (try simp only [Act.put, List.setIfInBounds_toArray, List.set_cons_zero, List.set_cons_succ])
  refine wpAnyH_read 20 rfl (by kernel_rfl) (by kernel_rfl) (by kernel_rfl) (fun _ _ _ h => h) s2 (yields_load 40 _ (by rfl) rfl ⟨q6, 0, none⟩ (mC (ansM ot) a6.sl b6.sl c6.sl) rfl (fun w h => D6.out w h)) ?_
  (try simp only [Act.put, List.setIfInBounds_toArray, List.set_cons_zero, List.set_cons_succ])
  refine wpAnyH_call 21 rfl (by kernel_rfl) (fun J hJ => ?_)
  rw [if_pos (by rfl)]
  go_simp
  refine (eqmb_same (ansM ot) a5.sl b5.sl c5.sl a6.sl b6.sl c6.sl _ (E5.out _ s2) (E6.out _ s2) ET.out).mono ?_
  rintro e x3 ⟨rfl, p_⟩
  have s3 := s2.trans p_
  clear p_
  refine hJ.out _ _ s3 ?_
  clear hJ J
  (try simp only [Act.put, List.setIfInBounds_toArray, List.set_cons_zero, List.set_cons_succ])
  refine wpAnyH_read 22 (v := ?va14) rfl (by kernel_rfl) (by kernel_rfl) (by kernel_rfl) (fun _ _ _ h => h) s3 (Or.inl ⟨by rfl, ?ya14⟩) ?ra14
  case ya14 =>
    intro w hSw
    have hc := C2.out w (O6.out.trans hSw)
    go_simp
    (try with_reducible rfl)
  (try simp only [Act.put, List.setIfInBounds_toArray, List.set_cons_zero, List.set_cons_succ])
  refine wpAnyH_read 23 (v := ?va15) rfl (by kernel_rfl) (by kernel_rfl) (by kernel_rfl) (fun _ _ _ h => h) s3 (Or.inl ⟨by rfl, ?ya15⟩) ?ra15
  case ya15 =>
    intro w hSw
    have hc := C2.out w (O6.out.trans hSw)
    go_simp
    (try with_reducible rfl)
  (try simp only [Act.put, List.setIfInBounds_toArray, List.set_cons_zero, List.set_cons_succ])
  refine wpAnyH_read 24 (v := ?va16) rfl (by kernel_rfl) (by kernel_rfl) (by kernel_rfl) (fun _ _ _ h => h) s3 (Or.inl ⟨by rfl, ?ya16⟩) ?ra16
  case ya16 =>
    intro w hSw
    have hc := C2.out w (O6.out.trans hSw)
    go_simp
    (try with_reducible rfl)
  (try simp only [Act.put, List.setIfInBounds_toArray, List.set_cons_zero, List.set_cons_succ])
  refine wpAnyH_read 25 (v := ?va17) rfl (by kernel_rfl) (by kernel_rfl) (by kernel_rfl) (fun _ _ _ h => h) s3 (Or.inl ⟨by rfl, ?ya17⟩) ?ra17
  case ya17 =>
    intro w hSw
    have hc := C2.out w (O6.out.trans hSw)
    go_simp
    (try with_reducible rfl)
  (try simp only [Act.put, List.setIfInBounds_toArray, List.set_cons_zero, List.set_cons_succ])
  refine wpAnyH_read 26 (v := ?va18) rfl (by kernel_rfl) (by kernel_rfl) (by kernel_rfl) (fun _ _ _ h => h) s3 (Or.inl ⟨by rfl, ?ya18⟩) ?ra18
  case ya18 =>
    intro w hSw
    have hc := C2.out w (O6.out.trans hSw)
    go_simp
    (try with_reducible rfl)
  (try simp only [Act.put, List.setIfInBounds_toArray, List.set_cons_zero, List.set_cons_succ])
  refine wpAnyH_read 27 (v := ?va19) rfl (by kernel_rfl) (by kernel_rfl) (by kernel_rfl) (fun _ _ _ h => h) s3 (Or.inl ⟨by rfl, ?ya19⟩) ?ra19
  case ya19 =>
    intro w hSw
    have hc := C2.out w (O6.out.trans hSw)
    go_simp
    (try with_reducible rfl)
  (try simp only [Act.put, List.setIfInBounds_toArray, List.set_cons_zero, List.set_cons_succ])
  refine wpAnyH_read 28 (v := ?va20) rfl (by kernel_rfl) (by kernel_rfl) (by kernel_rfl) (fun _ _ _ h => h) s3 (Or.inl ⟨by rfl, ?ya20⟩) ?ra20
  case ya20 =>
    intro w hSw
    have hc := C2.out w (O6.out.trans hSw)
    go_simp
    (try with_reducible rfl)
  (try simp only [Act.put, List.setIfInBounds_toArray, List.set_cons_zero, List.set_cons_succ])
  refine wpAnyH_read 29 (v := ?va21) rfl (by kernel_rfl) (by kernel_rfl) (by kernel_rfl) (fun _ _ _ h => h) s3 (Or.inl ⟨by rfl, ?ya21⟩) ?ra21
  case ya21 =>
    intro w hSw
    have hc := C2.out w (O6.out.trans hSw)
    go_simp
    (try with_reducible rfl)
  (try simp only [Act.put, List.setIfInBounds_toArray, List.set_cons_zero, List.set_cons_succ])
  refine wpAnyH_read 31 (v := ?va22) rfl (by kernel_rfl) (by kernel_rfl) (by kernel_rfl) (fun _ _ _ h => h) s3 (Or.inl ⟨by rfl, ?ya22⟩) ?ra22
  case ya22 =>
    intro w hSw
    have hc := C2.out w (O6.out.trans hSw)
    go_simp
    (try with_reducible rfl)
  (try simp only [Act.put, List.setIfInBounds_toArray, List.set_cons_zero, List.set_cons_succ])
  refine wpAnyH_call 30 rfl (by kernel_rfl) (fun J hJ => ?_)
  rw [if_pos (by rfl)]
  go_simp
  refine (NX.out _ (O6.out.trans s3)).mono ?_
  rintro e x4 ⟨rfl, p_⟩
  have s4 := s3.trans p_
  clear p_
  refine hJ.out _ _ s4 ?_
  clear hJ J
  (try simp only [Act.put, List.setIfInBounds_toArray, List.set_cons_zero, List.set_cons_succ])
  refine wpAnyH_call 32 rfl (by kernel_rfl) (fun J hJ => ?_)
  rw [if_pos (by rfl)]
  go_simp
  refine (RX.out _ (O6.out.trans s4)).mono ?_
  rintro e x5 ⟨rfl, p_⟩
  have s5 := s4.trans p_
  clear p_
  refine hJ.out _ _ s5 ?_
  clear hJ J
  (try simp only [Act.put, List.setIfInBounds_toArray, List.set_cons_zero, List.set_cons_succ])
  refine wpAnyH_read 33 (v := ?va23) rfl (by kernel_rfl) (by kernel_rfl) (by kernel_rfl) (fun _ _ _ h => h) s5 (Or.inl ⟨by rfl, ?ya23⟩) ?ra23
  case ya23 =>
    intro w hSw
    have hc := C2.out w (O6.out.trans hSw)
    go_simp
    (try with_reducible rfl)
  (try simp only [Act.put, List.setIfInBounds_toArray, List.set_cons_zero, List.set_cons_succ])
  refine wpAnyH_read 34 (v := ?va24) rfl (by kernel_rfl) (by kernel_rfl) (by kernel_rfl) (fun _ _ _ h => h) s5 (Or.inl ⟨by rfl, ?ya24⟩) ?ra24
  case ya24 =>
    intro w hSw
    have hc := C2.out w (O6.out.trans hSw)
    go_simp
    (try with_reducible rfl)
  (try simp only [Act.put, List.setIfInBounds_toArray, List.set_cons_zero, List.set_cons_succ])
  refine wpAnyH_read 35 (v := ?va25) rfl (by kernel_rfl) (by kernel_rfl) (by kernel_rfl) (fun _ _ _ h => h) s5 (Or.inl ⟨by rfl, ?ya25⟩) ?ra25
  case ya25 =>
    intro w hSw
    have hc := C2.out w (O6.out.trans hSw)
    go_simp
    (try with_reducible rfl)
  (try simp only [Act.put, List.setIfInBounds_toArray, List.set_cons_zero, List.set_cons_succ])
  refine wpAnyH_read 36 (v := ?va26) rfl (by kernel_rfl) (by kernel_rfl) (by kernel_rfl) (fun _ _ _ h => h) s5 (Or.inl ⟨by rfl, ?ya26⟩) ?ra26
  case ya26 =>
    intro w hSw
    have hc := C2.out w (O6.out.trans hSw)
    go_simp
    (try with_reducible rfl)
  (try simp only [Act.put, List.setIfInBounds_toArray, List.set_cons_zero, List.set_cons_succ])
  refine wpAnyH_read 38 (v := ?va27) rfl (by kernel_rfl) (by kernel_rfl) (by kernel_rfl) (fun _ _ _ h => h) s5 (Or.inl ⟨by rfl, ?ya27⟩) ?ra27
  case ya27 =>
    intro w hSw
    have hc := C2.out w (O6.out.trans hSw)
    go_simp
    (try with_reducible rfl)
  (try simp only [Act.put, List.setIfInBounds_toArray, List.set_cons_zero, List.set_cons_succ])
  refine wpAnyH_read 39 (v := ?va28) rfl (by kernel_rfl) (by kernel_rfl) (by kernel_rfl) (fun _ _ _ h => h) s5 (Or.inl ⟨by rfl, ?ya28⟩) ?ra28
  case ya28 =>
    intro w hSw
    have hc := C2.out w (O6.out.trans hSw)
    go_simp
    (try with_reducible rfl)
  (try simp only [Act.put, List.setIfInBounds_toArray, List.set_cons_zero, List.set_cons_succ])
  refine wpAnyH_read 40 (v := ?va29) rfl (by kernel_rfl) (by kernel_rfl) (by kernel_rfl) (fun _ _ _ h => h) s5 (Or.inl ⟨by rfl, ?ya29⟩) ?ra29
  case ya29 =>
    intro w hSw
    have hc := C2.out w (O6.out.trans hSw)
    go_simp
    (try with_reducible rfl)
  (try simp only [Act.put, List.setIfInBounds_toArray, List.set_cons_zero, List.set_cons_succ])
  refine wpAnyH_read 41 (v := ?va30) rfl (by kernel_rfl) (by kernel_rfl) (by kernel_rfl) (fun _ _ _ h => h) s5 (Or.inl ⟨by rfl, ?ya30⟩) ?ra30
  case ya30 =>
    intro w hSw
    have hc := C2.out w (O6.out.trans hSw)
    go_simp
    (try with_reducible rfl)
  (try simp only [Act.put, List.setIfInBounds_toArray, List.set_cons_zero, List.set_cons_succ])
  refine wpAnyH_call 37 rfl (by kernel_rfl) (fun J hJ => ?_)
  rw [if_pos (by rfl)]
  go_simp
  refine (MS.out _ (O6.out.trans s5)).mono ?_
  rintro e x6 ⟨g, L, rfl, q1', q2', q3', q4', q5'⟩
  have s6 := s5.trans q2'
  have LL' : L.length = ms.length := by rw [← q4', List.length_map]
  have HM : HoldsG elC 29 x6 (.slice (some ⟨g, 0, none⟩) ms.length ms.length) L := by
    have := (rowG_blk elC_ok q3' (by have := LE.out; unfold maxLen; omega)).holds elC_ok
    rwa [LL'] at this
  have EM := hid (fun w' (o : Only [] x6 w') => eqmbs_same (.slice (some ⟨g, 0, none⟩) ms.length ms.length) (.slice sa ms.length sc) L els w' (HM.only0 o) (HR.out w' (O6.out.trans (s6.trans o))) (fun e he => ⟨(q5' e he).at.only0 o, HS.out e.1 (by rw [← q4']; exact List.mem_map_of_mem he)⟩) (HE.out w' (O6.out.trans (s6.trans o))) (q4'.trans RM.out.symm) (by have := LE.out; omega))
  clear q1' q2' q3' q4' q5' LL' HM
  refine hJ.out _ _ s6 ?_
  clear hJ J
  (try simp only [Act.put, List.setIfInBounds_toArray, List.set_cons_zero, List.set_cons_succ])
  refine wpAnyH_call 42 rfl (by kernel_rfl) (fun J hJ => ?_)
  rw [if_pos (by rfl)]
  go_simp
  refine (EM.out _ (Only.refl [] _)).mono ?_
  rintro e x7 ⟨rfl, p_⟩
  have s7 := s6.trans p_
  clear p_
  refine hJ.out _ _ s7 ?_
  clear hJ J
  (try simp only [Act.put, List.setIfInBounds_toArray, List.set_cons_zero, List.set_cons_succ])
  refine wpAnyH_read 43 (v := ?va31) rfl (by kernel_rfl) (by kernel_rfl) (by kernel_rfl) (fun _ _ _ h => h) s7 (Or.inl ⟨by rfl, ?ya31⟩) ?ra31
  case ya31 =>
    intro w hSw
    have hc := C2.out w (O6.out.trans hSw)
    go_simp
    (try with_reducible rfl)
  (try simp only [Act.put, List.setIfInBounds_toArray, List.set_cons_zero, List.set_cons_succ])
  refine wpAnyH_read 44 (v := ?va32) rfl (by kernel_rfl) (by kernel_rfl) (by kernel_rfl) (fun _ _ _ h => h) s7 (Or.inl ⟨by rfl, ?ya32⟩) ?ra32
  case ya32 =>
    intro w hSw
    have hc := C2.out w (O6.out.trans hSw)
    go_simp
    (try with_reducible rfl)
  (try simp only [Act.put, List.setIfInBounds_toArray, List.set_cons_zero, List.set_cons_succ])
  refine wpAnyH_done (by kernel_rfl) ?_ _
  go_wp2_with fail
  go_ret
  exact ⟨rfl, O6.out.trans s7⟩
end Go.Proofs.Ytfmfknjjhemnoaa

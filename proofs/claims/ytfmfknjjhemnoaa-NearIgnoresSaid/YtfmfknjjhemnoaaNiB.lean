/- NearIgnores, where there are objects. -/
import Derived.Test.YtfmfknjjhemnoaaNiA
namespace Go.Proofs.Ytfmfknjjhemnoaa
open Go.RowKit
set_option linter.unusedVariables false
set_option linter.unusedSimpArgs false

set_option maxRecDepth 1000000 in
set_option maxHeartbeats 4000000 in
theorem nignores_yes (f wd i : Int) (b : Value) (us : List El) (x : MV) (s1 s2 s3 : SlV) (w : World) (hb : LIn w b us) (hm : MAt w x s1.sl s2.sl s3.sl) (h : okN f wd) (hn : f + us.length ≤ 8160) :
    Calls Try.prog 6 #[.int .i64 f, .int .i64 wd, b, .int .i64 i, mV x s1.sl s2.sl s3.sl] w fun e w' => e = .returned (.bool true) ∧ Only [] w w' := by
  obtain ⟨W, hW⟩ : ∃ W, W = w.alloc (.cells (mC x s1.sl s2.sl s3.sl).toArray 40) := ⟨_, rfl⟩
  have oW := hid (show Only [] w W from hW ▸ ((Only.refl [] w).alloc _))
  have BX := hid (show Blk W w.heap.size 40 (mC x s1.sl s2.sl s3.sl).toArray from hW ▸ Blk.new w _ _)
  obtain ⟨p, hp⟩ : ∃ p, p = w.heap.size := ⟨_, rfl⟩
  rw [← hp] at BX
  have HW := hid hW
  have HP := hid hp
  have FW := hid (few_any b us 40 W (hb.only0 oW.out) (by omega) (by omega))
  have FM := hid (fun w' (o : Only [] w w') => few_any _ [(x, s1, s2, s3)] 1 _ (lin_one (show EAt w' (x, s1, s2, s3) from hm.only0 o)) (by omega) (by omega))
  have AW := hid awake_any
  have HB := hid hb
  have HM := hid hm
  have LDX := hid (fun w' (o : Only [] W w') => (BX.out.only o (by simp)).mb)
  have MA := hid (fun w' (o : Only [] w w') hs hl => made_yes f wd b us w' h (hb.only0 o) hs hl hn)
  have MBn := hid (fun b' us' w' (hl : us'.length = us.length) (h' : LIn w' b' us') hs hl2 => made_yes f wd b' us' w' h h' hs hl2 (by rw [hl]; exact hn))
  have CC := hid (fun w' (o : Only [] w w') (hs : ∀ e, e ∈ us → MSm e.1) (hl : us.length ≤ 100000) => copymbs_any b us w' (hb.only0 o).h (fun e he => ⟨(hb.only0 o).e e he, hs e he⟩) hl)
  obtain ⟨ba, bc, rfl, _⟩ := id hb.h
  have f0 := h.1
  have f1 := h.2.1
  have d0 := h.2.2.1
  have d1 := h.2.2.2
  obtain ⟨n, hn'⟩ : ∃ n, n = us.length := ⟨_, rfl⟩
  have N0 := hid hn'
  rw [← hn'] at FW MA CC hn ⊢
  have HN := hid hn
  clear hb hm h hn hn' hW hp
  unfold mV
  go_enter Try.func6, Try.ntmps6
  go_wp2_with (refine wp_box rfl 40 (.tmp 4) rfl (mC x s1.sl s2.sl s3.sl).toArray rfl HW.out HP.out ?_; simp only [Act.put, List.setIfInBounds_toArray, List.set_cons_zero, List.set_cons_succ])
  refine FW.out.mono ?_
  rintro e w1 ⟨rr, rfl, hr, o1⟩
  have HR := hid hr
  have O1 := hid (oW.out.trans o1)
  have L1 := hid (LDX.out _ o1)
  have R1 := hid (show Only [] W w1 from o1)
  clear hr o1
  cases rr with
  | false =>
    go_wp2_with fail
    go_ret
    exact ⟨rfl, O1.out⟩
  | true =>
    have SM := hid (HR.out rfl)
    have n40 : (n : Int) ≤ 40 := by have := SM.out.1; have := N0.out; omega
    clear HR
    go_wp2_with (first
      | (refine load_atG (by kernel_rfl) 40 (.tmp 9) rfl ⟨p, 0, none⟩ (mC x s1.sl s2.sl s3.sl) rfl L1.out ?_; simp only [Act.put, List.setIfInBounds_toArray, List.set_cons_zero, List.set_cons_succ])
      | (refine wp_buildSliceG (by kernel_rfl) 22 1 _ rfl #[(0, .agg (elC (x, s1, s2, s3)).toArray)] (by kernel_rfl) _ (run_mbs1 (x, s1, s2, s3) w1) ?_; simp only [Act.put, List.setIfInBounds_toArray, List.set_cons_zero, List.set_cons_succ]))
    refine (FM.out w1 O1.out).mono ?_
    rintro e w2 ⟨rm, rfl, hr, o2⟩
    have HR := hid hr
    have R2 := hid ((R1.out.alloc _).trans o2)
    have O2 := hid (oW.out.trans R2.out)
    clear hr o2
    cases rm with
    | false =>
      go_wp2_with fail
      go_ret
      exact ⟨rfl, O2.out⟩
    | true =>
      have SX := hid (show MSm x from (HR.out rfl).2 _ (List.mem_singleton.2 rfl))
      clear HR
      by_cases h1 : i < 0
      · go_wp2_with fail
        go_ret
        exact ⟨rfl, O2.out⟩
      by_cases h2 : i ≥ (n : Int) - 1
      · go_wp2_with fail
        go_ret
        exact ⟨rfl, O2.out⟩
      by_cases h3 : (i == (n : Int) - wd) = true
      · go_wp2_with fail
        go_ret
        exact ⟨rfl, O2.out⟩
      have h3 : (i == (n : Int) - wd) = false := by simpa using h3
      obtain ⟨ii, rfl⟩ : ∃ ii : Nat, i = ii := ⟨i.toNat, by omega⟩
      have C2 := hid (CC.out w2 O2.out SM.out.2 (by omega))
      have I3 := hid (show (ii : Int) ≠ (n : Int) - wd by simpa using h3)
      have I2 := hid (show (ii : Int) < (n : Int) - 1 by omega)
      go_wp2_with fail
      refine C2.out.mono ?_
      rintro e w3 ⟨sv, rfl, L, q1, q2, q3⟩
      have ll : L.length = n := by
        have e1 := congrArg List.length q2
        rwa [List.length_map, List.length_map, ← N0.out] at e1
      obtain ⟨g, c, cur, rfl, hB, hz⟩ := q1.row.lies (by rw [ll]; have := I2.out; omega)
      have LL := hid ll
      have QR := hid q1.row
      have QB := hid hB
      have Q2 := hid q2
      have Q3 := hid q3
      have R3 := hid (R2.out.trans q1.only)
      have O3 := hid (oW.out.trans R3.out)
      have L3 := hid (LDX.out _ R3.out)
      have GN := hid (q1.new g (by simp [ownG, Value.ownBlock]))
      have QZ := hid (show ii * 29 + 29 ≤ cur.size by rw [ll] at hz; have := I2.out; omega)
      have one := hid (one_mC x (rv := s1.sl) (vv := s2.sl) (bv := s3.sl) rfl rfl rfl)
      have i2 : 0 ≤ (ii : Int) ∧ (ii : Int) < (n : Int) := by have := I2.out; omega
      rw [ll]
      clear q1 q2 q3 hB hz C2 ll
      go_upto_region 5 with (first
        | (refine load_atA rfl 40 (.tmp 9) rfl ⟨p, 0, none⟩ (mC x s1.sl s2.sl s3.sl) rfl L3.out ?_; simp only [Act.put, List.setIfInBounds_toArray, List.set_cons_zero, List.set_cons_succ])
        | (refine store_blk rfl 40 (.tmp 55) (.tmp 54) rfl g (ii * 29) _ _ (mC x s1.sl s2.sl s3.sl) rfl rfl (info_mb' _ _ _ _) QB.out QZ.out one.out ?_; intro w4 hB4 hO4))
      have O4 := hid (show Only [] w w4 from O3.out.trans2 hO4 (fun y hy => .inr (by have h1 := GN.out; have h2 := O2.out.size; simp at hy; omega)))
      have LO := LIn.setEl (e := (x, s1, s2, s3)) QR.out QB.out (by rw [LL.out]; have := I2.out; omega) hB4 (fun d hd => ((Q3.out d hd).step hO4 (fun y hy hF => by simp at hy; exact hF.2 (by rw [hy]; simp [ownG, Value.ownBlock]))).at) (show MAt w4 x s1.sl s2.sl s3.sl from HM.out.only0 O4.out)
      rw [LL.out] at LO
      have SO : ∀ e, e ∈ L.set ii (x, s1, s2, s3) → MSm e.1 := fun e he => by
        rcases List.mem_or_eq_of_mem_set he with h | h
        · have h1 : e.1 ∈ us.map (·.1) := by rw [← Q2.out]; exact List.mem_map_of_mem h
          obtain ⟨d, hd, h2⟩ := List.mem_map.1 h1
          rw [← h2]
          exact SM.out.2 d hd
        · rw [h]
          exact SX.out
      have ML : (L.set ii (x, s1, s2, s3)).length = us.length := by rw [List.length_set, LL.out, N0.out]
      have M1 := hid (MA.out w4 O4.out SM.out.2 (by omega))
      have M2 := hid (fun w' (o : Only [] w4 w') => MBn.out _ _ w' ML (LO.only0 o) SO (by rw [ML, ← N0.out]; omega))
      have ME : (L.set ii (x, s1, s2, s3)).map (·.1) = (us.map (·.1)).set ii x := by rw [map_set, Q2.out]
      rw [ME] at M2
      have lm : (us.map (·.1)).length = n := by rw [List.length_map, N0.out]
      have EL := hid (show leftO f wd ((us.map (·.1)).set ii x) = leftO f wd (us.map (·.1)) from by
        unfold leftO
        rw [List.length_set]
        split
        · rfl
        · exact look_set (fun _ => by have := I2.out; rw [lm]; omega))
      have EA := hid (show aboveO f wd ((us.map (·.1)).set ii x) = aboveO f wd (us.map (·.1)) from by
        unfold aboveO
        rw [List.length_set]
        exact look_set (fun _ => by have := I3.out; rw [lm]; omega))
      have EN := hid (show ((us.map (·.1)).set ii x).length = (us.map (·.1)).length from List.length_set)
      clear hB4 hO4 LO SO ML ME QR QB Q2 Q3 one QZ L3
      go_wp2_with fail
      refine M1.out.mono ?_
      rintro e w5 ⟨na, FA, rfl, hA, _, o5⟩
      have NA := hid hA
      have M3 := hid (M2.out w5 o5)
      have O5 := hid (O4.out.trans o5)
      clear hA o5
      go_wp2_with fail
      refine M3.out.mono ?_
      rintro e w6 ⟨nc, FC, rfl, hC, _, o6⟩
      have NA6 := NA.out.only0 o6
      have S1 := hid (ans_small NA6 (f + (us.map (·.1)).length - 1))
      have S2 := hid (ans_small NA6 (f + (us.map (·.1)).length - wd))
      have S3 : MSm (ansM (leftO f wd (us.map (·.1)))) := by
        unfold leftO
        split
        · exact msm_m0
        · exact S1.out
      have S2 : MSm (ansM (aboveO f wd (us.map (·.1)))) := S2.out
      have K3 := hid S3.len
      have K2 := hid S2.len
      have AL := hid (fun w' (o : Only [] w6 w') => left_any w' (NA6.only0 o))
      have AA := hid (fun w' (o : Only [] w6 w') => above_any w' (NA6.only0 o))
      have AN := hid (fun w' (o : Only [] w6 w') => next_any w' (NA6.only0 o))
      have CL := hid (fun w' (o : Only [] w6 w') => left_any w' (hC.only0 o))
      have CA := hid (fun w' (o : Only [] w6 w') => above_any w' (hC.only0 o))
      have CN := hid (fun w' (o : Only [] w6 w') => next_any w' (hC.only0 o))
      rw [EL.out] at CL
      rw [EA.out] at CA
      rw [EN.out] at CN
      have O6 := hid (O5.out.trans o6)
      generalize leftO f wd (us.map (·.1)) = ol at *
      generalize aboveO f wd (us.map (·.1)) = oa at *
      obtain ⟨NN, hNN⟩ : ∃ NN : Int, NN = f + (us.map (·.1)).length := ⟨_, rfl⟩
      rw [← hNN] at AN CN
      clear NA6 hC o6 S1 S2 S3 hNN M3 M2 M1 MBn MA CC lm
      go_wp2_with fail
      refine (AL.out w6 (Only.refl [] w6)).mono ?_
      rintro e v1 ⟨rv, vv, bv, rfl, ow⟩
      obtain ⟨a1, b1, c1, rfl, rfl, rfl⟩ := ow.at.sl
      have bz := blk_m0 v1
      have OV1 := hid ((O6.out).trans ow.only)
      have MV1 := hid ow.at
      have PV1 := hid ow.only
      obtain ⟨q1, hq⟩ : ∃ q, q = v1.heap.size := ⟨_, rfl⟩
      have one := hid (one_mC (ansM ol) (rv := a1.sl) (vv := b1.sl) (bv := c1.sl) rfl rfl rfl)
      clear ow
      unfold mV
      go_upto_region 9 with (refine store_blk rfl 40 (.tmp 14) (.tmp 74) rfl v1.heap.size 0 _ _ (mC (ansM ol) a1.sl b1.sl c1.sl) rfl rfl (info_mb' _ _ _ _) bz (by simp [mC]) one.out ?_; intro u1 hB2 hO2)
      rw [setsA_full (by simp [mC])] at hB2
      rw [← hq] at hB2 hO2 ⊢
      have W1 := hid (show Only [] v1 u1 from ((Only.refl [] v1).alloc _).trans2 hO2 (fun g hg => .inr (by simp at hg; omega)))
      have OA := hid (OV1.out.trans W1.out)
      have P1 := hid (PV1.out.trans W1.out)
      have B1 := hid (fun w' (o : Only [] u1 w') => (hB2.only o (by simp)).mb)
      have M1 := hid (fun w' (o : Only [] u1 w') => MV1.out.only0 (W1.out.trans o))
      clear hq hB2 hO2 bz one MV1
      go_wp2_with fail
      refine (CL.out u1 P1.out).mono ?_
      rintro e v2 ⟨rv, vv, bv, rfl, ow⟩
      obtain ⟨a2, b2, c2, rfl, rfl, rfl⟩ := ow.at.sl
      have bz := blk_m0 v2
      have OV2 := hid ((OA.out).trans ow.only)
      have MV2 := hid ow.at
      have PV2 := hid ow.only
      obtain ⟨q2, hq⟩ : ∃ q, q = v2.heap.size := ⟨_, rfl⟩
      have one := hid (one_mC (ansM ol) (rv := a2.sl) (vv := b2.sl) (bv := c2.sl) rfl rfl rfl)
      clear ow
      unfold mV
      go_upto_region 10 with (refine store_blk rfl 40 (.tmp 16) (.tmp 79) rfl v2.heap.size 0 _ _ (mC (ansM ol) a2.sl b2.sl c2.sl) rfl rfl (info_mb' _ _ _ _) bz (by simp [mC]) one.out ?_; intro u2 hB2 hO2)
      rw [setsA_full (by simp [mC])] at hB2
      rw [← hq] at hB2 hO2 ⊢
      have W2 := hid (show Only [] v2 u2 from ((Only.refl [] v2).alloc _).trans2 hO2 (fun g hg => .inr (by simp at hg; omega)))
      have OB := hid (OV2.out.trans W2.out)
      have P2 := hid (PV2.out.trans W2.out)
      have B2 := hid (fun w' (o : Only [] u2 w') => (hB2.only o (by simp)).mb)
      have M2 := hid (fun w' (o : Only [] u2 w') => MV2.out.only0 (W2.out.trans o))
      clear hq hB2 hO2 bz one MV2
      go_wp2_with fail
      refine (AA.out u2 (P1.out.trans P2.out)).mono ?_
      rintro e v3 ⟨rv, vv, bv, rfl, ow⟩
      obtain ⟨a3, b3, c3, rfl, rfl, rfl⟩ := ow.at.sl
      have bz := blk_m0 v3
      have OV3 := hid ((OB.out).trans ow.only)
      have MV3 := hid ow.at
      have PV3 := hid ow.only
      obtain ⟨q3, hq⟩ : ∃ q, q = v3.heap.size := ⟨_, rfl⟩
      have one := hid (one_mC (ansM oa) (rv := a3.sl) (vv := b3.sl) (bv := c3.sl) rfl rfl rfl)
      clear ow
      unfold mV
      go_upto_region 11 with (refine store_blk rfl 40 (.tmp 18) (.tmp 84) rfl v3.heap.size 0 _ _ (mC (ansM oa) a3.sl b3.sl c3.sl) rfl rfl (info_mb' _ _ _ _) bz (by simp [mC]) one.out ?_; intro u3 hB2 hO2)
      rw [setsA_full (by simp [mC])] at hB2
      rw [← hq] at hB2 hO2 ⊢
      have W3 := hid (show Only [] v3 u3 from ((Only.refl [] v3).alloc _).trans2 hO2 (fun g hg => .inr (by simp at hg; omega)))
      have OC := hid (OV3.out.trans W3.out)
      have P3 := hid (PV3.out.trans W3.out)
      have B3 := hid (fun w' (o : Only [] u3 w') => (hB2.only o (by simp)).mb)
      have M3 := hid (fun w' (o : Only [] u3 w') => MV3.out.only0 (W3.out.trans o))
      clear hq hB2 hO2 bz one MV3
      go_wp2_with fail
      refine (CA.out u3 (P1.out.trans (P2.out.trans P3.out))).mono ?_
      rintro e v4 ⟨rv, vv, bv, rfl, ow⟩
      obtain ⟨a4, b4, c4, rfl, rfl, rfl⟩ := ow.at.sl
      have bz := blk_m0 v4
      have OV4 := hid ((OC.out).trans ow.only)
      have MV4 := hid ow.at
      have PV4 := hid ow.only
      obtain ⟨q4, hq⟩ : ∃ q, q = v4.heap.size := ⟨_, rfl⟩
      have one := hid (one_mC (ansM oa) (rv := a4.sl) (vv := b4.sl) (bv := c4.sl) rfl rfl rfl)
      clear ow
      unfold mV
      go_upto_region 12 with (refine store_blk rfl 40 (.tmp 20) (.tmp 89) rfl v4.heap.size 0 _ _ (mC (ansM oa) a4.sl b4.sl c4.sl) rfl rfl (info_mb' _ _ _ _) bz (by simp [mC]) one.out ?_; intro u4 hB2 hO2)
      rw [setsA_full (by simp [mC])] at hB2
      rw [← hq] at hB2 hO2 ⊢
      have W4 := hid (show Only [] v4 u4 from ((Only.refl [] v4).alloc _).trans2 hO2 (fun g hg => .inr (by simp at hg; omega)))
      have OD := hid (OV4.out.trans W4.out)
      have P4 := hid (PV4.out.trans W4.out)
      have B4 := hid (fun w' (o : Only [] u4 w') => (hB2.only o (by simp)).mb)
      have M4 := hid (fun w' (o : Only [] u4 w') => MV4.out.only0 (W4.out.trans o))
      clear hq hB2 hO2 bz one MV4
      have PA := hid (P1.out.trans (P2.out.trans (P3.out.trans P4.out)))
      have L1 := hid (B1.out u4 (P2.out.trans (P3.out.trans P4.out)))
      have L2 := hid (B2.out u4 (P3.out.trans P4.out))
      have Q1 := hid (eqmb_same (ansM ol) a1.sl b1.sl c1.sl a2.sl b2.sl c2.sl u4 (M1.out u4 (P2.out.trans (P3.out.trans P4.out))) (M2.out u4 (P3.out.trans P4.out)) K3.out)
      go_wp2_with (first
        | (refine load_atA rfl 40 (.tmp 14) rfl ⟨q1, 0, none⟩ (mC (ansM ol) a1.sl b1.sl c1.sl) rfl L1.out ?_; simp only [Act.put, List.setIfInBounds_toArray, List.set_cons_zero, List.set_cons_succ])
        | (refine load_atA rfl 40 (.tmp 16) rfl ⟨q2, 0, none⟩ (mC (ansM ol) a2.sl b2.sl c2.sl) rfl L2.out ?_; simp only [Act.put, List.setIfInBounds_toArray, List.set_cons_zero, List.set_cons_succ]))
      refine Q1.out.mono ?_
      rintro e w7 ⟨rfl, o7⟩
      have L3 := hid (B3.out w7 (P4.out.trans o7))
      have L4 := hid (B4.out w7 o7)
      have Q2 := hid (eqmb_same (ansM oa) a3.sl b3.sl c3.sl a4.sl b4.sl c4.sl w7 (M3.out w7 (P4.out.trans o7)) (M4.out w7 o7) K2.out)
      have P7 := hid (PA.out.trans o7)
      have O7 := hid (OD.out.trans o7)
      clear o7
      go_wp2_with (first
        | (refine load_atG (by kernel_rfl) 40 (.tmp 18) rfl ⟨q3, 0, none⟩ (mC (ansM oa) a3.sl b3.sl c3.sl) rfl L3.out ?_; simp only [Act.put, List.setIfInBounds_toArray, List.set_cons_zero, List.set_cons_succ])
        | (refine load_atG (by kernel_rfl) 40 (.tmp 20) rfl ⟨q4, 0, none⟩ (mC (ansM oa) a4.sl b4.sl c4.sl) rfl L4.out ?_; simp only [Act.put, List.setIfInBounds_toArray, List.set_cons_zero, List.set_cons_succ]))
      refine Q2.out.mono ?_
      rintro e w8 ⟨rfl, o8⟩
      have P8 := hid (P7.out.trans o8)
      have O8 := hid (O7.out.trans o8)
      clear o8
      go_wp2_with fail
      refine (AN.out w8 P8.out).mono ?_
      rintro e w9 ⟨rfl, o9⟩
      have P9 := hid (P8.out.trans o9)
      have O9 := hid (O8.out.trans o9)
      clear o9
      go_wp2_with fail
      refine (CN.out w9 P9.out).mono ?_
      rintro e x0 ⟨rfl, oa'⟩
      have O10 := hid (O9.out.trans oa')
      clear oa'
      go_wp2_with fail
      refine (AW.out x0).mono ?_
      rintro e x1 ⟨rfl, ob'⟩
      have O11 := hid (O10.out.trans ob')
      clear ob'
      go_wp2_with fail
      go_ret
      exact ⟨rfl, O11.out⟩
end Go.Proofs.Ytfmfknjjhemnoaa

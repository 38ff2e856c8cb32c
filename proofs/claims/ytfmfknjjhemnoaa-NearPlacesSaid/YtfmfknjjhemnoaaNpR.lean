/- NearPlaces: in the first column, with the one above. -/
import Derived.Test.YtfmfknjjhemnoaaNpU
namespace Go.Proofs.Ytfmfknjjhemnoaa
open Go.RowKit
set_option linter.unusedVariables false
set_option linter.unusedSimpArgs false

set_option maxRecDepth 1000000 in
set_option maxHeartbeats 4000000 in
theorem nplaces_cy (f wd : Int) (b : Value) (us : List El) (w : World) (hb : LIn w b us) (h : okN f wd) (hn : f + us.length ≤ 8160) (m : Nat) (z0 : us.length = m + 1) (zc : (f + us.length) % wd = 0) (k : Nat) (zk : (us.length : Int) - wd = k) :
    Calls Try.prog 5 #[.int .i64 f, .int .i64 wd, b] w fun e w' => e = .returned (.bool true) ∧ Only [] w w' := by
  have FW := hid (few_any b us 40 w hb (by omega) (by omega))
  have HB := hid hb
  have AW := hid awake_any
  have MY := hid (fun w' (o : Only [] w w') hs hl => made_yes f wd b us w' h (hb.only0 o) hs hl hn)
  obtain ⟨ba, bc, rfl, _⟩ := id hb.h
  have f0 := h.1
  have f1 := h.2.1
  have d0 := h.2.2.1
  have d1 := h.2.2.2
  have lm : (us.map (·.1)).length = us.length := List.length_map _
  obtain ⟨u, hu⟩ : ∃ u, us[m]? = some u := ⟨_, List.getElem?_eq_getElem (by omega)⟩
  have mu : (us.map (·.1))[m]? = some u.1 := by rw [List.getElem?_map, hu]; rfl
  have et : lastO f (us.map (·.1)) = some u.1 := by
    show lookR f _ _ = _
    rw [lookR_last m (by rw [lm, z0]), mu]
  have el : leftO f wd (us.map (·.1)) = none := by
    unfold leftO
    rw [lm, if_pos zc]
  have A1 := hid (fun w' (o : Only [] w w') => (hb.only0 o).e u (List.mem_of_getElem? hu))
  obtain ⟨ga, oa, hga, ca⟩ := hb.h.at hu
  obtain ⟨y, hy⟩ : ∃ y, us[k]? = some y := ⟨_, List.getElem?_eq_getElem (by omega)⟩
  have my : (us.map (·.1))[k]? = some y.1 := by rw [List.getElem?_map, hy]; rfl
  have ea : aboveO f wd (us.map (·.1)) = some y.1 := by
    show lookR f _ _ = _
    rw [lookR_up k (by rw [lm]; exact zk), my]
  have A2 := hid (fun w' (o : Only [] w w') => (hb.only0 o).e y (List.mem_of_getElem? hy))
  obtain ⟨gy, oy, hgy, cy⟩ := hb.h.at hy
  obtain ⟨rfl, rfl⟩ : ga = gy ∧ oa = oy := by
    rw [hga] at hgy
    simpa using hgy
  subst hga
  obtain ⟨x, r1, r2, r3⟩ := u
  have LX := hid (fun w' (o : Only [] w w') => ho_mb (w := w') (k := ga) (off := oa + m * 29) (x := x) (rv := r1.sl) (vv := r2.sl) (bv := r3.sl) (fun j v hj => o.cell (ca j v hj) (by simp)))
  have AX := hid (fun w' (o : Only [] w w') => (show MAt w' x r1.sl r2.sl r3.sl from A1.out w' o))
  have MU := hid hu
  have SX := hid (fun (q : ∀ e, e ∈ us → MSm e.1) => (show MSm x from q _ (List.mem_of_getElem? hu)))
  obtain ⟨y, t1, t2, t3⟩ := y
  have LY := hid (fun w' (o : Only [] w w') => ho_mb (w := w') (k := ga) (off := oa + k * 29) (x := y) (rv := t1.sl) (vv := t2.sl) (bv := t3.sl) (fun j v hj => o.cell (cy j v hj) (by simp)))
  have AY := hid (fun w' (o : Only [] w w') => (show MAt w' y t1.sl t2.sl t3.sl from A2.out w' o))
  have MUY := hid hy
  have SY := hid (fun (q : ∀ e, e ∈ us → MSm e.1) => (show MSm y from q _ (List.mem_of_getElem? hy)))
  obtain ⟨n, hn'⟩ : ∃ n, n = us.length := ⟨_, rfl⟩
  have N0 := hid hn'
  obtain ⟨N, hN⟩ : ∃ N : Int, N = f + us.length := ⟨_, rfl⟩
  have NE := hid hN
  have NB : 0 ≤ N ∧ N ≤ 8160 := by omega
  have lm' := hid lm
  have HL := hid (show leftO f wd (us.map (·.1)) = _ from el)
  have HA := hid (show aboveO f wd (us.map (·.1)) = _ from ea)
  have HT := hid (show lastO f (us.map (·.1)) = _ from et)
  have NW := hid (show f + (n : Int) = N by rw [hN, hn'])
  have HZ := hid (show (N.tmod wd != 0) = false from by
    rw [bne, Bool.not_eq_false']
    rw [Int.tmod_eq_emod_of_nonneg NB.1, hN]
    simpa using zc)
  have MX := hid (show IntKind.i64.wrap ((n : Int) - 1) = (m : Int) ∧ 0 ≤ (m : Int) ∧ (m : Int) < (n : Int) from ⟨by rw [show (n : Int) - 1 = m by omega]; exact IntWalk.i64_in _ (by omega), by omega, by omega⟩)
  have PN := hid (show 0 < n by omega)
  have KX := hid (show IntKind.i64.wrap ((n : Int) - wd) = (k : Int) ∧ 0 ≤ (k : Int) ∧ (k : Int) < (n : Int) from ⟨by rw [show (n : Int) - wd = k by omega]; exact IntWalk.i64_in _ (by omega), by omega, by omega⟩)
  have PW := hid (show wd ≤ (n : Int) by omega)
  have dz : ¬ wd = 0 := by omega
  rw [← hn'] at FW MY ⊢
  clear hb h hn hn' hN z0 zk lm el ea et hu mu A1 ca zc hy my A2 cy
  go_enter Try.func5, Try.ntmps5
  go_wp2_with fail
  refine FW.out.mono ?_
  rintro e w1 ⟨rr, rfl, hr, o1⟩
  have HR := hid hr
  have O1 := hid o1
  clear hr o1
  cases rr with
  | false =>
    go_wp2_with fail
    go_ret
    exact ⟨rfl, O1.out⟩
  | true =>
    have SM := hid (HR.out rfl)
    clear HR
    have n40 : (n : Int) ≤ 40 := by have := SM.out.1; have := N0.out; omega
    have SX := hid (SX.out SM.out.2)
    have SY := hid (SY.out SM.out.2)
    have MD := hid (MY.out w1 O1.out SM.out.2 (by omega))
    go_wp2_with fail
    refine MD.out.mono ?_
    rintro e w2 ⟨nb, F, rfl, hN, _, o2⟩
    have LL := hid (fun w' (o : Only [] w2 w') => (left_any w' (hN.only0 o)).mono fun e w3 q => q.b (congrArg ansM HL.out) (congrArg Option.isSome HL.out))
    have LA := hid (fun w' (o : Only [] w2 w') => (above_any w' (hN.only0 o)).mono fun e w3 q => q.b (congrArg ansM HA.out) (congrArg Option.isSome HA.out))
    have LT := hid (fun w' (o : Only [] w2 w') => (last_any w' (hN.only0 o)).mono fun e w3 q => q.b (congrArg ansM HT.out) (congrArg Option.isSome HT.out))
    have NX := hid (fun w' (o : Only [] w2 w') => next_any w' (hN.only0 o))
    rw [lm'.out, ← NE.out] at NX
    have MS := hid (fun w' (o : Only [] w2 w') => mbs_any w' (hN.only0 o))
    have O2 := hid (O1.out.trans o2)
    clear hN o2 MD
    go_wp2_with fail
    have LL := hid (show ∀ w', Only [] w2 w' → Calls Try.prog 19 #[.pointer (some ⟨nb, 0, none⟩)] w' (fun e w3 => FoundB w' w3 m0 false e) from LL.out)
    have LA := hid (show ∀ w', Only [] w2 w' → Calls Try.prog 20 #[.pointer (some ⟨nb, 0, none⟩)] w' (fun e w3 => FoundB w' w3 y true e) from LA.out)
    have LT := hid (show ∀ w', Only [] w2 w' → Calls Try.prog 21 #[.pointer (some ⟨nb, 0, none⟩)] w' (fun e w3 => FoundB w' w3 x true e) from LT.out)
    refine (LL.out w2 (Only.refl [] w2)).mono ?_
    rintro e v1 ⟨rv, vv, bv, rfl, ow⟩
    obtain ⟨a1, b1, c1, rfl, rfl, rfl⟩ := ow.at.sl
    have bz := blk_m0 v1
    have OV1 := hid ((O2.out).trans ow.only)
    have MV1 := hid ow.at
    have PV1 := hid ow.only
    obtain ⟨q1, hq⟩ : ∃ q, q = v1.heap.size := ⟨_, rfl⟩
    have one := hid (one_mC (m0) (rv := a1.sl) (vv := b1.sl) (bv := c1.sl) rfl rfl rfl)
    clear ow
    unfold mV
    go_upto_region 9 with (refine store_blk rfl 40 (.tmp 8) (.tmp 47) rfl v1.heap.size 0 _ _ (mC (m0) a1.sl b1.sl c1.sl) rfl rfl (info_mb' _ _ _ _) bz (by simp [mC]) one.out ?_; intro u1 hB2 hO2)
    rw [setsA_full (by simp [mC])] at hB2
    rw [← hq] at hB2 hO2 ⊢
    have W1 := hid (show Only [] v1 u1 from ((Only.refl [] v1).alloc _).trans2 hO2 (fun g hg => .inr (by simp at hg; omega)))
    have OA1 := hid (OV1.out.trans W1.out)
    have P1 := hid (PV1.out.trans W1.out)
    have B1 := hid (fun w' (o : Only [] u1 w') => (hB2.only o (by simp)).mb)
    have M1 := hid (fun w' (o : Only [] u1 w') => MV1.out.only0 (W1.out.trans o))
    clear hq hB2 hO2 bz one MV1
    refine wp_region_heldH (fun w' => Only [] u1 w') 26 (by kernel_rfl) rfl (Only.refl [] u1).drew (fun hS => ?_)
    generalize u1.drew = wx1 at *
    refine wpAnyH_read 0 (v := ?va1) rfl (by kernel_rfl) (by kernel_rfl) (by kernel_rfl) (fun _ _ _ h => h) hS (Or.inl ⟨by rfl, ?ya1⟩) ?ra1
    case ya1 =>
      intro w hSw
      have hp := PN.out
      have hz := HZ.out
      go_simp
      (try with_reducible rfl)
    (try simp only [Act.put, List.setIfInBounds_toArray, List.set_cons_zero, List.set_cons_succ])
    refine wpAnyH_read 1 (v := ?va2) rfl (by kernel_rfl) (by kernel_rfl) (by kernel_rfl) (fun _ _ _ h => h) hS (Or.inl ⟨by rfl, ?ya2⟩) ?ra2
    case ya2 =>
      intro w hSw
      have hp := PN.out
      have hz := HZ.out
      go_simp
      (try with_reducible rfl)
    (try simp only [Act.put, List.setIfInBounds_toArray, List.set_cons_zero, List.set_cons_succ])
    refine wpAnyH_read 2 (v := ?va3) rfl (by kernel_rfl) (by kernel_rfl) (by kernel_rfl) (fun _ _ _ h => h) hS (Or.inl ⟨by rfl, ?ya3⟩) ?ra3
    case ya3 =>
      intro w hSw
      have hp := PN.out
      have hz := HZ.out
      go_simp
      (try with_reducible rfl)
    (try simp only [Act.put, List.setIfInBounds_toArray, List.set_cons_zero, List.set_cons_succ])
    refine wpAnyH_read 3 (v := ?va4) rfl (by kernel_rfl) (by kernel_rfl) (by kernel_rfl) (fun _ _ _ h => h) hS (Or.inl ⟨by rfl, ?ya4⟩) ?ra4
    case ya4 =>
      intro w hSw
      have hp := PN.out
      have hz := HZ.out
      go_simp
      (try with_reducible rfl)
    (try simp only [Act.put, List.setIfInBounds_toArray, List.set_cons_zero, List.set_cons_succ])
    refine wpAnyH_read 4 (v := ?va5) rfl (by kernel_rfl) (by kernel_rfl) (by kernel_rfl) (fun _ _ _ h => h) hS (Or.inl ⟨by rfl, ?ya5⟩) ?ra5
    case ya5 =>
      intro w hSw
      have hp := PN.out
      have hz := HZ.out
      go_simp
      (try with_reducible rfl)
    (try simp only [Act.put, List.setIfInBounds_toArray, List.set_cons_zero, List.set_cons_succ])
    refine wpAnyH_read 5 (v := ?va6) rfl (by kernel_rfl) (by kernel_rfl) (by kernel_rfl) (fun _ _ _ h => h) hS (Or.inl ⟨by rfl, ?ya6⟩) ?ra6
    case ya6 =>
      intro w hSw
      have hp := PN.out
      have hz := HZ.out
      go_simp
      (try with_reducible rfl)
    (try simp only [Act.put, List.setIfInBounds_toArray, List.set_cons_zero, List.set_cons_succ])
    refine wpAnyH_read 7 (v := ?va7) rfl (by kernel_rfl) (by kernel_rfl) (by kernel_rfl) (fun _ _ _ h => h) hS (Or.inl ⟨by rfl, ?ya7⟩) ?ra7
    case ya7 =>
      intro w hSw
      have hp := PN.out
      have hz := HZ.out
      go_simp
      (try with_reducible rfl)
    (try simp only [Act.put, List.setIfInBounds_toArray, List.set_cons_zero, List.set_cons_succ])
    refine wpAnyH_call 6 rfl (by kernel_rfl) (fun J hJ => ?_)
    rw [if_pos (by rfl)]
    go_simp
    refine (NX.out _ (P1.out.trans hS)).mono ?_
    rintro e y0 ⟨rfl, p_⟩
    have g0 := hS.trans p_
    clear p_
    refine hJ.out _ _ g0 ?_
    clear hJ J
    (try simp only [Act.put, List.setIfInBounds_toArray, List.set_cons_zero, List.set_cons_succ])
    refine wpAnyH_read 8 (v := ?va8) rfl (by kernel_rfl) (by kernel_rfl) (by kernel_rfl) (fun _ _ _ h => h) g0 (Or.inl ⟨by rfl, ?ya8⟩) ?ra8
    case ya8 =>
      intro w hSw
      have hp := PN.out
      have hz := HZ.out
      go_simp
      (try with_reducible rfl)
    (try simp only [Act.put, List.setIfInBounds_toArray, List.set_cons_zero, List.set_cons_succ])
    refine wpAnyH_read 9 (v := ?va9) rfl (by kernel_rfl) (by kernel_rfl) (by kernel_rfl) (fun _ _ _ h => h) g0 (Or.inl ⟨by rfl, ?ya9⟩) ?ra9
    case ya9 =>
      intro w hSw
      have hp := PN.out
      have hz := HZ.out
      go_simp
      (try with_reducible rfl)
    (try simp only [Act.put, List.setIfInBounds_toArray, List.set_cons_zero, List.set_cons_succ])
    refine wpAnyH_read 10 (v := ?va10) rfl (by kernel_rfl) (by kernel_rfl) (by kernel_rfl) (fun _ _ _ h => h) g0 (Or.inl ⟨by rfl, ?ya10⟩) ?ra10
    case ya10 =>
      intro w hSw
      have hp := PN.out
      have hz := HZ.out
      go_simp
      (try with_reducible rfl)
    (try simp only [Act.put, List.setIfInBounds_toArray, List.set_cons_zero, List.set_cons_succ])
    refine wpAnyH_read 11 (v := ?va11) rfl (by kernel_rfl) (by kernel_rfl) (by kernel_rfl) (fun _ _ _ h => h) g0 (Or.inl ⟨by rfl, ?ya11⟩) ?ra11
    case ya11 =>
      intro w hSw
      have hp := PN.out
      have hz := HZ.out
      go_simp
      (try with_reducible rfl)
    (try simp only [Act.put, List.setIfInBounds_toArray, List.set_cons_zero, List.set_cons_succ])
    refine wpAnyH_read 12 (v := ?va12) rfl (by kernel_rfl) (by kernel_rfl) (by kernel_rfl) (fun _ _ _ h => h) g0 (Or.inl ⟨by rfl, ?ya12⟩) ?ra12
    case ya12 =>
      intro w hSw
      have hp := PN.out
      have hz := HZ.out
      go_simp
      (try with_reducible rfl)
    (try simp only [Act.put, List.setIfInBounds_toArray, List.set_cons_zero, List.set_cons_succ])
    refine wpAnyH_read 13 (v := ?va13) rfl (by kernel_rfl) (by kernel_rfl) (by kernel_rfl) (fun _ _ _ h => h) g0 (Or.inl ⟨by rfl, ?ya13⟩) ?ra13
    case ya13 =>
      intro w hSw
      have hp := PN.out
      have hz := HZ.out
      go_simp
      (try with_reducible rfl)
    (try simp only [Act.put, List.setIfInBounds_toArray, List.set_cons_zero, List.set_cons_succ])
    refine wpAnyH_read 14 (v := ?va14) rfl (by kernel_rfl) (by kernel_rfl) (by kernel_rfl) (fun _ _ _ h => h) g0 (Or.inl ⟨by rfl, ?ya14⟩) ?ra14
    case ya14 =>
      intro w hSw
      have hp := PN.out
      have hz := HZ.out
      go_simp
      (try with_reducible rfl)
    (try simp only [Act.put, List.setIfInBounds_toArray, List.set_cons_zero, List.set_cons_succ])
    refine wpAnyH_read 15 (v := undef) rfl (by kernel_rfl) (by kernel_rfl) (by kernel_rfl) (fun _ _ _ h => h) g0 (Or.inr ⟨by rfl, rfl⟩) ?_
    (try simp only [Act.put, List.setIfInBounds_toArray, List.set_cons_zero, List.set_cons_succ])
    refine wpAnyH_read 16 (v := undef) rfl (by kernel_rfl) (by kernel_rfl) (by kernel_rfl) (fun _ _ _ h => h) g0 (Or.inr ⟨by rfl, rfl⟩) ?_
    (try simp only [Act.put, List.setIfInBounds_toArray, List.set_cons_zero, List.set_cons_succ])
    refine wpAnyH_read 17 (v := undef) rfl (by kernel_rfl) (by kernel_rfl) (by kernel_rfl) (fun _ _ _ h => h) g0 (Or.inr ⟨by rfl, rfl⟩) ?_
    (try simp only [Act.put, List.setIfInBounds_toArray, List.set_cons_zero, List.set_cons_succ])
    refine wpAnyH_read 18 (v := undef) rfl (by kernel_rfl) (by kernel_rfl) (by kernel_rfl) (fun _ _ _ h => h) g0 (Or.inr ⟨by rfl, rfl⟩) ?_
    (try simp only [Act.put, List.setIfInBounds_toArray, List.set_cons_zero, List.set_cons_succ])
    refine wpAnyH_read 19 (v := undef) rfl (by kernel_rfl) (by kernel_rfl) (by kernel_rfl) (fun _ _ _ h => h) g0 (Or.inr ⟨by rfl, rfl⟩) ?_
    (try simp only [Act.put, List.setIfInBounds_toArray, List.set_cons_zero, List.set_cons_succ])
    refine wpAnyH_read 20 (v := undef) rfl (by kernel_rfl) (by kernel_rfl) (by kernel_rfl) (fun _ _ _ h => h) g0 (Or.inr ⟨by rfl, rfl⟩) ?_
    (try simp only [Act.put, List.setIfInBounds_toArray, List.set_cons_zero, List.set_cons_succ])
    refine wpAnyH_read 21 (v := undef) rfl (by kernel_rfl) (by kernel_rfl) (by kernel_rfl) (fun _ _ _ h => h) g0 (Or.inr ⟨by rfl, rfl⟩) ?_
    (try simp only [Act.put, List.setIfInBounds_toArray, List.set_cons_zero, List.set_cons_succ])
    refine wpAnyH_read 22 (v := undef) rfl (by kernel_rfl) (by kernel_rfl) (by kernel_rfl) (fun _ _ _ h => h) g0 (Or.inr ⟨by rfl, rfl⟩) ?_
    (try simp only [Act.put, List.setIfInBounds_toArray, List.set_cons_zero, List.set_cons_succ])
    refine wpAnyH_read 23 (v := undef) rfl (by kernel_rfl) (by kernel_rfl) (by kernel_rfl) (fun _ _ _ h => h) g0 (Or.inr ⟨by rfl, rfl⟩) ?_
    (try simp only [Act.put, List.setIfInBounds_toArray, List.set_cons_zero, List.set_cons_succ])
    refine wpAnyH_read 24 (v := ?va24) rfl (by kernel_rfl) (by kernel_rfl) (by kernel_rfl) (fun _ _ _ h => h) g0 (Or.inl ⟨by rfl, ?ya24⟩) ?ra24
    case ya24 =>
      intro w hSw
      have hp := PN.out
      have hz := HZ.out
      go_simp
      (try with_reducible rfl)
    (try simp only [Act.put, List.setIfInBounds_toArray, List.set_cons_zero, List.set_cons_succ])
    refine wpAnyH_read 25 (v := ?va25) rfl (by kernel_rfl) (by kernel_rfl) (by kernel_rfl) (fun _ _ _ h => h) g0 (Or.inl ⟨by rfl, ?ya25⟩) ?ra25
    case ya25 =>
      intro w hSw
      have hp := PN.out
      have hz := HZ.out
      go_simp
      (try with_reducible rfl)
    (try simp only [Act.put, List.setIfInBounds_toArray, List.set_cons_zero, List.set_cons_succ])
    refine wpAnyH_done (by kernel_rfl) ?_ _
    have OB := hid (OA1.out.trans g0)
    have PB := hid (P1.out.trans g0)
    go_wp2_with fail
    refine (LA.out y0 PB.out).mono ?_
    rintro e v2 ⟨rv, vv, bv, rfl, ow⟩
    obtain ⟨a2, b2, c2, rfl, rfl, rfl⟩ := ow.at.sl
    have bz := blk_m0 v2
    have OV2 := hid ((OB.out).trans ow.only)
    have MV2 := hid ow.at
    have PV2 := hid ow.only
    obtain ⟨q2, hq⟩ : ∃ q, q = v2.heap.size := ⟨_, rfl⟩
    have one := hid (one_mC (y) (rv := a2.sl) (vv := b2.sl) (bv := c2.sl) rfl rfl rfl)
    clear ow
    unfold mV
    go_upto_region 12 with (refine store_blk rfl 40 (.tmp 10) (.tmp 78) rfl v2.heap.size 0 _ _ (mC (y) a2.sl b2.sl c2.sl) rfl rfl (info_mb' _ _ _ _) bz (by simp [mC]) one.out ?_; intro u2 hB2 hO2)
    rw [setsA_full (by simp [mC])] at hB2
    rw [← hq] at hB2 hO2 ⊢
    have W2 := hid (show Only [] v2 u2 from ((Only.refl [] v2).alloc _).trans2 hO2 (fun g hg => .inr (by simp at hg; omega)))
    have O2' := hid (OV2.out.trans W2.out)
    have P2 := hid (PV2.out.trans W2.out)
    have B2 := hid (fun w' (o : Only [] u2 w') => (hB2.only o (by simp)).mb)
    have M2 := hid (fun w' (o : Only [] u2 w') => MV2.out.only0 (W2.out.trans o))
    clear hq hB2 hO2 bz one MV2
    refine wp_region_heldH (fun w' => Only [] u2 w') 21 (by kernel_rfl) rfl (Only.refl [] u2).drew (fun hS => ?_)
    generalize u2.drew = wx2 at *
    refine wpAnyH_read 0 (v := ?va101) rfl (by kernel_rfl) (by kernel_rfl) (by kernel_rfl) (fun _ _ _ h => h) hS (Or.inl ⟨by rfl, ?ya101⟩) ?ra101
    case ya101 =>
      intro w hSw
      have hp := PW.out
      have hs := KX.out.1
      have hi := KX.out.2
      go_simp
      (try with_reducible rfl)
    (try simp only [Act.put, List.setIfInBounds_toArray, List.set_cons_zero, List.set_cons_succ])
    refine wpAnyH_read 1 (v := ?va102) rfl (by kernel_rfl) (by kernel_rfl) (by kernel_rfl) (fun _ _ _ h => h) hS (Or.inl ⟨by rfl, ?ya102⟩) ?ra102
    case ya102 =>
      intro w hSw
      have hp := PW.out
      have hs := KX.out.1
      have hi := KX.out.2
      go_simp
      (try with_reducible rfl)
    (try simp only [Act.put, List.setIfInBounds_toArray, List.set_cons_zero, List.set_cons_succ])
    refine wpAnyH_read 2 (v := ?va103) rfl (by kernel_rfl) (by kernel_rfl) (by kernel_rfl) (fun _ _ _ h => h) hS (Or.inl ⟨by rfl, ?ya103⟩) ?ra103
    case ya103 =>
      intro w hSw
      have hp := PW.out
      have hs := KX.out.1
      have hi := KX.out.2
      go_simp
      (try with_reducible rfl)
    (try simp only [Act.put, List.setIfInBounds_toArray, List.set_cons_zero, List.set_cons_succ])
    refine wpAnyH_read 3 (v := ?va104) rfl (by kernel_rfl) (by kernel_rfl) (by kernel_rfl) (fun _ _ _ h => h) hS (Or.inl ⟨by rfl, ?ya104⟩) ?ra104
    case ya104 =>
      intro w hSw
      have hp := PW.out
      have hs := KX.out.1
      have hi := KX.out.2
      go_simp
      (try with_reducible rfl)
    (try simp only [Act.put, List.setIfInBounds_toArray, List.set_cons_zero, List.set_cons_succ])
    refine wpAnyH_read 4 (v := ?va105) rfl (by kernel_rfl) (by kernel_rfl) (by kernel_rfl) (fun _ _ _ h => h) hS (Or.inl ⟨by rfl, ?ya105⟩) ?ra105
    case ya105 =>
      intro w hSw
      have hp := PW.out
      have hs := KX.out.1
      have hi := KX.out.2
      go_simp
      (try with_reducible rfl)
    (try simp only [Act.put, List.setIfInBounds_toArray, List.set_cons_zero, List.set_cons_succ])
    refine wpAnyH_read 5 (v := ?va106) rfl (by kernel_rfl) (by kernel_rfl) (by kernel_rfl) (fun _ _ _ h => h) hS (Or.inl ⟨by rfl, ?ya106⟩) ?ra106
    case ya106 =>
      intro w hSw
      have hp := PW.out
      have hs := KX.out.1
      have hi := KX.out.2
      go_simp
      (try with_reducible rfl)
    (try simp only [Act.put, List.setIfInBounds_toArray, List.set_cons_zero, List.set_cons_succ])
    refine wpAnyH_read 6 (v := ?va107) rfl (by kernel_rfl) (by kernel_rfl) (by kernel_rfl) (fun _ _ _ h => h) hS (Or.inl ⟨by rfl, ?ya107⟩) ?ra107
    case ya107 =>
      intro w hSw
      have hp := PW.out
      have hs := KX.out.1
      have hi := KX.out.2
      go_simp
      (try with_reducible rfl)
    (try simp only [Act.put, List.setIfInBounds_toArray, List.set_cons_zero, List.set_cons_succ])
    refine wpAnyH_read 7 (v := ?va108) rfl (by kernel_rfl) (by kernel_rfl) (by kernel_rfl) (fun _ _ _ h => h) hS (Or.inl ⟨by rfl, ?ya108⟩) ?ra108
    case ya108 =>
      intro w hSw
      have hp := PW.out
      have hs := KX.out.1
      have hi := KX.out.2
      go_simp
      (try with_reducible rfl)
    (try simp only [Act.put, List.setIfInBounds_toArray, List.set_cons_zero, List.set_cons_succ])
    refine wpAnyH_read 8 (v := ?va109) rfl (by kernel_rfl) (by kernel_rfl) (by kernel_rfl) (fun _ _ _ h => h) hS (Or.inl ⟨by rfl, ?ya109⟩) ?ra109
    case ya109 =>
      intro w hSw
      have hp := PW.out
      have hs := KX.out.1
      have hi := KX.out.2
      go_simp
      (try with_reducible rfl)
    (try simp only [Act.put, List.setIfInBounds_toArray, List.set_cons_zero, List.set_cons_succ])
    refine wpAnyH_read 9 rfl (by kernel_rfl) (by kernel_rfl) (by kernel_rfl) (fun _ _ _ h => h) hS (yields_load 40 _ (by rfl) rfl ⟨q2, 0, none⟩ (mC y a2.sl b2.sl c2.sl) rfl (fun w h => B2.out w h)) ?_
    (try simp only [Act.put, List.setIfInBounds_toArray, List.set_cons_zero, List.set_cons_succ])
    refine wpAnyH_read 10 (v := ?va110) rfl (by kernel_rfl) (by kernel_rfl) (by kernel_rfl) (fun _ _ _ h => h) hS (Or.inl ⟨by rfl, ?ya110⟩) ?ra110
    case ya110 =>
      intro w hSw
      have hp := PW.out
      have hs := KX.out.1
      have hi := KX.out.2
      go_simp
      (try with_reducible rfl)
    (try simp only [Act.put, List.setIfInBounds_toArray, List.set_cons_zero, List.set_cons_succ])
    refine wpAnyH_read 11 (v := ?va111) rfl (by kernel_rfl) (by kernel_rfl) (by kernel_rfl) (fun _ _ _ h => h) hS (Or.inl ⟨by rfl, ?ya111⟩) ?ra111
    case ya111 =>
      intro w hSw
      have hp := PW.out
      have hs := KX.out.1
      have hi := KX.out.2
      go_simp
      (try with_reducible rfl)
    (try simp only [Act.put, List.setIfInBounds_toArray, List.set_cons_zero, List.set_cons_succ])
    refine wpAnyH_read 12 (v := ?va112) rfl (by kernel_rfl) (by kernel_rfl) (by kernel_rfl) (fun _ _ _ h => h) hS (Or.inl ⟨by rfl, ?ya112⟩) ?ra112
    case ya112 =>
      intro w hSw
      have hp := PW.out
      have hs := KX.out.1
      have hi := KX.out.2
      go_simp
      (try with_reducible rfl)
    (try simp only [Act.put, List.setIfInBounds_toArray, List.set_cons_zero, List.set_cons_succ])
    refine wpAnyH_read 13 (v := ?va113) rfl (by kernel_rfl) (by kernel_rfl) (by kernel_rfl) (fun _ _ _ h => h) hS (Or.inl ⟨by rfl, ?ya113⟩) ?ra113
    case ya113 =>
      intro w hSw
      have hp := PW.out
      have hs := KX.out.1
      have hi := KX.out.2
      go_simp
      (try with_reducible rfl)
    (try simp only [Act.put, List.setIfInBounds_toArray, List.set_cons_zero, List.set_cons_succ])
    refine wpAnyH_read 14 (v := ?va114) rfl (by kernel_rfl) (by kernel_rfl) (by kernel_rfl) (fun _ _ _ h => h) hS (Or.inl ⟨by rfl, ?ya114⟩) ?ra114
    case ya114 =>
      intro w hSw
      have hp := PW.out
      have hs := KX.out.1
      have hi := KX.out.2
      go_simp
      (try with_reducible rfl)
    (try simp only [Act.put, List.setIfInBounds_toArray, List.set_cons_zero, List.set_cons_succ])
    refine wpAnyH_read 15 (v := ?va115) rfl (by kernel_rfl) (by kernel_rfl) (by kernel_rfl) (fun _ _ _ h => h) hS (Or.inl ⟨by rfl, ?ya115⟩) ?ra115
    case ya115 =>
      intro w hSw
      have hp := PW.out
      have hs := KX.out.1
      have hi := KX.out.2
      go_simp
      (try with_reducible rfl)
    (try simp only [Act.put, List.setIfInBounds_toArray, List.set_cons_zero, List.set_cons_succ])
    refine wpAnyH_read 16 rfl (by kernel_rfl) (by kernel_rfl) (by kernel_rfl) (fun _ _ _ h => h) hS (yields_load 40 _ (by rfl) rfl ⟨ga, oa + k * 29, none⟩ (mC y t1.sl t2.sl t3.sl) rfl (fun w h => LY.out w (O2'.out.trans h))) ?_
    (try simp only [Act.put, List.setIfInBounds_toArray, List.set_cons_zero, List.set_cons_succ])
    refine wpAnyH_call 17 rfl (by kernel_rfl) (fun J hJ => ?_)
    rw [if_pos (by rfl)]
    go_simp
    refine (eqmb_same y a2.sl b2.sl c2.sl t1.sl t2.sl t3.sl _ (M2.out _ hS) (AY.out _ (O2'.out.trans hS)) SY.out.len).mono ?_
    rintro e y2 ⟨rfl, p_⟩
    have g2 := hS.trans p_
    clear p_
    refine hJ.out _ _ g2 ?_
    clear hJ J
    (try simp only [Act.put, List.setIfInBounds_toArray, List.set_cons_zero, List.set_cons_succ])
    refine wpAnyH_read 18 (v := ?va116) rfl (by kernel_rfl) (by kernel_rfl) (by kernel_rfl) (fun _ _ _ h => h) g2 (Or.inl ⟨by rfl, ?ya116⟩) ?ra116
    case ya116 =>
      intro w hSw
      have hp := PW.out
      have hs := KX.out.1
      have hi := KX.out.2
      go_simp
      (try with_reducible rfl)
    (try simp only [Act.put, List.setIfInBounds_toArray, List.set_cons_zero, List.set_cons_succ])
    refine wpAnyH_read 19 (v := ?va117) rfl (by kernel_rfl) (by kernel_rfl) (by kernel_rfl) (fun _ _ _ h => h) g2 (Or.inl ⟨by rfl, ?ya117⟩) ?ra117
    case ya117 =>
      intro w hSw
      have hp := PW.out
      have hs := KX.out.1
      have hi := KX.out.2
      go_simp
      (try with_reducible rfl)
    (try simp only [Act.put, List.setIfInBounds_toArray, List.set_cons_zero, List.set_cons_succ])
    refine wpAnyH_read 20 (v := ?va118) rfl (by kernel_rfl) (by kernel_rfl) (by kernel_rfl) (fun _ _ _ h => h) g2 (Or.inl ⟨by rfl, ?ya118⟩) ?ra118
    case ya118 =>
      intro w hSw
      have hp := PW.out
      have hs := KX.out.1
      have hi := KX.out.2
      go_simp
      (try with_reducible rfl)
    (try simp only [Act.put, List.setIfInBounds_toArray, List.set_cons_zero, List.set_cons_succ])
    refine wpAnyH_done (by kernel_rfl) ?_ _
    have OC := hid (O2'.out.trans g2)
    have PC := hid (PB.out.trans (P2.out.trans g2))
    go_wp2_with fail
    refine (LT.out y2 PC.out).mono ?_
    rintro e v3 ⟨rv, vv, bv, rfl, ow⟩
    obtain ⟨a3, b3, c3, rfl, rfl, rfl⟩ := ow.at.sl
    have bz := blk_m0 v3
    have OV3 := hid ((OC.out).trans ow.only)
    have MV3 := hid ow.at
    have PV3 := hid ow.only
    obtain ⟨q3, hq⟩ : ∃ q, q = v3.heap.size := ⟨_, rfl⟩
    have one := hid (one_mC (x) (rv := a3.sl) (vv := b3.sl) (bv := c3.sl) rfl rfl rfl)
    clear ow
    unfold mV
    go_upto_region 15 with (refine store_blk rfl 40 (.tmp 11) (.tmp 104) rfl v3.heap.size 0 _ _ (mC (x) a3.sl b3.sl c3.sl) rfl rfl (info_mb' _ _ _ _) bz (by simp [mC]) one.out ?_; intro u3 hB2 hO2)
    rw [setsA_full (by simp [mC])] at hB2
    rw [← hq] at hB2 hO2 ⊢
    have W3 := hid (show Only [] v3 u3 from ((Only.refl [] v3).alloc _).trans2 hO2 (fun g hg => .inr (by simp at hg; omega)))
    have O3 := hid (OV3.out.trans W3.out)
    have P3 := hid (PV3.out.trans W3.out)
    have B3 := hid (fun w' (o : Only [] u3 w') => (hB2.only o (by simp)).mb)
    have M3 := hid (fun w' (o : Only [] u3 w') => MV3.out.only0 (W3.out.trans o))
    clear hq hB2 hO2 bz one MV3
    refine wp_region_heldH (fun w' => Only [] u3 w') 19 (by kernel_rfl) rfl (Only.refl [] u3).drew (fun hS => ?_)
    generalize u3.drew = wx3 at *
    refine wpAnyH_read 0 (v := ?va201) rfl (by kernel_rfl) (by kernel_rfl) (by kernel_rfl) (fun _ _ _ h => h) hS (Or.inl ⟨by rfl, ?ya201⟩) ?ra201
    case ya201 =>
      intro w hSw
      have hp := PN.out
      have hs := MX.out.1
      have hi := MX.out.2
      go_simp
      (try with_reducible rfl)
    (try simp only [Act.put, List.setIfInBounds_toArray, List.set_cons_zero, List.set_cons_succ])
    refine wpAnyH_read 1 (v := ?va202) rfl (by kernel_rfl) (by kernel_rfl) (by kernel_rfl) (fun _ _ _ h => h) hS (Or.inl ⟨by rfl, ?ya202⟩) ?ra202
    case ya202 =>
      intro w hSw
      have hp := PN.out
      have hs := MX.out.1
      have hi := MX.out.2
      go_simp
      (try with_reducible rfl)
    (try simp only [Act.put, List.setIfInBounds_toArray, List.set_cons_zero, List.set_cons_succ])
    refine wpAnyH_read 2 (v := ?va203) rfl (by kernel_rfl) (by kernel_rfl) (by kernel_rfl) (fun _ _ _ h => h) hS (Or.inl ⟨by rfl, ?ya203⟩) ?ra203
    case ya203 =>
      intro w hSw
      have hp := PN.out
      have hs := MX.out.1
      have hi := MX.out.2
      go_simp
      (try with_reducible rfl)
    (try simp only [Act.put, List.setIfInBounds_toArray, List.set_cons_zero, List.set_cons_succ])
    refine wpAnyH_read 3 (v := ?va204) rfl (by kernel_rfl) (by kernel_rfl) (by kernel_rfl) (fun _ _ _ h => h) hS (Or.inl ⟨by rfl, ?ya204⟩) ?ra204
    case ya204 =>
      intro w hSw
      have hp := PN.out
      have hs := MX.out.1
      have hi := MX.out.2
      go_simp
      (try with_reducible rfl)
    (try simp only [Act.put, List.setIfInBounds_toArray, List.set_cons_zero, List.set_cons_succ])
    refine wpAnyH_read 4 (v := ?va205) rfl (by kernel_rfl) (by kernel_rfl) (by kernel_rfl) (fun _ _ _ h => h) hS (Or.inl ⟨by rfl, ?ya205⟩) ?ra205
    case ya205 =>
      intro w hSw
      have hp := PN.out
      have hs := MX.out.1
      have hi := MX.out.2
      go_simp
      (try with_reducible rfl)
    (try simp only [Act.put, List.setIfInBounds_toArray, List.set_cons_zero, List.set_cons_succ])
    refine wpAnyH_read 5 (v := ?va206) rfl (by kernel_rfl) (by kernel_rfl) (by kernel_rfl) (fun _ _ _ h => h) hS (Or.inl ⟨by rfl, ?ya206⟩) ?ra206
    case ya206 =>
      intro w hSw
      have hp := PN.out
      have hs := MX.out.1
      have hi := MX.out.2
      go_simp
      (try with_reducible rfl)
    (try simp only [Act.put, List.setIfInBounds_toArray, List.set_cons_zero, List.set_cons_succ])
    refine wpAnyH_read 6 (v := ?va207) rfl (by kernel_rfl) (by kernel_rfl) (by kernel_rfl) (fun _ _ _ h => h) hS (Or.inl ⟨by rfl, ?ya207⟩) ?ra207
    case ya207 =>
      intro w hSw
      have hp := PN.out
      have hs := MX.out.1
      have hi := MX.out.2
      go_simp
      (try with_reducible rfl)
    (try simp only [Act.put, List.setIfInBounds_toArray, List.set_cons_zero, List.set_cons_succ])
    refine wpAnyH_read 7 (v := ?va208) rfl (by kernel_rfl) (by kernel_rfl) (by kernel_rfl) (fun _ _ _ h => h) hS (Or.inl ⟨by rfl, ?ya208⟩) ?ra208
    case ya208 =>
      intro w hSw
      have hp := PN.out
      have hs := MX.out.1
      have hi := MX.out.2
      go_simp
      (try with_reducible rfl)
    (try simp only [Act.put, List.setIfInBounds_toArray, List.set_cons_zero, List.set_cons_succ])
    refine wpAnyH_read 8 rfl (by kernel_rfl) (by kernel_rfl) (by kernel_rfl) (fun _ _ _ h => h) hS (yields_load 40 _ (by rfl) rfl ⟨q3, 0, none⟩ (mC x a3.sl b3.sl c3.sl) rfl (fun w h => B3.out w h)) ?_
    (try simp only [Act.put, List.setIfInBounds_toArray, List.set_cons_zero, List.set_cons_succ])
    refine wpAnyH_read 9 (v := ?va209) rfl (by kernel_rfl) (by kernel_rfl) (by kernel_rfl) (fun _ _ _ h => h) hS (Or.inl ⟨by rfl, ?ya209⟩) ?ra209
    case ya209 =>
      intro w hSw
      have hp := PN.out
      have hs := MX.out.1
      have hi := MX.out.2
      go_simp
      (try with_reducible rfl)
    (try simp only [Act.put, List.setIfInBounds_toArray, List.set_cons_zero, List.set_cons_succ])
    refine wpAnyH_read 10 (v := ?va210) rfl (by kernel_rfl) (by kernel_rfl) (by kernel_rfl) (fun _ _ _ h => h) hS (Or.inl ⟨by rfl, ?ya210⟩) ?ra210
    case ya210 =>
      intro w hSw
      have hp := PN.out
      have hs := MX.out.1
      have hi := MX.out.2
      go_simp
      (try with_reducible rfl)
    (try simp only [Act.put, List.setIfInBounds_toArray, List.set_cons_zero, List.set_cons_succ])
    refine wpAnyH_read 11 (v := ?va211) rfl (by kernel_rfl) (by kernel_rfl) (by kernel_rfl) (fun _ _ _ h => h) hS (Or.inl ⟨by rfl, ?ya211⟩) ?ra211
    case ya211 =>
      intro w hSw
      have hp := PN.out
      have hs := MX.out.1
      have hi := MX.out.2
      go_simp
      (try with_reducible rfl)
    (try simp only [Act.put, List.setIfInBounds_toArray, List.set_cons_zero, List.set_cons_succ])
    refine wpAnyH_read 12 (v := ?va212) rfl (by kernel_rfl) (by kernel_rfl) (by kernel_rfl) (fun _ _ _ h => h) hS (Or.inl ⟨by rfl, ?ya212⟩) ?ra212
    case ya212 =>
      intro w hSw
      have hp := PN.out
      have hs := MX.out.1
      have hi := MX.out.2
      go_simp
      (try with_reducible rfl)
    (try simp only [Act.put, List.setIfInBounds_toArray, List.set_cons_zero, List.set_cons_succ])
    refine wpAnyH_read 13 (v := ?va213) rfl (by kernel_rfl) (by kernel_rfl) (by kernel_rfl) (fun _ _ _ h => h) hS (Or.inl ⟨by rfl, ?ya213⟩) ?ra213
    case ya213 =>
      intro w hSw
      have hp := PN.out
      have hs := MX.out.1
      have hi := MX.out.2
      go_simp
      (try with_reducible rfl)
    (try simp only [Act.put, List.setIfInBounds_toArray, List.set_cons_zero, List.set_cons_succ])
    refine wpAnyH_read 14 rfl (by kernel_rfl) (by kernel_rfl) (by kernel_rfl) (fun _ _ _ h => h) hS (yields_load 40 _ (by rfl) rfl ⟨ga, oa + m * 29, none⟩ (mC x r1.sl r2.sl r3.sl) rfl (fun w h => LX.out w (O3.out.trans h))) ?_
    (try simp only [Act.put, List.setIfInBounds_toArray, List.set_cons_zero, List.set_cons_succ])
    refine wpAnyH_call 15 rfl (by kernel_rfl) (fun J hJ => ?_)
    rw [if_pos (by rfl)]
    go_simp
    refine (eqmb_same x a3.sl b3.sl c3.sl r1.sl r2.sl r3.sl _ (M3.out _ hS) (AX.out _ (O3.out.trans hS)) SX.out.len).mono ?_
    rintro e y3 ⟨rfl, p_⟩
    have g3 := hS.trans p_
    clear p_
    refine hJ.out _ _ g3 ?_
    clear hJ J
    (try simp only [Act.put, List.setIfInBounds_toArray, List.set_cons_zero, List.set_cons_succ])
    refine wpAnyH_read 16 (v := ?va214) rfl (by kernel_rfl) (by kernel_rfl) (by kernel_rfl) (fun _ _ _ h => h) g3 (Or.inl ⟨by rfl, ?ya214⟩) ?ra214
    case ya214 =>
      intro w hSw
      have hp := PN.out
      have hs := MX.out.1
      have hi := MX.out.2
      go_simp
      (try with_reducible rfl)
    (try simp only [Act.put, List.setIfInBounds_toArray, List.set_cons_zero, List.set_cons_succ])
    refine wpAnyH_read 17 (v := ?va215) rfl (by kernel_rfl) (by kernel_rfl) (by kernel_rfl) (fun _ _ _ h => h) g3 (Or.inl ⟨by rfl, ?ya215⟩) ?ra215
    case ya215 =>
      intro w hSw
      have hp := PN.out
      have hs := MX.out.1
      have hi := MX.out.2
      go_simp
      (try with_reducible rfl)
    (try simp only [Act.put, List.setIfInBounds_toArray, List.set_cons_zero, List.set_cons_succ])
    refine wpAnyH_read 18 (v := ?va216) rfl (by kernel_rfl) (by kernel_rfl) (by kernel_rfl) (fun _ _ _ h => h) g3 (Or.inl ⟨by rfl, ?ya216⟩) ?ra216
    case ya216 =>
      intro w hSw
      have hp := PN.out
      have hs := MX.out.1
      have hi := MX.out.2
      go_simp
      (try with_reducible rfl)
    (try simp only [Act.put, List.setIfInBounds_toArray, List.set_cons_zero, List.set_cons_succ])
    refine wpAnyH_done (by kernel_rfl) ?_ _
    have OD := hid (O3.out.trans g3)
    have PD := hid (PC.out.trans (P3.out.trans g3))
    have nw := NW.out
    go_wp2_with fail
    refine (NX.out _ PD.out).mono ?_
    rintro e z1 ⟨rfl, o4⟩
    have O4 := hid (OD.out.trans o4)
    have P4 := hid (PD.out.trans o4)
    clear o4
    go_wp2_with fail
    refine (MS.out _ P4.out).mono ?_
    rintro e z2 ⟨g, L, rfl, q1', q2', q3', q4', q5'⟩
    have ll : L.length = n := by
      have e1 := congrArg List.length q4'
      rw [List.length_map, List.length_map] at e1
      rw [e1, N0.out]
    have HM : HoldsG elC 29 z2 (.slice (some ⟨g, 0, none⟩) n n) L := by
      have := (rowG_blk elC_ok q3' (by unfold maxLen; omega)).holds elC_ok
      rwa [ll] at this
    have e2 : (us.map (·.1)).length = n := by rw [List.length_map, N0.out]
    rw [e2]
    have O5 := hid (O4.out.trans q2')
    have HB5 := HB.out.only0 O5.out
    rw [← N0.out] at HB5
    have EM := hid (eqmbs_same (.slice (some ⟨g, 0, none⟩) n n) (.slice (some ⟨ga, oa, none⟩) n bc) L us z2 HM HB5.h (fun e he => ⟨(q5' e he).at, by
      have h1 : e.1 ∈ us.map (·.1) := by rw [← q4']; exact List.mem_map_of_mem he
      obtain ⟨d, hd, h2⟩ := List.mem_map.1 h1
      rw [← h2]
      exact SM.out.2 d hd⟩) HB5.e q4' (by omega))
    clear q1' q2' q3' q4' q5' ll HM e2 HB5
    go_wp2_with fail
    refine EM.out.mono ?_
    rintro e z3 ⟨rfl, o6⟩
    have O6 := hid (O5.out.trans o6)
    clear o6
    go_wp2_with fail
    refine (AW.out z3).mono ?_
    rintro e z4 ⟨rfl, o7⟩
    have O7 := hid (O6.out.trans o7)
    clear o7
    go_wp2_with fail
    go_ret
    exact ⟨rfl, O7.out⟩
end Go.Proofs.Ytfmfknjjhemnoaa

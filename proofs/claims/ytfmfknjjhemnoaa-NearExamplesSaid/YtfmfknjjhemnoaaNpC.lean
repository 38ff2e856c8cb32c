/- The program's Last, Above, Left. -/
import Derived.Test.YtfmfknjjhemnoaaNpB
namespace Go.Proofs.Ytfmfknjjhemnoaa
open Go.RowKit
set_option linter.unusedVariables false
set_option linter.unusedSimpArgs false

set_option maxRecDepth 1000000 in
set_option maxHeartbeats 4000000 in
theorem last_any {F : Nat → Prop} {nb : Nat} {f wd : Int} {ms : List MV} (w : World) (h : NAt 59 F w nb f wd ms) :
    Calls Try.prog 21 #[.pointer (some ⟨nb, 0, none⟩)] w fun e w' => Found w w' (lastO f ms) e := by
  have hmf : ∀ (fn : Fn) (first cap : Array Value) (w : World), (Instr.makeFunc fn first cap).run Try.prog w = .ok (.func fn first cap) w := fun _ _ _ _ => rfl
  have B0 := hid (blk_m0 w)
  have n0 := h.f0
  have n1 := h.f1
  have n2 := h.n
  have NX := hid (fun w' (o : Only [] w w') => next_any w' (h.only0 o))
  have FI := hid (fun w' (o : Only [] w w') => find_any (f + ms.length - 1) w' (h.only0 o) (by omega) (by omega))
  unfold Found lastO at *
  obtain ⟨N, hN⟩ : ∃ N : Int, N = f + ms.length := ⟨_, rfl⟩
  rw [← hN] at NX FI ⊢
  have N0 : 0 ≤ N := by omega
  have N1 : N ≤ 8160 := by omega
  generalize lookR f ms (N - 1) = o at *
  clear h hN n2
  go_enter Try.func21, Try.ntmps21
  go_upto_region 1 with (fail)
  generalize hw : w.alloc _ = W
  have HW := hid (show Only [] w W from hw ▸ ((Only.refl [] w).alloc _))
  have b0 : Blk W w.heap.size 40 (mC m0 (.slice none 0 0) (.slice none 0 0) (.slice none 0 0)).toArray := hw ▸ B0.out
  clear hw B0
  obtain ⟨p, hp⟩ : ∃ p, p = w.heap.size := ⟨_, rfl⟩
  rw [← hp] at b0 ⊢
  have HP := hid (show p < W.heap.size ∧ p = w.heap.size from ⟨b0.lt, hp⟩)
  have BP := hid b0
  clear hp b0
  go_wp2_with fail
  refine (NX.out W HW.out).mono ?_
  rintro e w1 ⟨rfl, o1⟩
  have O1 := hid ((HW.out).trans o1)
  have BP1 := hid (BP.out.only o1 (by simp))
  clear o1
  go_wp2_with fail
  refine (FI.out w1 O1.out).mono ?_
  rintro e w2 ⟨r1, r2, r3, rfl, ow⟩
  have OW := hid ow
  have b2 := BP1.out.only ow.only (by simp)
  have one2 := hid (one_mC (ansM o) ow.at.one.1 ow.at.one.2.1 ow.at.one.2.2)
  have BL := hid BP1.out.lt
  clear ow
  unfold mV
  go_wp2_with (refine store_blk rfl 40 (.tmp 2) (.tmp 13) rfl p 0 _ _ (mC (ansM o) r1 r2 r3) rfl rfl (info_mb' _ _ _ _) b2 (by simp [mC]) one2.out ?_; intro w4 hB4 hO4)
  rw [setsA_full (by simp [mC])] at hB4
  exact bodyPost_ret (res_ct rfl rfl rfl (lv_mb hB4)) rfl ⟨r1, r2, r3, rfl, OwnM.reach (W := w1) OW.out O1.out hO4 (fun g hg => by have h1 := HP.out; have h2 := BL.out; simp at hg; omega)⟩
set_option maxRecDepth 1000000 in
set_option maxHeartbeats 4000000 in
theorem above_any {F : Nat → Prop} {nb : Nat} {f wd : Int} {ms : List MV} (w : World) (h : NAt 59 F w nb f wd ms) :
    Calls Try.prog 20 #[.pointer (some ⟨nb, 0, none⟩)] w fun e w' => Found w w' (aboveO f wd ms) e := by
  have hmf : ∀ (fn : Fn) (first cap : Array Value) (w : World), (Instr.makeFunc fn first cap).run Try.prog w = .ok (.func fn first cap) w := fun _ _ _ _ => rfl
  have B0 := hid (blk_m0 w)
  have n0 := h.f0
  have n1 := h.f1
  have n2 := h.n
  obtain ⟨sv, els, r⟩ := h.read
  have d0 := h.w1
  have d1 := h.w2
  have cW := hid (r.b.cell (i := 1) (v := .int .i64 wd) rfl)
  have NX := hid (fun w' (o : Only [] w w') => next_any w' (h.only0 o))
  have FI := hid (fun w' (o : Only [] w w') => find_any (f + ms.length - wd) w' (h.only0 o) (by omega) (by omega))
  unfold Found aboveO at *
  clear r
  obtain ⟨N, hN⟩ : ∃ N : Int, N = f + ms.length := ⟨_, rfl⟩
  rw [← hN] at NX FI ⊢
  have N0 : 0 ≤ N := by omega
  have N1 : N ≤ 8160 := by omega
  have HS := hid (show IntKind.i64.wrap (N - wd) = N - wd from IntWalk.i64_in _ (by omega))
  generalize lookR f ms (N - wd) = o at *
  clear h hN n2
  go_enter Try.func20, Try.ntmps20
  go_upto_region 3 with (fail)
  generalize hw : w.alloc _ = W
  have HW := hid (show Only [] w W from hw ▸ ((Only.refl [] w).alloc _))
  have b0 : Blk W w.heap.size 40 (mC m0 (.slice none 0 0) (.slice none 0 0) (.slice none 0 0)).toArray := hw ▸ B0.out
  clear hw B0
  obtain ⟨p, hp⟩ : ∃ p, p = w.heap.size := ⟨_, rfl⟩
  rw [← hp] at b0 ⊢
  have HP := hid (show p < W.heap.size ∧ p = w.heap.size from ⟨b0.lt, hp⟩)
  have BP := hid b0
  clear hp b0
  have XC := hid (fun w' (o : Only [] W w') => (HW.out.trans o).cell cW.out (by simp))
  refine wp_region_tail (fun w' => Only [] W w') 12 14 (by kernel_rfl) rfl (Only.refl [] W).drew (fun hS => ?_)
  generalize W.drew = wd1 at *
  refine wpAnyT_take 0 (v := ?va0) rfl (by kernel_rfl) (fun _ _ _ h => h) (Or.inl ⟨by rfl, ?ya0⟩) hS ?ra0
  case ya0 =>
    intro w hSw
    have hc := XC.out w hSw
    go_simp
    (try with_reducible rfl)
  (try simp only [Act.put, List.setIfInBounds_toArray, List.set_cons_zero, List.set_cons_succ])
  refine wpAnyT_take 1 (v := ?va1) rfl (by kernel_rfl) (fun _ _ _ h => h) (Or.inl ⟨by rfl, ?ya1⟩) hS ?ra1
  case ya1 =>
    intro w hSw
    have hc := XC.out w hSw
    go_simp
    (try with_reducible rfl)
  (try simp only [Act.put, List.setIfInBounds_toArray, List.set_cons_zero, List.set_cons_succ])
  refine wpAnyT_take 2 (v := ?va2) rfl (by kernel_rfl) (fun _ _ _ h => h) (Or.inl ⟨by rfl, ?ya2⟩) hS ?ra2
  case ya2 =>
    intro w hSw
    have hc := XC.out w hSw
    go_simp
    (try with_reducible rfl)
  (try simp only [Act.put, List.setIfInBounds_toArray, List.set_cons_zero, List.set_cons_succ])
  refine wpAnyT_take 4 (v := ?va4) rfl (by kernel_rfl) (fun _ _ _ h => h) (Or.inl ⟨by rfl, ?ya4⟩) hS ?ra4
  case ya4 =>
    intro w hSw
    have hc := XC.out w hSw
    go_simp
    (try with_reducible rfl)
  (try simp only [Act.put, List.setIfInBounds_toArray, List.set_cons_zero, List.set_cons_succ])
  refine wpAnyT_take 5 (v := ?va5) rfl (by kernel_rfl) (fun _ _ _ h => h) (Or.inl ⟨by rfl, ?ya5⟩) hS ?ra5
  case ya5 =>
    intro w hSw
    have hc := XC.out w hSw
    go_simp
    (try with_reducible rfl)
  (try simp only [Act.put, List.setIfInBounds_toArray, List.set_cons_zero, List.set_cons_succ])
  refine wpAnyT_take 6 (v := ?va6) rfl (by kernel_rfl) (fun _ _ _ h => h) (Or.inl ⟨by rfl, ?ya6⟩) hS ?ra6
  case ya6 =>
    intro w hSw
    have hc := XC.out w hSw
    go_simp
    (try with_reducible rfl)
  (try simp only [Act.put, List.setIfInBounds_toArray, List.set_cons_zero, List.set_cons_succ])
  refine wpAnyT_take 7 (v := ?va7) rfl (by kernel_rfl) (fun _ _ _ h => h) (Or.inl ⟨by rfl, ?ya7⟩) hS ?ra7
  case ya7 =>
    intro w hSw
    have hc := XC.out w hSw
    go_simp
    (try with_reducible rfl)
  (try simp only [Act.put, List.setIfInBounds_toArray, List.set_cons_zero, List.set_cons_succ])
  refine wpAnyT_call 3 rfl (by kernel_rfl) (fun K hK => ?_)
  go_simp
  refine (NX.out _ (HW.out.trans hS)).mono ?_
  rintro e w1 ⟨rfl, o_w1⟩
  have hS1 : Only [] W w1 := hS.trans o_w1
  refine hK.out _ _ hS1 ?_
  clear hK K
  (try simp only [Act.put, List.setIfInBounds_toArray, List.set_cons_zero, List.set_cons_succ])
  refine wpAnyT_take 8 (v := ?va8) rfl (by kernel_rfl) (fun _ _ _ h => h) (Or.inl ⟨by rfl, ?ya8⟩) hS1 ?ra8
  case ya8 =>
    intro w hSw
    have hs := HS.out
    go_simp
    (try with_reducible rfl)
  (try simp only [Act.put, List.setIfInBounds_toArray, List.set_cons_zero, List.set_cons_succ])
  refine wpAnyT_call 9 rfl (by kernel_rfl) (fun K hK => ?_)
  go_simp
  refine (FI.out _ (HW.out.trans hS1)).mono ?_
  rintro e w2 ⟨r1, r2, r3, rfl, ow⟩
  have O1 := hid (HW.out.trans hS1)
  have BP1 := hid (BP.out.only hS1 (by simp))
  have hS2 : Only [] W w2 := hS1.trans ow.only
  refine hK.out _ _ hS2 ?_
  clear hK K
  (try simp only [Act.put, List.setIfInBounds_toArray, List.set_cons_zero, List.set_cons_succ])
  unfold mV
  refine wpAnyT_take 10 (v := ?va10) rfl (by kernel_rfl) (fun _ _ _ h => h) (Or.inl ⟨by rfl, ?ya10⟩) hS2 ?ra10
  case ya10 =>
    intro w hSw
    go_simp
    (try with_reducible rfl)
  (try simp only [Act.put, List.setIfInBounds_toArray, List.set_cons_zero, List.set_cons_succ])
  refine wpAnyT_take 11 (v := ?va11) rfl (by kernel_rfl) (fun _ _ _ h => h) (Or.inl ⟨by rfl, ?ya11⟩) hS2 ?ra11
  case ya11 =>
    intro w hSw
    go_simp
    (try with_reducible rfl)
  (try simp only [Act.put, List.setIfInBounds_toArray, List.set_cons_zero, List.set_cons_succ])
  refine wpAnyT_tail _ rfl (by kernel_rfl) ?_
  simp only [List.drop_succ_cons, List.drop_zero]
  have OW := hid ow
  have b2 := BP1.out.only ow.only (by simp)
  have one2 := hid (one_mC (ansM o) ow.at.one.1 ow.at.one.2.1 ow.at.one.2.2)
  have BL := hid BP1.out.lt
  clear hS hS1 hS2 o_w1
  clear ow
  go_wp2_with (refine store_blk rfl 40 (.tmp 2) (.tmp 17) rfl p 0 _ _ (mC (ansM o) r1 r2 r3) rfl rfl (info_mb' _ _ _ _) b2 (by simp [mC]) one2.out ?_; intro w4 hB4 hO4)
  rw [setsA_full (by simp [mC])] at hB4
  exact bodyPost_ret (res_ct rfl rfl rfl (lv_mb hB4)) rfl ⟨r1, r2, r3, rfl, OwnM.reach (W := w1) OW.out O1.out hO4 (fun g hg => by have h1 := HP.out; have h2 := BL.out; simp at hg; omega)⟩
set_option maxRecDepth 1000000 in
set_option maxHeartbeats 4000000 in
theorem left_zero {F : Nat → Prop} {nb : Nat} {f wd : Int} {ms : List MV} (w : World) (h : NAt 59 F w nb f wd ms) (hz : (f + ms.length) % wd = 0) :
    Calls Try.prog 19 #[.pointer (some ⟨nb, 0, none⟩)] w fun e w' => Found w w' (leftO f wd ms) e := by
  have hmf : ∀ (fn : Fn) (first cap : Array Value) (w : World), (Instr.makeFunc fn first cap).run Try.prog w = .ok (.func fn first cap) w := fun _ _ _ _ => rfl
  have B0 := hid (blk_m0 w)
  have n0 := h.f0
  have n1 := h.f1
  have n2 := h.n
  obtain ⟨sv, els, r⟩ := h.read
  have d0 := h.w1
  have d1 := h.w2
  have cW := hid (r.b.cell (i := 1) (v := .int .i64 wd) rfl)
  have NX := hid (fun w' (o : Only [] w w') => next_any w' (h.only0 o))
  have FI := hid (fun w' (o : Only [] w w') => find_any (f + ms.length - 1) w' (h.only0 o) (by omega) (by omega))
  unfold Found leftO at *
  clear r
  rw [if_pos hz]
  obtain ⟨N, hN⟩ : ∃ N : Int, N = f + ms.length := ⟨_, rfl⟩
  rw [← hN] at NX FI
  have N0 : 0 ≤ N := by omega
  have N1 : N ≤ 8160 := by omega
  have HZ : (N.tmod wd == 0) = true := by
    rw [Int.tmod_eq_emod_of_nonneg N0, hN]
    simpa using hz
  have dz : ¬ wd = 0 := by omega
  generalize lookR f ms (N - 1) = o at *
  clear h hN n2 hz
  go_enter Try.func19, Try.ntmps19
  go_upto_region 1 with (fail)
  generalize hw : w.alloc _ = W
  have HW := hid (show Only [] w W from hw ▸ ((Only.refl [] w).alloc _))
  have b0 : Blk W w.heap.size 40 (mC m0 (.slice none 0 0) (.slice none 0 0) (.slice none 0 0)).toArray := hw ▸ B0.out
  clear hw B0
  obtain ⟨p, hp⟩ : ∃ p, p = w.heap.size := ⟨_, rfl⟩
  rw [← hp] at b0 ⊢
  have HP := hid (show p < W.heap.size ∧ p = w.heap.size from ⟨b0.lt, hp⟩)
  have BP := hid b0
  clear hp b0
  have XC := hid (fun w' (o : Only [] W w') => (HW.out.trans o).cell cW.out (by simp))
  refine wp_region_heldH (fun w' => Only [] W w') 12 (by kernel_rfl) rfl (Only.refl [] W).drew (fun hS => ?_)
  generalize W.drew = wx at *
  refine wpAnyH_read 0 (v := ?va1) rfl (by kernel_rfl) (by kernel_rfl) (by kernel_rfl) (fun _ _ _ h => h) hS (Or.inl ⟨by rfl, ?ya1⟩) ?ra1
  case ya1 =>
    intro w hSw
    have hc := XC.out w hSw
    go_simp
    (try with_reducible rfl)
  (try simp only [Act.put, List.setIfInBounds_toArray, List.set_cons_zero, List.set_cons_succ])
  refine wpAnyH_read 1 (v := ?va2) rfl (by kernel_rfl) (by kernel_rfl) (by kernel_rfl) (fun _ _ _ h => h) hS (Or.inl ⟨by rfl, ?ya2⟩) ?ra2
  case ya2 =>
    intro w hSw
    have hc := XC.out w hSw
    go_simp
    (try with_reducible rfl)
  (try simp only [Act.put, List.setIfInBounds_toArray, List.set_cons_zero, List.set_cons_succ])
  refine wpAnyH_read 2 (v := ?va3) rfl (by kernel_rfl) (by kernel_rfl) (by kernel_rfl) (fun _ _ _ h => h) hS (Or.inl ⟨by rfl, ?ya3⟩) ?ra3
  case ya3 =>
    intro w hSw
    have hc := XC.out w hSw
    go_simp
    (try with_reducible rfl)
  (try simp only [Act.put, List.setIfInBounds_toArray, List.set_cons_zero, List.set_cons_succ])
  refine wpAnyH_read 3 (v := ?va4) rfl (by kernel_rfl) (by kernel_rfl) (by kernel_rfl) (fun _ _ _ h => h) hS (Or.inl ⟨by rfl, ?ya4⟩) ?ra4
  case ya4 =>
    intro w hSw
    have hc := XC.out w hSw
    go_simp
    (try with_reducible rfl)
  (try simp only [Act.put, List.setIfInBounds_toArray, List.set_cons_zero, List.set_cons_succ])
  refine wpAnyH_read 5 (v := ?va5) rfl (by kernel_rfl) (by kernel_rfl) (by kernel_rfl) (fun _ _ _ h => h) hS (Or.inl ⟨by rfl, ?ya5⟩) ?ra5
  case ya5 =>
    intro w hSw
    have hc := XC.out w hSw
    go_simp
    (try with_reducible rfl)
  (try simp only [Act.put, List.setIfInBounds_toArray, List.set_cons_zero, List.set_cons_succ])
  refine wpAnyH_read 6 (v := ?va6) rfl (by kernel_rfl) (by kernel_rfl) (by kernel_rfl) (fun _ _ _ h => h) hS (Or.inl ⟨by rfl, ?ya6⟩) ?ra6
  case ya6 =>
    intro w hSw
    have hc := XC.out w hSw
    go_simp
    (try with_reducible rfl)
  (try simp only [Act.put, List.setIfInBounds_toArray, List.set_cons_zero, List.set_cons_succ])
  refine wpAnyH_read 7 (v := ?va7) rfl (by kernel_rfl) (by kernel_rfl) (by kernel_rfl) (fun _ _ _ h => h) hS (Or.inl ⟨by rfl, ?ya7⟩) ?ra7
  case ya7 =>
    intro w hSw
    have hc := XC.out w hSw
    go_simp
    (try with_reducible rfl)
  (try simp only [Act.put, List.setIfInBounds_toArray, List.set_cons_zero, List.set_cons_succ])
  refine wpAnyH_read 8 (v := ?va8) rfl (by kernel_rfl) (by kernel_rfl) (by kernel_rfl) (fun _ _ _ h => h) hS (Or.inl ⟨by rfl, ?ya8⟩) ?ra8
  case ya8 =>
    intro w hSw
    have hc := XC.out w hSw
    go_simp
    (try with_reducible rfl)
  (try simp only [Act.put, List.setIfInBounds_toArray, List.set_cons_zero, List.set_cons_succ])
  refine wpAnyH_call 4 rfl (by kernel_rfl) (fun J hJ => ?_)
  rw [if_pos (by rfl)]
  go_simp
  refine (NX.out _ (HW.out.trans hS)).mono ?_
  rintro e w0 ⟨rfl, p_⟩
  have s1 := hS.trans p_
  clear p_
  refine hJ.out _ _ s1 ?_
  clear hJ J
  (try simp only [Act.put, List.setIfInBounds_toArray, List.set_cons_zero, List.set_cons_succ])
  refine wpAnyH_read 9 (v := ?va9) rfl (by kernel_rfl) (by kernel_rfl) (by kernel_rfl) (fun _ _ _ h => h) s1 (Or.inl ⟨by rfl, ?ya9⟩) ?ra9
  case ya9 =>
    intro w hSw
    have hc := XC.out w hSw
    go_simp
    (try with_reducible rfl)
  (try simp only [Act.put, List.setIfInBounds_toArray, List.set_cons_zero, List.set_cons_succ])
  refine wpAnyH_read 10 (v := ?va10) rfl (by kernel_rfl) (by kernel_rfl) (by kernel_rfl) (fun _ _ _ h => h) s1 (Or.inl ⟨by rfl, ?ya10⟩) ?ra10
  case ya10 =>
    intro w hSw
    have hc := XC.out w hSw
    go_simp
    (try with_reducible rfl)
  (try simp only [Act.put, List.setIfInBounds_toArray, List.set_cons_zero, List.set_cons_succ])
  refine wpAnyH_read 11 (v := ?va11) rfl (by kernel_rfl) (by kernel_rfl) (by kernel_rfl) (fun _ _ _ h => h) s1 (Or.inl ⟨by rfl, ?ya11⟩) ?ra11
  case ya11 =>
    intro w hSw
    have hc := XC.out w hSw
    go_simp
    (try with_reducible rfl)
  (try simp only [Act.put, List.setIfInBounds_toArray, List.set_cons_zero, List.set_cons_succ])
  refine wpAnyH_done (by kernel_rfl) ?_ _
  have BP1 := BP.out.only s1 (by simp)
  have O1 := hid (HW.out.trans s1)
  clear s1 hS HZ
  go_wp2_with (refine store_blk rfl 40 (.tmp 2) (.tmp 16) rfl p 0 _ _ (mC m0 (.slice none 0 0) (.slice none 0 0) (.slice none 0 0)) rfl rfl (info_mb' _ _ _ _) BP1 (by simp [mC]) one_m0 ?_; intro w4 hB4 hO4)
  rw [setsA_full (by simp [mC])] at hB4
  exact bodyPost_ret (res_ct rfl rfl rfl (lv_mb hB4)) rfl ⟨_, _, _, rfl, ownM_m0 (O1.out.trans2 hO4 (fun g hg => .inr (by have := HP.out; simp at hg; omega)))⟩
set_option maxRecDepth 1000000 in
set_option maxHeartbeats 4000000 in
theorem left_more {F : Nat → Prop} {nb : Nat} {f wd : Int} {ms : List MV} (w : World) (h : NAt 59 F w nb f wd ms) (hz : ¬ (f + ms.length) % wd = 0) :
    Calls Try.prog 19 #[.pointer (some ⟨nb, 0, none⟩)] w fun e w' => Found w w' (leftO f wd ms) e := by
  have hmf : ∀ (fn : Fn) (first cap : Array Value) (w : World), (Instr.makeFunc fn first cap).run Try.prog w = .ok (.func fn first cap) w := fun _ _ _ _ => rfl
  have B0 := hid (blk_m0 w)
  have n0 := h.f0
  have n1 := h.f1
  have n2 := h.n
  obtain ⟨sv, els, r⟩ := h.read
  have d0 := h.w1
  have d1 := h.w2
  have cW := hid (r.b.cell (i := 1) (v := .int .i64 wd) rfl)
  have NX := hid (fun w' (o : Only [] w w') => next_any w' (h.only0 o))
  have FI := hid (fun w' (o : Only [] w w') => find_any (f + ms.length - 1) w' (h.only0 o) (by omega) (by omega))
  unfold Found leftO at *
  clear r
  rw [if_neg hz]
  obtain ⟨N, hN⟩ : ∃ N : Int, N = f + ms.length := ⟨_, rfl⟩
  rw [← hN] at NX FI ⊢
  have N0 : 0 ≤ N := by omega
  have N1 : N ≤ 8160 := by omega
  have HZ : (N.tmod wd == 0) = false := by
    rw [Int.tmod_eq_emod_of_nonneg N0, hN]
    simpa using hz
  have dz : ¬ wd = 0 := by omega
  generalize lookR f ms (N - 1) = o at *
  clear h hN n2 hz
  go_enter Try.func19, Try.ntmps19
  go_upto_region 1 with (fail)
  generalize hw : w.alloc _ = W
  have HW := hid (show Only [] w W from hw ▸ ((Only.refl [] w).alloc _))
  have b0 : Blk W w.heap.size 40 (mC m0 (.slice none 0 0) (.slice none 0 0) (.slice none 0 0)).toArray := hw ▸ B0.out
  clear hw B0
  obtain ⟨p, hp⟩ : ∃ p, p = w.heap.size := ⟨_, rfl⟩
  rw [← hp] at b0 ⊢
  have HP := hid (show p < W.heap.size ∧ p = w.heap.size from ⟨b0.lt, hp⟩)
  have BP := hid b0
  clear hp b0
  have XC := hid (fun w' (o : Only [] W w') => (HW.out.trans o).cell cW.out (by simp))
  refine wp_region_heldH (fun w' => Only [] W w') 12 (by kernel_rfl) rfl (Only.refl [] W).drew (fun hS => ?_)
  generalize W.drew = wx at *
  refine wpAnyH_read 0 (v := ?va1) rfl (by kernel_rfl) (by kernel_rfl) (by kernel_rfl) (fun _ _ _ h => h) hS (Or.inl ⟨by rfl, ?ya1⟩) ?ra1
  case ya1 =>
    intro w hSw
    have hc := XC.out w hSw
    go_simp
    (try with_reducible rfl)
  (try simp only [Act.put, List.setIfInBounds_toArray, List.set_cons_zero, List.set_cons_succ])
  refine wpAnyH_read 1 (v := ?va2) rfl (by kernel_rfl) (by kernel_rfl) (by kernel_rfl) (fun _ _ _ h => h) hS (Or.inl ⟨by rfl, ?ya2⟩) ?ra2
  case ya2 =>
    intro w hSw
    have hc := XC.out w hSw
    go_simp
    (try with_reducible rfl)
  (try simp only [Act.put, List.setIfInBounds_toArray, List.set_cons_zero, List.set_cons_succ])
  refine wpAnyH_read 2 (v := ?va3) rfl (by kernel_rfl) (by kernel_rfl) (by kernel_rfl) (fun _ _ _ h => h) hS (Or.inl ⟨by rfl, ?ya3⟩) ?ra3
  case ya3 =>
    intro w hSw
    have hc := XC.out w hSw
    go_simp
    (try with_reducible rfl)
  (try simp only [Act.put, List.setIfInBounds_toArray, List.set_cons_zero, List.set_cons_succ])
  refine wpAnyH_read 3 (v := ?va4) rfl (by kernel_rfl) (by kernel_rfl) (by kernel_rfl) (fun _ _ _ h => h) hS (Or.inl ⟨by rfl, ?ya4⟩) ?ra4
  case ya4 =>
    intro w hSw
    have hc := XC.out w hSw
    go_simp
    (try with_reducible rfl)
  (try simp only [Act.put, List.setIfInBounds_toArray, List.set_cons_zero, List.set_cons_succ])
  refine wpAnyH_read 5 (v := ?va5) rfl (by kernel_rfl) (by kernel_rfl) (by kernel_rfl) (fun _ _ _ h => h) hS (Or.inl ⟨by rfl, ?ya5⟩) ?ra5
  case ya5 =>
    intro w hSw
    have hc := XC.out w hSw
    go_simp
    (try with_reducible rfl)
  (try simp only [Act.put, List.setIfInBounds_toArray, List.set_cons_zero, List.set_cons_succ])
  refine wpAnyH_read 6 (v := ?va6) rfl (by kernel_rfl) (by kernel_rfl) (by kernel_rfl) (fun _ _ _ h => h) hS (Or.inl ⟨by rfl, ?ya6⟩) ?ra6
  case ya6 =>
    intro w hSw
    have hc := XC.out w hSw
    go_simp
    (try with_reducible rfl)
  (try simp only [Act.put, List.setIfInBounds_toArray, List.set_cons_zero, List.set_cons_succ])
  refine wpAnyH_read 7 (v := ?va7) rfl (by kernel_rfl) (by kernel_rfl) (by kernel_rfl) (fun _ _ _ h => h) hS (Or.inl ⟨by rfl, ?ya7⟩) ?ra7
  case ya7 =>
    intro w hSw
    have hc := XC.out w hSw
    go_simp
    (try with_reducible rfl)
  (try simp only [Act.put, List.setIfInBounds_toArray, List.set_cons_zero, List.set_cons_succ])
  refine wpAnyH_read 8 (v := ?va8) rfl (by kernel_rfl) (by kernel_rfl) (by kernel_rfl) (fun _ _ _ h => h) hS (Or.inl ⟨by rfl, ?ya8⟩) ?ra8
  case ya8 =>
    intro w hSw
    have hc := XC.out w hSw
    go_simp
    (try with_reducible rfl)
  (try simp only [Act.put, List.setIfInBounds_toArray, List.set_cons_zero, List.set_cons_succ])
  refine wpAnyH_call 4 rfl (by kernel_rfl) (fun J hJ => ?_)
  rw [if_pos (by rfl)]
  go_simp
  refine (NX.out _ (HW.out.trans hS)).mono ?_
  rintro e w0 ⟨rfl, p_⟩
  have s1 := hS.trans p_
  clear p_
  refine hJ.out _ _ s1 ?_
  clear hJ J
  (try simp only [Act.put, List.setIfInBounds_toArray, List.set_cons_zero, List.set_cons_succ])
  refine wpAnyH_read 9 (v := ?va9) rfl (by kernel_rfl) (by kernel_rfl) (by kernel_rfl) (fun _ _ _ h => h) s1 (Or.inl ⟨by rfl, ?ya9⟩) ?ra9
  case ya9 =>
    intro w hSw
    have hc := XC.out w hSw
    go_simp
    (try with_reducible rfl)
  (try simp only [Act.put, List.setIfInBounds_toArray, List.set_cons_zero, List.set_cons_succ])
  refine wpAnyH_read 10 (v := ?va10) rfl (by kernel_rfl) (by kernel_rfl) (by kernel_rfl) (fun _ _ _ h => h) s1 (Or.inl ⟨by rfl, ?ya10⟩) ?ra10
  case ya10 =>
    intro w hSw
    have hc := XC.out w hSw
    go_simp
    (try with_reducible rfl)
  (try simp only [Act.put, List.setIfInBounds_toArray, List.set_cons_zero, List.set_cons_succ])
  refine wpAnyH_read 11 (v := ?va11) rfl (by kernel_rfl) (by kernel_rfl) (by kernel_rfl) (fun _ _ _ h => h) s1 (Or.inl ⟨by rfl, ?ya11⟩) ?ra11
  case ya11 =>
    intro w hSw
    have hc := XC.out w hSw
    go_simp
    (try with_reducible rfl)
  (try simp only [Act.put, List.setIfInBounds_toArray, List.set_cons_zero, List.set_cons_succ])
  refine wpAnyH_done (by kernel_rfl) ?_ _
  have O0 := hid (HW.out.trans s1)
  have BP0 := hid (BP.out.only s1 (by simp))
  clear s1 hS HZ
  go_wp2_with fail
  refine (NX.out w0 O0.out).mono ?_
  rintro e w1 ⟨rfl, o1⟩
  have O1 := hid ((O0.out).trans o1)
  have BP1 := hid (BP0.out.only o1 (by simp))
  clear o1
  go_wp2_with fail
  refine (FI.out w1 O1.out).mono ?_
  rintro e w2 ⟨r1, r2, r3, rfl, ow⟩
  have OW := hid ow
  have b2 := BP1.out.only ow.only (by simp)
  have one2 := hid (one_mC (ansM o) ow.at.one.1 ow.at.one.2.1 ow.at.one.2.2)
  have BL := hid BP1.out.lt
  clear ow
  unfold mV
  go_wp2_with (refine store_blk rfl 40 (.tmp 2) (.tmp 23) rfl p 0 _ _ (mC (ansM o) r1 r2 r3) rfl rfl (info_mb' _ _ _ _) b2 (by simp [mC]) one2.out ?_; intro w4 hB4 hO4)
  rw [setsA_full (by simp [mC])] at hB4
  exact bodyPost_ret (res_ct rfl rfl rfl (lv_mb hB4)) rfl ⟨r1, r2, r3, rfl, OwnM.reach (W := w1) OW.out O1.out hO4 (fun g hg => by have h1 := HP.out; have h2 := BL.out; simp at hg; omega)⟩
theorem left_any {F : Nat → Prop} {nb : Nat} {f wd : Int} {ms : List MV} (w : World) (h : NAt 59 F w nb f wd ms) :
    Calls Try.prog 19 #[.pointer (some ⟨nb, 0, none⟩)] w fun e w' => Found w w' (leftO f wd ms) e := by
  by_cases hz : (f + ms.length) % wd = 0
  · exact left_zero w h hz
  · exact left_more w h hz
end Go.Proofs.Ytfmfknjjhemnoaa

/- The reference's New, Next, at. -/
import Derived.Test.YtfmfknjjhemnoaaNpB
namespace Go.Proofs.Ytfmfknjjhemnoaa
open Go.RowKit
set_option linter.unusedVariables false
set_option linter.unusedSimpArgs false

theorem rnew_no (f wd : Int) (w : World) (h : ¬ okN f wd) : Calls Try.prog 11 #[.int .i64 f, .int .i64 wd] w fun e w' => e = .returned (.tuple #[.pointer none, .int .i64 3]) ∧ w' = w := by
  unfold okN at h
  by_cases h1 : f < 0
  · clear h
    go_enter Try.func11, Try.ntmps11
    go_wp2_with fail
    go_ret2
    exact ⟨rfl, rfl⟩
  by_cases h2 : f ≥ 8160
  · clear h
    go_enter Try.func11, Try.ntmps11
    go_wp2_with fail
    go_ret2
    exact ⟨rfl, rfl⟩
  by_cases h3 : wd < 1
  · clear h
    go_enter Try.func11, Try.ntmps11
    go_wp2_with fail
    go_ret2
    exact ⟨rfl, rfl⟩
  have h4 : wd > 128 := by omega
  clear h
  go_enter Try.func11, Try.ntmps11
  go_wp2_with fail
  go_ret2
  exact ⟨rfl, rfl⟩
theorem rnew_yes (f wd : Int) (w : World) (h : okN f wd) : Calls Try.prog 11 #[.int .i64 f, .int .i64 wd] w fun e w' => e = .returned (.tuple #[.pointer (some ⟨w.heap.size, 0, none⟩), .int .i64 0]) ∧ w' = w.alloc (.cells (nrC f wd (.slice none 0 0)).toArray 61) := by
  obtain ⟨a1, a2, a3, a4⟩ := h
  have h1 : ¬ f < 0 := by omega
  have h2 : ¬ f ≥ 8160 := by omega
  have h3 : ¬ wd < 1 := by omega
  have h4 : ¬ wd > 128 := by omega
  clear a1 a2 a3 a4
  go_enter Try.func11, Try.ntmps11
  go_wp2_with fail
  go_ret2
  exact ⟨rfl, rfl⟩
theorem rnext_any {F : Nat → Prop} {nb : Nat} {f wd : Int} {ms : List MV} (w : World) (h : NAt 61 F w nb f wd ms) : Calls Try.prog 32 #[.pointer (some ⟨nb, 0, none⟩)] w fun e w' => e = .returned (.int .i64 (f + ms.length)) ∧ Only [] w w' := by
  obtain ⟨sv, els, r⟩ := h.read
  obtain ⟨a, c, e, _⟩ := r.sl
  have c0 := r.b.cell (i := 0) (v := .int .i64 f) rfl
  have c2 := r.b.cell (i := 2) (v := .slice a ms.length c) (by rw [← e]; rfl)
  have n0 := h.f0
  have n1 := h.f1
  have n2 : (ms.length : Int) ≤ 8160 := by have := h.n; omega
  clear h r e
  go_enter Try.func32, Try.ntmps32
  go_wp2_with fail
  go_quiet (fail)
  go_wp2_with fail
  go_ret
  exact ⟨rfl, (Only.refl [] w).drewN _⟩
set_option maxRecDepth 1000000 in
set_option maxHeartbeats 4000000 in
theorem rat_no {F : Nat → Prop} {nb : Nat} {f wd : Int} {ms : List MV} (a : Int) (w : World) (h : NAt 61 F w nb f wd ms) (h1 : -1000 ≤ a) (h2 : a < f) :
    Calls Try.prog 42 #[.pointer (some ⟨nb, 0, none⟩), .int .i64 a] w fun e w' => Found w w' none e := by
  obtain ⟨sv, els, r⟩ := h.read
  have C0 := hid (fun w' (o : Only [] w w') => o.cell (r.b.cell (i := 0) (v := .int .i64 f) rfl) (by simp))
  have B0 := hid (blk_m0 w)
  clear h r
  unfold Found ansM
  go_enter Try.func42, Try.ntmps42
  go_upto_region 1 with (fail)
  generalize hw : w.alloc _ = W
  have HW := hid (show Only [] w W from hw ▸ ((Only.refl [] w).alloc _))
  have b0 : Blk W w.heap.size 40 (mC m0 (.slice none 0 0) (.slice none 0 0) (.slice none 0 0)).toArray := hw ▸ B0.out
  clear hw B0
  obtain ⟨p, hp⟩ : ∃ p, p = w.heap.size := ⟨_, rfl⟩
  rw [← hp] at b0 ⊢
  have HP := hid (show p < W.heap.size ∧ p = w.heap.size from ⟨b0.lt, hp⟩)
  clear hp
  have c0 := C0.out W HW.out
  clear C0
  go_wp2_with (refine store_blk rfl 40 (.tmp 4) (.tmp 18) rfl p 0 _ _ (mC m0 (.slice none 0 0) (.slice none 0 0) (.slice none 0 0)) rfl rfl (info_mb' _ _ _ _) b0 (by simp [mC]) one_m0 ?_; intro w2 hB2 hO2)
  rw [setsA_full (by simp [mC])] at hB2
  exact bodyPost_ret (res_ct rfl rfl rfl (lv_mb hB2)) rfl ⟨_, _, _, rfl, ownM_m0 (HW.out.trans2 hO2 (fun g hg => .inr (by have := HP.out; simp at hg; omega)))⟩
set_option maxRecDepth 1000000 in
set_option maxHeartbeats 4000000 in
theorem rat_yes {F : Nat → Prop} {nb : Nat} {f wd : Int} {ms : List MV} (a : Int) (i : Nat) (x : MV) (w : World) (h : NAt 61 F w nb f wd ms) (ha : a = f + i) (hx : ms[i]? = some x) :
    Calls Try.prog 42 #[.pointer (some ⟨nb, 0, none⟩), .int .i64 a] w fun e w' => Found w w' (some x) e := by
  obtain ⟨sv, els, r⟩ := h.read
  obtain ⟨g, o, c, r1, r2, r3, e, hc, hE⟩ := r.look hx
  have n0 := h.f0
  have n1 := h.f1
  have il : i < ms.length := (List.getElem?_eq_some_iff.1 hx).1
  have n2 := h.n
  have NX := hid (fun w' (o : Only [] w w') => rnext_any w' (h.only0 o))
  have SM := hid (h.sm x (List.mem_of_getElem? hx))
  obtain ⟨n, hn⟩ : ∃ n, n = ms.length := ⟨_, rfl⟩
  rw [← hn] at il n2 e NX
  have C0 := hid (fun w' (o : Only [] w w') => o.cell (r.b.cell (i := 0) (v := .int .i64 f) rfl) (by simp))
  have C2 := hid (fun w' (k : Only [] w w') => k.cell (r.b.cell (i := 2) (v := .slice (some ⟨g, o, none⟩) n c) (by rw [← e]; rfl)) (by simp))
  have LD := hid (fun w' (k : Only [] w w') => ho_mb (w := w') (k := g) (off := o + i * 29) (x := x) (rv := r1.sl) (vv := r2.sl) (bv := r3.sl) (fun j v hj => k.cell (hc j v hj) (by simp)))
  have CC := hid (fun w' (o : Only [] w w') => copymb_any x r1.sl r2.sl r3.sl w' (hE.only0 o) (by have := SM.out.r; omega) (by have := SM.out.v; omega) (by have := SM.out.b; omega) (fun l hl => by have := SM.out.i l hl; omega))
  have B0 := hid (blk_m0 w)
  obtain ⟨N, hN⟩ : ∃ N : Int, N = f + n := ⟨_, rfl⟩
  rw [← hN] at NX
  have d1 : a - f = (i : Int) := by omega
  have d2 : ¬ a < f := by omega
  have d3 : ¬ a ≥ N := by omega
  have i1 : 0 ≤ (i : Int) ∧ (i : Int) < (n : Int) := by omega
  have a1 : 0 ≤ a := by omega
  have a2 : a ≤ 100000 := by omega
  have HS := hid (show IntKind.i64.wrap (i : Int) = (i : Int) from IntWalk.i64_in _ (by omega))
  clear h r e hc hE ha hx n2 il hn hN
  unfold Found ansM
  go_enter Try.func42, Try.ntmps42
  go_upto_region 1 with (fail)
  generalize hw : w.alloc _ = W
  have HW := hid (show Only [] w W from hw ▸ ((Only.refl [] w).alloc _))
  have b0 : Blk W w.heap.size 40 (mC m0 (.slice none 0 0) (.slice none 0 0) (.slice none 0 0)).toArray := hw ▸ B0.out
  clear hw B0
  obtain ⟨p, hp⟩ : ∃ p, p = w.heap.size := ⟨_, rfl⟩
  rw [← hp] at b0 ⊢
  have HP := hid (show p < W.heap.size ∧ p = w.heap.size from ⟨b0.lt, hp⟩)
  clear hp
  have BP := hid b0
  have c0 := C0.out W HW.out
  clear b0
  go_wp2_with fail
  refine (NX.out W HW.out).mono ?_
  rintro e w1 ⟨rfl, o1⟩
  have O1 := hid (HW.out.trans o1)
  have BP1 := hid (BP.out.only o1 (by simp))
  clear o1 c0
  go_upto_region 3 with (fail)
  refine wp_region_tail (fun w' => Only [] w1 w') 13 15 (by kernel_rfl) rfl (Only.refl [] w1).drew (fun hS => ?_)
  generalize w1.drew = wx at *
  refine wpAnyT_take 0 (v := ?va0) rfl (by kernel_rfl) (fun _ _ _ h => h) (Or.inl ⟨by rfl, ?ya0⟩) hS ?ra0
  case ya0 =>
    intro w hSw
    have hc0 := C0.out w (O1.out.trans hSw)
    have hc2 := C2.out w (O1.out.trans hSw)
    have hs := HS.out
    go_simp
    (try with_reducible rfl)
  (try simp only [Act.put, List.setIfInBounds_toArray, List.set_cons_zero, List.set_cons_succ])
  refine wpAnyT_take 1 (v := ?va1) rfl (by kernel_rfl) (fun _ _ _ h => h) (Or.inl ⟨by rfl, ?ya1⟩) hS ?ra1
  case ya1 =>
    intro w hSw
    have hc0 := C0.out w (O1.out.trans hSw)
    have hc2 := C2.out w (O1.out.trans hSw)
    have hs := HS.out
    go_simp
    (try with_reducible rfl)
  (try simp only [Act.put, List.setIfInBounds_toArray, List.set_cons_zero, List.set_cons_succ])
  refine wpAnyT_take 2 (v := ?va2) rfl (by kernel_rfl) (fun _ _ _ h => h) (Or.inl ⟨by rfl, ?ya2⟩) hS ?ra2
  case ya2 =>
    intro w hSw
    have hc0 := C0.out w (O1.out.trans hSw)
    have hc2 := C2.out w (O1.out.trans hSw)
    have hs := HS.out
    go_simp
    (try with_reducible rfl)
  (try simp only [Act.put, List.setIfInBounds_toArray, List.set_cons_zero, List.set_cons_succ])
  refine wpAnyT_take 3 (v := ?va3) rfl (by kernel_rfl) (fun _ _ _ h => h) (Or.inl ⟨by rfl, ?ya3⟩) hS ?ra3
  case ya3 =>
    intro w hSw
    have hc0 := C0.out w (O1.out.trans hSw)
    have hc2 := C2.out w (O1.out.trans hSw)
    have hs := HS.out
    go_simp
    (try with_reducible rfl)
  (try simp only [Act.put, List.setIfInBounds_toArray, List.set_cons_zero, List.set_cons_succ])
  refine wpAnyT_take 4 (v := ?va4) rfl (by kernel_rfl) (fun _ _ _ h => h) (Or.inl ⟨by rfl, ?ya4⟩) hS ?ra4
  case ya4 =>
    intro w hSw
    have hc0 := C0.out w (O1.out.trans hSw)
    have hc2 := C2.out w (O1.out.trans hSw)
    have hs := HS.out
    go_simp
    (try with_reducible rfl)
  (try simp only [Act.put, List.setIfInBounds_toArray, List.set_cons_zero, List.set_cons_succ])
  refine wpAnyT_take 5 (v := ?va5) rfl (by kernel_rfl) (fun _ _ _ h => h) (Or.inl ⟨by rfl, ?ya5⟩) hS ?ra5
  case ya5 =>
    intro w hSw
    have hc0 := C0.out w (O1.out.trans hSw)
    have hc2 := C2.out w (O1.out.trans hSw)
    have hs := HS.out
    go_simp
    (try with_reducible rfl)
  (try simp only [Act.put, List.setIfInBounds_toArray, List.set_cons_zero, List.set_cons_succ])
  refine wpAnyT_take 6 (v := ?va6) rfl (by kernel_rfl) (fun _ _ _ h => h) (Or.inl ⟨by rfl, ?ya6⟩) hS ?ra6
  case ya6 =>
    intro w hSw
    have hc0 := C0.out w (O1.out.trans hSw)
    have hc2 := C2.out w (O1.out.trans hSw)
    have hs := HS.out
    go_simp
    (try with_reducible rfl)
  (try simp only [Act.put, List.setIfInBounds_toArray, List.set_cons_zero, List.set_cons_succ])
  refine wpAnyT_take 7 (v := ?va7) rfl (by kernel_rfl) (fun _ _ _ h => h) (Or.inl ⟨by rfl, ?ya7⟩) hS ?ra7
  case ya7 =>
    intro w hSw
    have hc0 := C0.out w (O1.out.trans hSw)
    have hc2 := C2.out w (O1.out.trans hSw)
    have hs := HS.out
    go_simp
    (try with_reducible rfl)
  (try simp only [Act.put, List.setIfInBounds_toArray, List.set_cons_zero, List.set_cons_succ])
  refine wpAnyT_take 8 (v := ?va8) rfl (by kernel_rfl) (fun _ _ _ h => h) (Or.inl ⟨by rfl, ?ya8⟩) hS ?ra8
  case ya8 =>
    intro w hSw
    have hc0 := C0.out w (O1.out.trans hSw)
    have hc2 := C2.out w (O1.out.trans hSw)
    have hs := HS.out
    go_simp
    (try with_reducible rfl)
  (try simp only [Act.put, List.setIfInBounds_toArray, List.set_cons_zero, List.set_cons_succ])
  refine wpAnyT_take 9 (v := ?va9) rfl (by kernel_rfl) (fun _ _ _ h => h) (Or.inl ⟨by rfl, ?ya9⟩) hS ?ra9
  case ya9 =>
    intro w hSw
    have hc0 := C0.out w (O1.out.trans hSw)
    have hc2 := C2.out w (O1.out.trans hSw)
    have hs := HS.out
    go_simp
    (try with_reducible rfl)
  (try simp only [Act.put, List.setIfInBounds_toArray, List.set_cons_zero, List.set_cons_succ])
  refine wpAnyT_take 10 (v := ?va10) rfl (by kernel_rfl) (fun _ _ _ h => h) (Or.inl ⟨by rfl, ?ya10⟩) hS ?ra10
  case ya10 =>
    intro w hSw
    have hc0 := C0.out w (O1.out.trans hSw)
    have hc2 := C2.out w (O1.out.trans hSw)
    have hs := HS.out
    go_simp
    (try with_reducible rfl)
  (try simp only [Act.put, List.setIfInBounds_toArray, List.set_cons_zero, List.set_cons_succ])
  refine wpAnyT_take 11 rfl (by kernel_rfl) (fun _ _ _ h => h) (yields_load 40 _ (by rfl) rfl ⟨g, o + i * 29, none⟩ (mC x r1.sl r2.sl r3.sl) rfl (fun w h => LD.out w (O1.out.trans h))) hS ?_
  (try simp only [Act.put, List.setIfInBounds_toArray, List.set_cons_zero, List.set_cons_succ])
  refine wpAnyT_call 12 rfl (by kernel_rfl) (fun K hK => ?_)
  go_simp
  refine (CC.out _ (O1.out.trans hS)).mono ?_
  rintro e w3 ⟨t1, t2, t3, rfl, ow⟩
  have hS1 : Only [] w1 w3 := hS.trans ow.only
  refine hK.out _ _ hS1 ?_
  clear hK K
  (try simp only [Act.put, List.setIfInBounds_toArray, List.set_cons_zero, List.set_cons_succ])
  refine wpAnyT_tail _ rfl (by kernel_rfl) ?_
  simp only [List.drop_succ_cons, List.drop_zero]
  have OW := hid ow
  have b3 := BP1.out.only hS1 (by simp)
  have OX := hid (O1.out.trans hS)
  have BL := hid (Nat.lt_of_lt_of_le BP1.out.lt hS.size)
  have one3 := hid (one_mC x ow.at.one.1 ow.at.one.2.1 ow.at.one.2.2)
  clear ow hS hS1
  unfold mV
  go_wp2_with (refine store_blk rfl 40 (.tmp 4) (.tmp 31) rfl p 0 _ _ (mC x t1 t2 t3) rfl rfl (info_mb' _ _ _ _) b3 (by simp [mC]) one3.out ?_; intro w4 hB4 hO4)
  rw [setsA_full (by simp [mC])] at hB4
  exact bodyPost_ret (res_ct rfl rfl rfl (lv_mb hB4)) rfl ⟨t1, t2, t3, rfl, OwnM.reach (W := wx) OW.out OX.out hO4 (fun g hg => by have h1 := HP.out; have h2 := BL.out; simp at hg; omega)⟩
theorem rat_any {F : Nat → Prop} {nb : Nat} {f wd : Int} {ms : List MV} (a : Int) (w : World) (h : NAt 61 F w nb f wd ms) (h1 : -1000 ≤ a) (h2 : a < f + ms.length) :
    Calls Try.prog 42 #[.pointer (some ⟨nb, 0, none⟩), .int .i64 a] w fun e w' => Found w w' (lookR f ms a) e := by
  by_cases hf : a < f
  · rw [lookR_no hf]
    exact rat_no a w h h1 hf
  · obtain ⟨i, rfl⟩ : ∃ i : Nat, a = f + i := ⟨(a - f).toNat, by omega⟩
    obtain ⟨x, hx⟩ : ∃ x, ms[i]? = some x := ⟨_, List.getElem?_eq_getElem (by omega)⟩
    rw [lookR_yes, hx]
    exact rat_yes _ i x w h rfl hx
end Go.Proofs.Ytfmfknjjhemnoaa

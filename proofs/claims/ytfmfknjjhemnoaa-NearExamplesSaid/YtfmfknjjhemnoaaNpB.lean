/- The program's at and find: the method value. -/
import Derived.Test.YtfmfknjjhemnoaaNpA
namespace Go.Proofs.Ytfmfknjjhemnoaa
open Go.RowKit
set_option linter.unusedVariables false
set_option linter.unusedSimpArgs false

/-- An empty macroblock's cells. -/
theorem blk_m0 (w : World) : Blk (w.alloc (.cells (mC m0 (.slice none 0 0) (.slice none 0 0) (.slice none 0 0)).toArray 40)) w.heap.size 40 (mC m0 (.slice none 0 0) (.slice none 0 0) (.slice none 0 0)).toArray := Blk.new _ _ _
theorem one_m0 : ∀ v ∈ mC m0 (.slice none 0 0) (.slice none 0 0) (.slice none 0 0), v.oneCell' = true := one_mC m0 rfl rfl rfl
theorem mAt_m0 (w : World) : MAt w m0 (.slice none 0 0) (.slice none 0 0) (.slice none 0 0) := (ownM_m0 (Only.refl [] w)).at
set_option maxRecDepth 1000000 in
set_option maxHeartbeats 2000000 in
theorem at_no {F : Nat → Prop} {nb : Nat} {f wd : Int} {ms : List MV} (a : Int) (w : World) (h : NAt 59 F w nb f wd ms) (h1 : -1000 ≤ a) (h2 : a < f) :
    Calls Try.prog 37 #[.pointer (some ⟨nb, 0, none⟩), .int .i64 a] w fun e w' => e = .returned (.tuple #[mV m0 (.slice none 0 0) (.slice none 0 0) (.slice none 0 0), .bool false]) ∧ Only [] w w' := by
  obtain ⟨sv, els, r⟩ := h.read
  have c0 := r.b.cell (i := 0) (v := .int .i64 f) rfl
  have n0 := h.f0
  have n1 := h.f1
  have hlt := h.lt nb h.mem
  have C0 := hid ((Only.refl [] w).alloc (.cells (mC m0 (.slice none 0 0) (.slice none 0 0) (.slice none 0 0)).toArray 40) |>.cell c0 (by simp))
  have d1 : a - f < 0 := by omega
  have B0 := hid (blk_m0 w)
  clear h r c0 hlt
  go_enter Try.func37, Try.ntmps37
  go_upto_region 1 with (fail)
  generalize hw : w.alloc _ = W
  have HW := hid (show Only [] w W from hw ▸ ((Only.refl [] w).alloc _))
  have c0 : W.cell? ⟨nb, 0, none⟩ = some (.int .i64 f) := hw ▸ C0.out
  have b0 : Blk W w.heap.size 40 (mC m0 (.slice none 0 0) (.slice none 0 0) (.slice none 0 0)).toArray := hw ▸ B0.out
  clear hw C0 B0
  obtain ⟨p, hp⟩ : ∃ p, p = w.heap.size := ⟨_, rfl⟩
  rw [← hp] at b0 ⊢
  have HP := hid hp
  clear hp
  go_wp2_with (refine store_blk rfl 40 (.tmp 4) (.tmp 15) rfl p 0 _ _ (mC m0 (.slice none 0 0) (.slice none 0 0) (.slice none 0 0)) rfl rfl (info_mb' _ _ _ _) b0 (by simp [mC]) one_m0 ?_; intro w2 hB2 hO2)
  rw [setsA_full (by simp [mC])] at hB2
  refine bodyPost_ret (res_ct rfl rfl rfl (lv_mb hB2)) rfl ⟨rfl, HW.out.trans2 hO2 (fun g hg => .inr (by have := HP.out; simp at hg; omega))⟩
theorem NRead.look {T : TypeId} {w : World} {nb : Nat} {f wd : Int} {ms : List MV} {sv : SlV} {els : List El} (r : NRead T w nb f wd ms sv els) {i : Nat} {x : MV} (hx : ms[i]? = some x) :
    ∃ g o c r1 r2 r3, sv.sl = .slice (some ⟨g, o, none⟩) ms.length c ∧ CellsAt elC w g (o + i * 29) (x, r1, r2, r3) ∧ EAt w (x, r1, r2, r3) := by
  obtain ⟨a, c, e, hl⟩ := r.sl
  rw [← r.m, List.getElem?_map] at hx
  obtain ⟨el, he, rfl⟩ := Option.map_eq_some_iff.1 hx
  have hh := r.h
  rw [e] at hh
  obtain ⟨g, o, rfl, hc⟩ := hh.at he
  exact ⟨g, o, c, el.2.1, el.2.2.1, el.2.2.2, e, hc, r.e el (List.mem_of_getElem? he)⟩
set_option maxRecDepth 1000000 in
set_option maxHeartbeats 2000000 in
theorem at_yes {F : Nat → Prop} {nb : Nat} {f wd : Int} {ms : List MV} (a : Int) (i : Nat) (x : MV) (w : World) (h : NAt 59 F w nb f wd ms) (ha : a = f + i) (hx : ms[i]? = some x) :
    Calls Try.prog 37 #[.pointer (some ⟨nb, 0, none⟩), .int .i64 a] w fun e w' => ∃ rv vv bv, e = .returned (.tuple #[mV x rv vv bv, .bool true]) ∧ MAt w' x rv vv bv ∧ Only [] w w' := by
  obtain ⟨sv, els, r⟩ := h.read
  obtain ⟨g, o, c, r1, r2, r3, e, hc, hE⟩ := r.look hx
  have n0 := h.f0
  have n1 := h.f1
  have il : i < ms.length := (List.getElem?_eq_some_iff.1 hx).1
  have n2 := h.n
  obtain ⟨n, hn⟩ : ∃ n, n = ms.length := ⟨_, rfl⟩
  rw [← hn] at il n2 e
  have c0 := r.b.cell (i := 0) (v := .int .i64 f) rfl
  have c2 := r.b.cell (i := 2) (v := .slice (some ⟨g, o, none⟩) n c) (by rw [← e]; rfl)
  have oa : Only [] w (w.alloc (.cells (mC m0 (.slice none 0 0) (.slice none 0 0) (.slice none 0 0)).toArray 40)) := (Only.refl [] w).alloc _
  have C0 := hid (oa.cell c0 (by simp))
  have C2 := hid (oa.cell c2 (by simp))
  have CE := hid (fun j v hj => oa.cell (hc j v hj) (by simp))
  have E0 := hid hE
  have d1 : a - f = (i : Int) := by omega
  have i0 : ¬ (i : Int) < 0 := by omega
  have i1 : 0 ≤ (i : Int) ∧ (i : Int) < (n : Int) := by omega
  have a1 : 0 ≤ a := by omega
  have a2 : a ≤ 100000 := by omega
  have B0 := hid (blk_m0 w)
  clear h r c0 c2 oa e hc hE ha hx n2 il hn
  go_enter Try.func37, Try.ntmps37
  go_upto_region 1 with (fail)
  generalize hw : w.alloc _ = W
  have HW := hid (show Only [] w W from hw ▸ ((Only.refl [] w).alloc _))
  have c0 : W.cell? ⟨nb, 0, none⟩ = some (.int .i64 f) := hw ▸ C0.out
  have c2 : W.cell? ⟨nb, 2, none⟩ = some (.slice (some ⟨g, o, none⟩) n c) := hw ▸ C2.out
  have LD := hid (ho_mb (w := W) (k := g) (off := o + i * 29) (x := x) (rv := r1.sl) (vv := r2.sl) (bv := r3.sl) (hw ▸ CE.out))
  have b0 : Blk W w.heap.size 40 (mC m0 (.slice none 0 0) (.slice none 0 0) (.slice none 0 0)).toArray := hw ▸ B0.out
  clear hw C0 C2 CE B0
  obtain ⟨p, hp⟩ : ∃ p, p = w.heap.size := ⟨_, rfl⟩
  rw [← hp] at b0 ⊢
  have HP := hid (show p < W.heap.size ∧ p = w.heap.size from ⟨b0.lt, hp⟩)
  clear hp
  have one := hid (one_mC x (rv := r1.sl) (vv := r2.sl) (bv := r3.sl) rfl rfl rfl)
  go_wp2_with (first
    | (refine load_atA rfl 40 (.tmp 21) rfl ⟨g, o + i * 29, none⟩ (mC x r1.sl r2.sl r3.sl) rfl LD.out ?_; simp only [Act.put, List.setIfInBounds_toArray, List.set_cons_zero, List.set_cons_succ])
    | (refine store_blk rfl 40 (.tmp 4) (.tmp 22) rfl p 0 _ _ (mC x r1.sl r2.sl r3.sl) rfl rfl (info_mb' _ _ _ _) b0 (by simp [mC]) one.out ?_; intro w2 hB2 hO2))
  rw [setsA_full (by simp [mC])] at hB2
  have ON := HW.out.trans2 hO2 (fun g hg => .inr (by have := HP.out; simp at hg; omega))
  exact bodyPost_ret (res_ct rfl rfl rfl (lv_mb hB2)) rfl ⟨r1.sl, r2.sl, r3.sl, rfl, E0.out.only0 ON, ON⟩
theorem lookR_no {f : Int} {ms : List MV} {a : Int} (h : a < f) : lookR f ms a = none := by rw [lookR, if_pos h]
theorem lookR_yes {f : Int} {ms : List MV} (i : Nat) : lookR f ms (f + i) = ms[i]? := by
  rw [lookR, if_neg (by omega), show f + i - f = (i : Int) by omega, Int.toNat_natCast]
theorem at_any {F : Nat → Prop} {nb : Nat} {f wd : Int} {ms : List MV} (a : Int) (w : World) (h : NAt 59 F w nb f wd ms) (h1 : -1000 ≤ a) (h2 : a < f + ms.length) :
    Calls Try.prog 37 #[.pointer (some ⟨nb, 0, none⟩), .int .i64 a] w fun e w' => ∃ rv vv bv, e = .returned (.tuple #[mV (ansM (lookR f ms a)) rv vv bv, .bool (lookR f ms a).isSome]) ∧ MAt w' (ansM (lookR f ms a)) rv vv bv ∧ Only [] w w' := by
  by_cases hf : a < f
  · rw [lookR_no hf]
    exact (at_no a w h h1 hf).mono fun e w' ⟨he, ho⟩ => ⟨_, _, _, he, mAt_m0 w', ho⟩
  · obtain ⟨i, rfl⟩ : ∃ i : Nat, a = f + i := ⟨(a - f).toNat, by omega⟩
    obtain ⟨x, hx⟩ : ∃ x, ms[i]? = some x := ⟨_, List.getElem?_eq_getElem (by omega)⟩
    rw [lookR_yes, hx]
    exact at_yes _ i x w h rfl hx
theorem ans_small {F : Nat → Prop} {T : TypeId} {w : World} {nb : Nat} {f wd : Int} {ms : List MV} (h : NAt T F w nb f wd ms) (a : Int) : MSm (ansM (lookR f ms a)) := by
  cases ho : lookR f ms a with
  | none => exact msm_m0
  | some x => exact h.sm x (lookR_mem ho)
set_option maxRecDepth 1000000 in
set_option maxHeartbeats 4000000 in
theorem find_any {F : Nat → Prop} {nb : Nat} {f wd : Int} {ms : List MV} (a : Int) (w : World) (h : NAt 59 F w nb f wd ms) (h1 : -1000 ≤ a) (h2 : a < f + ms.length) :
    Calls Try.prog 36 #[.func (.func 37) #[.pointer (some ⟨nb, 0, none⟩)] #[], .int .i64 a] w fun e w' => Found w w' (lookR f ms a) e := by
  have SM := hid (ans_small h a)
  have AT := hid (fun w' (o : Only [] w w') => at_any a w' (h.only0 o) h1 h2)
  unfold Found
  generalize lookR f ms a = o at *
  have B0 := hid (blk_m0 w)
  clear h h1 h2
  go_enter Try.func36, Try.ntmps36
  go_upto_region 1 with (fail)
  generalize hw : w.alloc _ = W
  have HW := hid (show Only [] w W from hw ▸ ((Only.refl [] w).alloc _))
  have b0 : Blk W w.heap.size 40 (mC m0 (.slice none 0 0) (.slice none 0 0) (.slice none 0 0)).toArray := hw ▸ B0.out
  clear hw B0
  obtain ⟨p, hp⟩ : ∃ p, p = w.heap.size := ⟨_, rfl⟩
  rw [← hp] at b0 ⊢
  have HP := hid (show p < W.heap.size ∧ p = w.heap.size from ⟨b0.lt, hp⟩)
  have BP := hid b0
  clear hp b0
  have A1 := hid (AT.out W HW.out)
  go_wp2_with fail
  refine A1.out.mono ?_
  rintro e w1 ⟨rv, vv, bv, rfl, hm, o1⟩
  obtain ⟨s1, s2, s3, rfl, rfl, rfl⟩ := hm.sl
  have O1 := hid (HW.out.trans o1)
  have M1 := hid hm
  have B1 := blk_m0 w1
  have BP1 := hid (BP.out.only o1 (by simp))
  obtain ⟨q, hq⟩ : ∃ q, q = w1.heap.size := ⟨_, rfl⟩
  have HQ := hid (show w.heap.size ≤ q ∧ p < q from by rw [hq]; exact ⟨O1.out.size, BP1.out.lt⟩)
  have one := hid (one_mC (ansM o) (rv := s1.sl) (vv := s2.sl) (bv := s3.sl) rfl rfl rfl)
  clear hm o1
  unfold mV
  go_upto_region 2 with (refine store_blk rfl 40 (.tmp 6) (.tmp 12) rfl w1.heap.size 0 _ _ (mC (ansM o) s1.sl s2.sl s3.sl) rfl rfl (info_mb' _ _ _ _) B1 (by simp [mC]) one.out ?_; intro w2 hB2 hO2)
  rw [setsA_full (by simp [mC])] at hB2
  rw [← hq] at hB2 hO2 ⊢
  have O2 := hid (show Only [] w w2 from (O1.out.alloc _).trans2 hO2 (fun g hg => .inr (by have := HQ.out; simp at hg; omega)))
  have O12 := hid (show Only [] w1 w2 from ((Only.refl [] w1).alloc _).trans2 hO2 (fun g hg => .inr (by simp at hg; omega)))
  have CP := hid (copy13_any (ansM o) s1.sl s2.sl s3.sl w2 (M1.out.only0 O12.out) (by have := SM.out.r; omega) (by have := SM.out.v; omega) (by have := SM.out.b; omega) (fun l hl => by have := SM.out.i l hl; omega))
  have BP2 := hid (BP1.out.only O12.out (by simp))
  clear hq hO2 B1
  go_wp2_with (refine load_atA rfl 40 (.tmp 6) rfl ⟨q, 0, none⟩ (mC (ansM o) s1.sl s2.sl s3.sl) rfl hB2.mb ?_; simp only [Act.put, List.setIfInBounds_toArray, List.set_cons_zero, List.set_cons_succ])
  refine CP.out.mono ?_
  rintro e w3 ⟨r1, r2, r3, rfl, ow⟩
  have OW := hid ow
  have b3 := BP2.out.only ow.only (by simp)
  have one3 := hid (one_mC (ansM o) ow.at.one.1 ow.at.one.2.1 ow.at.one.2.2)
  clear ow hB2
  unfold mV
  go_wp2_with (refine store_blk rfl 40 (.tmp 4) (.tmp 15) rfl p 0 _ _ (mC (ansM o) r1 r2 r3) rfl rfl (info_mb' _ _ _ _) b3 (by simp [mC]) one3.out ?_; intro w4 hB4 hO4)
  rw [setsA_full (by simp [mC])] at hB4
  exact bodyPost_ret (res_ct rfl rfl rfl (lv_mb hB4)) rfl ⟨r1, r2, r3, rfl, OwnM.reach (W := w2) OW.out O2.out hO4 (fun g hg => by have h1 := HP.out; have h2 := BP2.out.lt; simp at hg; omega)⟩
end Go.Proofs.Ytfmfknjjhemnoaa

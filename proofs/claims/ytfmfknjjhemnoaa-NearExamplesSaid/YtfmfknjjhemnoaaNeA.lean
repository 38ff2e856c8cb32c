/- NearExamples, for whatever comes in. -/
import Derived.Test.YtfmfknjjhemnoaaNpU
namespace Go.Proofs.Ytfmfknjjhemnoaa
open Go.RowKit
set_option linter.unusedVariables false
set_option linter.unusedSimpArgs false

set_option maxRecDepth 1000000 in
set_option maxHeartbeats 4000000 in
theorem left_nil (w : World) : Calls Try.prog 19 #[.pointer none] w fun e w' => FoundB w w' m0 false e := by
  have B0 := hid (blk_m0 w)
  unfold FoundB
  go_enter Try.func19, Try.ntmps19
  go_upto_region 1 with (fail)
  generalize hw : w.alloc _ = W
  have HW := hid (show Only [] w W from hw ▸ ((Only.refl [] w).alloc _))
  have b0 : Blk W w.heap.size 40 (mC m0 (.slice none 0 0) (.slice none 0 0) (.slice none 0 0)).toArray := hw ▸ B0.out
  clear hw B0
  obtain ⟨p, hp⟩ : ∃ p, p = w.heap.size := ⟨_, rfl⟩
  rw [← hp] at b0 ⊢
  have HP := hid (show p < W.heap.size ∧ p = w.heap.size from ⟨b0.lt, hp⟩)
  have BP := hid b0
  clear hp b0
  refine wp_region_heldH (fun w' => Only [] W w') 12 (by kernel_rfl) rfl (Only.refl [] W).drew (fun hS => ?_)
  generalize W.drew = wx at *
  refine wpAnyH_read 0 (v := ?va1) rfl (by kernel_rfl) (by kernel_rfl) (by kernel_rfl) (fun _ _ _ h => h) hS (Or.inl ⟨by rfl, ?ya1⟩) ?ra1
  case ya1 =>
    intro w hSw

    go_simp
    (try with_reducible rfl)
  (try simp only [Act.put, List.setIfInBounds_toArray, List.set_cons_zero, List.set_cons_succ])
  refine wpAnyH_read 1 (v := ?va2) rfl (by kernel_rfl) (by kernel_rfl) (by kernel_rfl) (fun _ _ _ h => h) hS (Or.inl ⟨by rfl, ?ya2⟩) ?ra2
  case ya2 =>
    intro w hSw

    go_simp
    (try with_reducible rfl)
  (try simp only [Act.put, List.setIfInBounds_toArray, List.set_cons_zero, List.set_cons_succ])
  refine wpAnyH_read 2 (v := ?va3) rfl (by kernel_rfl) (by kernel_rfl) (by kernel_rfl) (fun _ _ _ h => h) hS (Or.inl ⟨by rfl, ?ya3⟩) ?ra3
  case ya3 =>
    intro w hSw

    go_simp
    (try with_reducible rfl)
  (try simp only [Act.put, List.setIfInBounds_toArray, List.set_cons_zero, List.set_cons_succ])
  refine wpAnyH_read 3 (v := undef) rfl (by kernel_rfl) (by kernel_rfl) (by kernel_rfl) (fun _ _ _ h => h) hS (Or.inr ⟨by rfl, rfl⟩) ?_
  (try simp only [Act.put, List.setIfInBounds_toArray, List.set_cons_zero, List.set_cons_succ])
  refine wpAnyH_read 4 (v := undef) rfl (by kernel_rfl) (by kernel_rfl) (by kernel_rfl) (fun _ _ _ h => h) hS (Or.inr ⟨by rfl, rfl⟩) ?_
  (try simp only [Act.put, List.setIfInBounds_toArray, List.set_cons_zero, List.set_cons_succ])
  refine wpAnyH_read 5 (v := undef) rfl (by kernel_rfl) (by kernel_rfl) (by kernel_rfl) (fun _ _ _ h => h) hS (Or.inr ⟨by rfl, rfl⟩) ?_
  (try simp only [Act.put, List.setIfInBounds_toArray, List.set_cons_zero, List.set_cons_succ])
  refine wpAnyH_read 6 (v := undef) rfl (by kernel_rfl) (by kernel_rfl) (by kernel_rfl) (fun _ _ _ h => h) hS (Or.inr ⟨by rfl, rfl⟩) ?_
  (try simp only [Act.put, List.setIfInBounds_toArray, List.set_cons_zero, List.set_cons_succ])
  refine wpAnyH_read 7 (v := undef) rfl (by kernel_rfl) (by kernel_rfl) (by kernel_rfl) (fun _ _ _ h => h) hS (Or.inr ⟨by rfl, rfl⟩) ?_
  (try simp only [Act.put, List.setIfInBounds_toArray, List.set_cons_zero, List.set_cons_succ])
  refine wpAnyH_read 8 (v := undef) rfl (by kernel_rfl) (by kernel_rfl) (by kernel_rfl) (fun _ _ _ h => h) hS (Or.inr ⟨by rfl, rfl⟩) ?_
  (try simp only [Act.put, List.setIfInBounds_toArray, List.set_cons_zero, List.set_cons_succ])
  refine wpAnyH_read 9 (v := undef) rfl (by kernel_rfl) (by kernel_rfl) (by kernel_rfl) (fun _ _ _ h => h) hS (Or.inr ⟨by rfl, rfl⟩) ?_
  (try simp only [Act.put, List.setIfInBounds_toArray, List.set_cons_zero, List.set_cons_succ])
  refine wpAnyH_read 10 (v := undef) rfl (by kernel_rfl) (by kernel_rfl) (by kernel_rfl) (fun _ _ _ h => h) hS (Or.inr ⟨by rfl, rfl⟩) ?_
  (try simp only [Act.put, List.setIfInBounds_toArray, List.set_cons_zero, List.set_cons_succ])
  refine wpAnyH_read 11 (v := ?va12) rfl (by kernel_rfl) (by kernel_rfl) (by kernel_rfl) (fun _ _ _ h => h) hS (Or.inl ⟨by rfl, ?ya12⟩) ?ra12
  case ya12 =>
    intro w hSw

    go_simp
    (try with_reducible rfl)
  (try simp only [Act.put, List.setIfInBounds_toArray, List.set_cons_zero, List.set_cons_succ])
  refine wpAnyH_done (by kernel_rfl) ?_ _
  have BP1 := BP.out.only hS (by simp)
  have O1 := hid (HW.out.trans hS)
  clear hS
  go_wp2_with (refine store_blk rfl 40 (.tmp 2) (.tmp 16) rfl p 0 _ _ (mC m0 (.slice none 0 0) (.slice none 0 0) (.slice none 0 0)) rfl rfl (info_mb' _ _ _ _) BP1 (by simp [mC]) one_m0 ?_; intro w4 hB4 hO4)
  rw [setsA_full (by simp [mC])] at hB4
  exact bodyPost_ret (res_ct rfl rfl rfl (lv_mb hB4)) rfl ⟨_, _, _, rfl, ownM_m0 (O1.out.trans2 hO4 (fun g hg => .inr (by have := HP.out; simp at hg; omega)))⟩
/-- What the example i looks at: an object, what it finds, what is wanted. -/
structure ExI (W : World) (ql qw i : Nat) (nb ri : Nat) (ol oa ot : Option MV) (a b c : Int) : Prop where
  cp : W.cell? ⟨ql, i, none⟩ = some (.pointer (some ⟨nb, 0, none⟩))
  cq : W.cell? ⟨qw, i, none⟩ = some (.slice (some ⟨ri, 0, none⟩) 3 3)
  ca : W.cell? ⟨ri, 0, none⟩ = some (.int .i64 a)
  cb : W.cell? ⟨ri, 1, none⟩ = some (.int .i64 b)
  cc : W.cell? ⟨ri, 2, none⟩ = some (.int .i64 c)
  cl : ∀ w', Only [] W w' → Calls Try.prog 19 #[.pointer (some ⟨nb, 0, none⟩)] w' fun e w'' => Found w' w'' ol e
  cu : ∀ w', Only [] W w' → Calls Try.prog 20 #[.pointer (some ⟨nb, 0, none⟩)] w' fun e w'' => Found w' w'' oa e
  ct : ∀ w', Only [] W w' → Calls Try.prog 21 #[.pointer (some ⟨nb, 0, none⟩)] w' fun e w'' => Found w' w'' ot e
  fl : (ol = none → a = 0) ∧ ∀ x, ol = some x → x.qp = a ∧ a ≠ 0
  fu : (oa = none → b = 0) ∧ ∀ x, oa = some x → x.qp = b ∧ b ≠ 0
  ft : (ot = none → c = 0) ∧ ∀ x, ot = some x → x.qp = c ∧ c ≠ 0
theorem exI_of {W : World} {ql qw i nb ri : Nat} {F : Nat → Prop} {f wd : Int} {ms : List MV} {a b c : Int} (hN : NAt 59 F W nb f wd ms) (p : W.cell? ⟨ql, i, none⟩ = some (.pointer (some ⟨nb, 0, none⟩))) (q : W.cell? ⟨qw, i, none⟩ = some (.slice (some ⟨ri, 0, none⟩) 3 3))
    (ha : W.cell? ⟨ri, 0, none⟩ = some (.int .i64 a)) (hb : W.cell? ⟨ri, 1, none⟩ = some (.int .i64 b)) (hc : W.cell? ⟨ri, 2, none⟩ = some (.int .i64 c))
    (fl : (leftO f wd ms = none → a = 0) ∧ ∀ x, leftO f wd ms = some x → x.qp = a ∧ a ≠ 0) (fu : (aboveO f wd ms = none → b = 0) ∧ ∀ x, aboveO f wd ms = some x → x.qp = b ∧ b ≠ 0) (ft : (lastO f ms = none → c = 0) ∧ ∀ x, lastO f ms = some x → x.qp = c ∧ c ≠ 0) :
    ∃ nb ri ol oa ot a b c, ExI W ql qw i nb ri ol oa ot a b c :=
  ⟨nb, ri, _, _, _, a, b, c, p, q, ha, hb, hc, fun w' o => left_any w' (hN.only0 o), fun w' o => above_any w' (hN.only0 o), fun w' o => last_any w' (hN.only0 o), fl, fu, ft⟩
theorem ex_none {o : Option MV} (h : o = none) : (o = none → (0 : Int) = 0) ∧ ∀ x, o = some x → x.qp = 0 ∧ (0 : Int) ≠ 0 := ⟨fun _ => rfl, fun x hx => by rw [h] at hx; cases hx⟩
theorem ex_some {o : Option MV} {y : MV} {a : Int} (h : o = some y) (h1 : y.qp = a) (h2 : a ≠ 0) : (o = none → a = 0) ∧ ∀ x, o = some x → x.qp = a ∧ a ≠ 0 := ⟨fun q => (by rw [h] at q; cases q), fun x hx => by rw [h] at hx; cases hx; exact ⟨h1, h2⟩⟩
set_option maxRecDepth 1000000 in
set_option maxHeartbeats 4000000 in
theorem nexamples_any (w : World) : Calls Try.prog 4 #[] w fun e w' => e = .returned (.bool true) ∧ Only [] w w' := by
  have AW := hid awake_any
  have L0 := hid (fun w' => (show Calls Try.prog 17 #[.int .i64 0, .int .i64 2, .int .i64 0] w' fun e w'' => NewN 59 w' w'' 0 2 (qpsM 0) e from lat_any 0 2 0 w' ⟨by omega, by omega, by omega, by omega⟩ (by omega)))
  have L2 := hid (fun w' => (show Calls Try.prog 17 #[.int .i64 0, .int .i64 2, .int .i64 2] w' fun e w'' => NewN 59 w' w'' 0 2 (qpsM 2) e from lat_any 0 2 2 w' ⟨by omega, by omega, by omega, by omega⟩ (by omega)))
  have L1 := hid (fun w' => (show Calls Try.prog 17 #[.int .i64 1, .int .i64 2, .int .i64 1] w' fun e w'' => NewN 59 w' w'' 1 2 (qpsM 1) e from lat_any 1 2 1 w' ⟨by omega, by omega, by omega, by omega⟩ (by omega)))
  have LQ := hid (fun w' => (show Calls Try.prog 17 #[.int .i64 8159, .int .i64 1, .int .i64 1] w' fun e w'' => NewN 59 w' w'' 8159 1 (qpsM 1) e from lat_any 8159 1 1 w' ⟨by omega, by omega, by omega, by omega⟩ (by omega)))
  go_enter Try.func4, Try.ntmps4
  go_wp2_with fail
  refine (L0.out w).mono ?_
  rintro e w1 ⟨nn, Fn, rfl, hn, _, o1⟩
  have Nn := hid hn
  have O1 := hid (show Only [] w w1 from o1)
  clear hn o1
  go_wp2_with fail
  refine (L2.out w1).mono ?_
  rintro e w2 ⟨no, Fo, rfl, ho, _, o2⟩
  have No := hid ho
  have O2 := hid (show Only [] w1 w2 from o2)
  clear ho o2
  go_wp2_with fail
  refine (L1.out w2).mono ?_
  rintro e w3 ⟨np, Fp, rfl, hp, _, o3⟩
  have Np := hid hp
  have O3 := hid (show Only [] w2 w3 from o3)
  clear hp o3
  go_wp2_with fail
  refine (LQ.out w3).mono ?_
  rintro e w4 ⟨nq, Fq, rfl, hq, _, o4⟩
  have Nq := hid hq
  have O4 := hid (show Only [] w3 w4 from o4)
  clear hq o4
  go_wp2_with fail
  have NXO := hid (fun w' (k : Only [] w4 w') => (show Calls Try.prog 18 #[.pointer (some ⟨no, 0, none⟩)] w' fun e w'' => e = .returned (.int .i64 2) ∧ Only [] w' w'' from next_any w' (No.out.only0 (O3.out.trans (O4.out.trans k)))))
  have NXP := hid (fun w' (k : Only [] w4 w') => (show Calls Try.prog 18 #[.pointer (some ⟨np, 0, none⟩)] w' fun e w'' => e = .returned (.int .i64 2) ∧ Only [] w' w'' from next_any w' (Np.out.only0 (O4.out.trans k))))
  have ADQ := hid (fun w' (k : Only [] w4 w') => add_long m0 (.slice none 0 0) (.slice none 0 0) (.slice none 0 0) w' (Nq.out.only0 k) (by rw [qpsM_len]; omega))
  refine (NXO.out w4 (Only.refl [] _)).mono ?_
  rintro e w5 ⟨rfl, o5⟩
  have P5 := hid o5
  clear o5
  go_wp2_with fail
  refine (NXP.out w5 P5.out).mono ?_
  rintro e w6 ⟨rfl, o6⟩
  have P6 := hid (P5.out.trans o6)
  clear o6
  go_wp2_with fail
  refine (ADQ.out w6 P6.out).mono ?_
  rintro e w7 ⟨rfl, o7⟩
  have P7 := hid (P6.out.trans o7)
  clear o7
  go_upto_region 9 with fail
  generalize hw : World.alloc _ _ = W
  have s7 : ∀ (x : World) (ob : Obj), (x.alloc ob).heap.size = x.heap.size + 1 := fun x ob => World.size_alloc x ob
  have OW := hid (show Only [] w7 W from hw ▸ (((((Only.refl [] w7).alloc _).alloc _).alloc _).alloc _).alloc _)
  obtain ⟨s0, hs0⟩ : ∃ s, s = w7.heap.size := ⟨_, rfl⟩
  rw [← hs0] at hw ⊢
  have T := hid (show (Blk W s0 3 #[.int .i64 0, .int .i64 0, .int .i64 0] ∧ Blk W (s0 + 1) 3 #[.int .i64 0, .int .i64 1, .int .i64 2] ∧ Blk W (s0 + 1 + 1) 3 #[.int .i64 0, .int .i64 0, .int .i64 1]) ∧
      Blk W (s0 + 1 + 1 + 1) 36 #[.slice (some ⟨s0, 0, none⟩) 3 3, .slice (some ⟨s0 + 1, 0, none⟩) 3 3, .slice (some ⟨s0 + 1 + 1, 0, none⟩) 3 3] ∧
      Blk W (s0 + 1 + 1 + 1 + 1) 24 #[.pointer (some ⟨nn, 0, none⟩), .pointer (some ⟨no, 0, none⟩), .pointer (some ⟨np, 0, none⟩)] from by
    rw [← hw]
    have e0 := hs0
    refine ⟨⟨?_, ?_, ?_⟩, ?_, ?_⟩
    · rw [e0]
      exact (((((Blk.new w7 _ _).only ((Only.refl [] _).alloc _) (by simp)).only ((Only.refl [] _).alloc _) (by simp)).only ((Only.refl [] _).alloc _) (by simp)).only ((Only.refl [] _).alloc _) (by simp))
    · have h := Blk.new (w7.alloc (.cells #[.int .i64 0, .int .i64 0, .int .i64 0] 3)) 3 #[.int .i64 0, .int .i64 1, .int .i64 2]
      rw [s7, ← e0] at h
      exact (((h.only ((Only.refl [] _).alloc _) (by simp)).only ((Only.refl [] _).alloc _) (by simp)).only ((Only.refl [] _).alloc _) (by simp))
    · have h := Blk.new ((w7.alloc (.cells #[.int .i64 0, .int .i64 0, .int .i64 0] 3)).alloc (.cells #[.int .i64 0, .int .i64 1, .int .i64 2] 3)) 3 #[.int .i64 0, .int .i64 0, .int .i64 1]
      rw [s7, s7, ← e0] at h
      exact ((h.only ((Only.refl [] _).alloc _) (by simp)).only ((Only.refl [] _).alloc _) (by simp))
    · have h := Blk.new (((w7.alloc (.cells #[.int .i64 0, .int .i64 0, .int .i64 0] 3)).alloc (.cells #[.int .i64 0, .int .i64 1, .int .i64 2] 3)).alloc (.cells #[.int .i64 0, .int .i64 0, .int .i64 1] 3)) 36 #[.slice (some ⟨s0, 0, none⟩) 3 3, .slice (some ⟨s0 + 1, 0, none⟩) 3 3, .slice (some ⟨s0 + 1 + 1, 0, none⟩) 3 3]
      rw [s7, s7, s7, ← e0] at h
      exact (h.only ((Only.refl [] _).alloc _) (by simp))
    · have h := Blk.new ((((w7.alloc (.cells #[.int .i64 0, .int .i64 0, .int .i64 0] 3)).alloc (.cells #[.int .i64 0, .int .i64 1, .int .i64 2] 3)).alloc (.cells #[.int .i64 0, .int .i64 0, .int .i64 1] 3)).alloc (.cells #[.slice (some ⟨s0, 0, none⟩) 3 3, .slice (some ⟨s0 + 1, 0, none⟩) 3 3, .slice (some ⟨s0 + 1 + 1, 0, none⟩) 3 3] 36)) 24 #[.pointer (some ⟨nn, 0, none⟩), .pointer (some ⟨no, 0, none⟩), .pointer (some ⟨np, 0, none⟩)]
      rw [s7, s7, s7, s7, ← e0] at h
      exact h)
  have EX := hid (show ∀ i, i < 3 → ∃ nb ri ol oa ot a b c, ExI W (s0 + 1 + 1 + 1 + 1) (s0 + 1 + 1 + 1) i nb ri ol oa ot a b c from fun i hi => by
    obtain ⟨⟨t0, t1, t2⟩, t3, t4⟩ := T.out
    have P := P7.out.trans OW.out
    have h4 : Only [] w1 W := O2.out.trans (O3.out.trans (O4.out.trans P))
    match i, hi with
    | 0, _ => exact exI_of (Nn.out.only0 h4) (t4.cell rfl) (t3.cell rfl) (t0.cell rfl) (t0.cell rfl) (t0.cell rfl) (ex_none rfl) (ex_none rfl) (ex_none rfl)
    | 1, _ => exact exI_of (No.out.only0 (O3.out.trans (O4.out.trans P))) (t4.cell rfl) (t3.cell rfl) (t1.cell rfl) (t1.cell rfl) (t1.cell rfl) (ex_none rfl) (ex_some rfl rfl (by decide)) (ex_some rfl rfl (by decide))
    | 2, _ => exact exI_of (Np.out.only0 (O4.out.trans P)) (t4.cell rfl) (t3.cell rfl) (t2.cell rfl) (t2.cell rfl) (t2.cell rfl) (ex_none rfl) (ex_none rfl) (ex_some rfl rfl (by decide)))
  obtain ⟨ql, hql⟩ : ∃ q, q = s0 + 1 + 1 + 1 + 1 := ⟨_, rfl⟩
  obtain ⟨qw, hqw⟩ : ∃ q, q = s0 + 1 + 1 + 1 := ⟨_, rfl⟩
  rw [← hql, ← hqw] at EX
  rw [← hql, ← hqw]
  have OWW := hid (show Only [] w W from O1.out.trans (O2.out.trans (O3.out.trans (O4.out.trans (P7.out.trans OW.out)))))
  clear hw s7 T hs0 hql hqw OW Nn No Np Nq
  go_wp2_with fail
  go_loopg [7] 3 (fun k t wr => ∃ i : Nat, i + k = 3 ∧ t = .int .i64 i ∧ Only [] W wr)
  case atStart => exact ⟨0, by omega, rfl, Only.refl _ _⟩
  case round =>
    obtain ⟨i, hi, rfl, hO⟩ := hrel
    have TT := hid hO
    clear hO
    have i0 : (0 : Int) ≤ (i : Int) := by omega
    by_cases hg : gk = 0
    · have i1 : ¬ (i : Int) < 3 := by omega
      have B1 := hid (fun w' => new_no 8160 2 w' (fun h => absurd h.2.1 (by omega)))
      have B2 := hid (fun w' => new_no 0 129 w' (fun h => absurd h.2.2.2 (by omega)))
      have B3 := hid (fun w' => new_no (-1) 2 w' (fun h => absurd h.1 (by omega)))
      have B4 := hid (fun w' => new_no 0 0 w' (fun h => absurd h.2.2.1 (by omega)))
      clear hi hg EX
      go_wp2_with fail
      refine (B1.out _).mono ?_
      rintro e y1 ⟨rfl, rfl⟩
      go_wp2_with fail
      refine (B2.out _).mono ?_
      rintro e y2 ⟨rfl, rfl⟩
      go_wp2_with fail
      refine (B3.out _).mono ?_
      rintro e y3 ⟨rfl, rfl⟩
      go_wp2_with fail
      refine (B4.out _).mono ?_
      rintro e y4 ⟨rfl, rfl⟩
      have OZ := hid (OWW.out.trans TT.out)
      clear B1 B2 B3 B4
      go_wp2_with fail
      refine (left_nil _).mono ?_
      rintro e v1 ⟨rv, vv, bv, rfl, ow⟩
      obtain ⟨a1, b1, c1, rfl, rfl, rfl⟩ := ow.at.sl
      have bz := blk_m0 v1
      have OV1 := hid ((OZ.out).trans ow.only)
      have MV1 := hid ow.at
      have PV1 := hid ow.only
      obtain ⟨q1, hq⟩ : ∃ q, q = v1.heap.size := ⟨_, rfl⟩
      have one := hid (one_mC (m0) (rv := a1.sl) (vv := b1.sl) (bv := c1.sl) rfl rfl rfl)
      clear ow
      unfold mV
      go_upto_region 23 with (refine store_blk rfl 40 (.tmp 23) (.tmp 150) rfl v1.heap.size 0 _ _ (mC (m0) a1.sl b1.sl c1.sl) rfl rfl (info_mb' _ _ _ _) bz (by simp [mC]) one.out ?_; intro u1 hB2 hO2)
      rw [setsA_full (by simp [mC])] at hB2
      rw [← hq] at hB2 hO2 ⊢
      have W1 := hid (show Only [] v1 u1 from ((Only.refl [] v1).alloc _).trans2 hO2 (fun g hg => .inr (by simp at hg; omega)))
      have OA := hid (OV1.out.trans W1.out)
      have P1 := hid (PV1.out.trans W1.out)
      have B1 := hid (fun w' (o : Only [] u1 w') => (hB2.only o (by simp)).mb)
      have M1 := hid (fun w' (o : Only [] u1 w') => MV1.out.only0 (W1.out.trans o))
      clear hq hB2 hO2 bz one MV1
      go_wp2_with fail
      refine (add_nil m0 (.slice none 0 0) (.slice none 0 0) (.slice none 0 0) u1).mono ?_
      rintro e z1 ⟨rfl, c1⟩
      have Z1 := hid (OA.out.trans c1)
      clear c1
      go_wp2_with fail
      refine (next_nil z1).mono ?_
      rintro e z2 ⟨rfl, c2⟩
      have Z2 := hid (Z1.out.trans c2)
      clear c2
      go_wp2_with fail
      refine (mbs_nil z2).mono ?_
      rintro e z3 ⟨rfl, c3⟩
      have Z3 := hid (Z2.out.trans c3)
      clear c3
      go_wp2_with fail
      refine (ncopy_nil z3).mono ?_
      rintro e z4 ⟨rfl, c4⟩
      have Z4 := hid (Z3.out.trans c4)
      clear c4
      go_wp2_with fail
      refine (AW.out z4).mono ?_
      rintro e z5 ⟨rfl, c5⟩
      have Z5 := hid (Z4.out.trans c5)
      clear c5
      go_wp2_with fail
      go_ret
      exact ⟨rfl, Z5.out⟩
    · obtain ⟨gg, rfl⟩ : ∃ gg, gk = gg + 1 := ⟨gk - 1, by omega⟩
      have IN := hid (show i + 1 + gg = 3 by omega)
      have i1 : (i : Int) < 3 := by omega
      have i2 : 0 ≤ (i : Int) ∧ (i : Int) < 3 := ⟨i0, i1⟩
      obtain ⟨nb, ri, ol, oa, ot, a, b, c, hE⟩ := EX.out i (by omega)
      have EE := hid hE
      clear hi hg hE
      have cp := TT.out.cell EE.out.cp (by simp)
      go_wp2_with fail
      refine (EE.out.cl _ TT.out).mono ?_
      rintro e v1 ⟨rv, vv, bv, rfl, ow⟩
      obtain ⟨a1, b1, c1, rfl, rfl, rfl⟩ := ow.at.sl
      have bz := blk_m0 v1
      have OV1 := hid ((TT.out).trans ow.only)
      have MV1 := hid ow.at
      have PV1 := hid ow.only
      obtain ⟨q1, hq⟩ : ∃ q, q = v1.heap.size := ⟨_, rfl⟩
      have one := hid (one_mC (ansM ol) (rv := a1.sl) (vv := b1.sl) (bv := c1.sl) rfl rfl rfl)
      clear ow
      unfold mV
      go_upto_region 13 with (refine store_blk rfl 40 (.tmp 8) (.tmp 79) rfl v1.heap.size 0 _ _ (mC (ansM ol) a1.sl b1.sl c1.sl) rfl rfl (info_mb' _ _ _ _) bz (by simp [mC]) one.out ?_; intro u1 hB2 hO2)
      rw [setsA_full (by simp [mC])] at hB2
      rw [← hq] at hB2 hO2 ⊢
      have W1 := hid (show Only [] v1 u1 from ((Only.refl [] v1).alloc _).trans2 hO2 (fun g hg => .inr (by simp at hg; omega)))
      have OA := hid (OV1.out.trans W1.out)
      have P1 := hid (PV1.out.trans W1.out)
      have B1 := hid (fun w' (o : Only [] u1 w') => (hB2.only o (by simp)).mb)
      have M1 := hid (fun w' (o : Only [] u1 w') => MV1.out.only0 (W1.out.trans o))
      clear hq hB2 hO2 bz one MV1
      have cp := OA.out.cell EE.out.cp (by simp)
      go_wp2_with fail
      refine (EE.out.cu u1 OA.out).mono ?_
      rintro e v2 ⟨rv, vv, bv, rfl, ow⟩
      obtain ⟨a2, b2, c2, rfl, rfl, rfl⟩ := ow.at.sl
      have bz := blk_m0 v2
      have OV2 := hid ((OA.out).trans ow.only)
      have MV2 := hid ow.at
      have PV2 := hid ow.only
      obtain ⟨q2, hq⟩ : ∃ q, q = v2.heap.size := ⟨_, rfl⟩
      have one := hid (one_mC (ansM oa) (rv := a2.sl) (vv := b2.sl) (bv := c2.sl) rfl rfl rfl)
      clear ow
      unfold mV
      go_upto_region 14 with (refine store_blk rfl 40 (.tmp 10) (.tmp 87) rfl v2.heap.size 0 _ _ (mC (ansM oa) a2.sl b2.sl c2.sl) rfl rfl (info_mb' _ _ _ _) bz (by simp [mC]) one.out ?_; intro u2 hB2 hO2)
      rw [setsA_full (by simp [mC])] at hB2
      rw [← hq] at hB2 hO2 ⊢
      have W2 := hid (show Only [] v2 u2 from ((Only.refl [] v2).alloc _).trans2 hO2 (fun g hg => .inr (by simp at hg; omega)))
      have OB := hid (OV2.out.trans W2.out)
      have P2 := hid (PV2.out.trans W2.out)
      have B2 := hid (fun w' (o : Only [] u2 w') => (hB2.only o (by simp)).mb)
      have M2 := hid (fun w' (o : Only [] u2 w') => MV2.out.only0 (W2.out.trans o))
      clear hq hB2 hO2 bz one MV2
      have cp := OB.out.cell EE.out.cp (by simp)
      go_wp2_with fail
      refine (EE.out.ct u2 OB.out).mono ?_
      rintro e v3 ⟨rv, vv, bv, rfl, ow⟩
      obtain ⟨a3, b3, c3, rfl, rfl, rfl⟩ := ow.at.sl
      have bz := blk_m0 v3
      have OV3 := hid ((OB.out).trans ow.only)
      have MV3 := hid ow.at
      have PV3 := hid ow.only
      obtain ⟨q3, hq⟩ : ∃ q, q = v3.heap.size := ⟨_, rfl⟩
      have one := hid (one_mC (ansM ot) (rv := a3.sl) (vv := b3.sl) (bv := c3.sl) rfl rfl rfl)
      clear ow
      unfold mV
      go_upto_region 15 with (refine store_blk rfl 40 (.tmp 12) (.tmp 95) rfl v3.heap.size 0 _ _ (mC (ansM ot) a3.sl b3.sl c3.sl) rfl rfl (info_mb' _ _ _ _) bz (by simp [mC]) one.out ?_; intro u3 hB2 hO2)
      rw [setsA_full (by simp [mC])] at hB2
      rw [← hq] at hB2 hO2 ⊢
      have W3 := hid (show Only [] v3 u3 from ((Only.refl [] v3).alloc _).trans2 hO2 (fun g hg => .inr (by simp at hg; omega)))
      have OC := hid (OV3.out.trans W3.out)
      have P3 := hid (PV3.out.trans W3.out)
      have B3 := hid (fun w' (o : Only [] u3 w') => (hB2.only o (by simp)).mb)
      have M3 := hid (fun w' (o : Only [] u3 w') => MV3.out.only0 (W3.out.trans o))
      clear hq hB2 hO2 bz one MV3
      clear cp
      refine wp_region_heldH (fun w' => Only [] u3 w') 34 (by kernel_rfl) rfl (Only.refl [] u3).drew (fun hS => ?_)
      generalize u3.drew = wx at *
      refine wpAnyH_read 0 rfl (by kernel_rfl) (by kernel_rfl) (by kernel_rfl) (fun _ _ _ h => h) hS (yields_load 40 _ (by rfl) rfl ⟨q1, 0, none⟩ (mC (ansM ol) a1.sl b1.sl c1.sl) rfl (fun w h => B1.out w (P2.out.trans (P3.out.trans h)))) ?_
      (try simp only [Act.put, List.setIfInBounds_toArray, List.set_cons_zero, List.set_cons_succ])
      refine wpAnyH_read 1 (v := ?va1) rfl (by kernel_rfl) (by kernel_rfl) (by kernel_rfl) (fun _ _ _ h => h) hS (Or.inl ⟨by rfl, ?ya1⟩) ?ra1
      case ya1 =>
        intro w hSw
        have hq := (OC.out.trans hSw).cell EE.out.cq (by simp)
        have ha := (OC.out.trans hSw).cell EE.out.ca (by simp)
        have hb := (OC.out.trans hSw).cell EE.out.cb (by simp)
        have hc := (OC.out.trans hSw).cell EE.out.cc (by simp)
        go_simp
        (try with_reducible rfl)
      (try simp only [Act.put, List.setIfInBounds_toArray, List.set_cons_zero, List.set_cons_succ])
      refine wpAnyH_read 2 (v := ?va2) rfl (by kernel_rfl) (by kernel_rfl) (by kernel_rfl) (fun _ _ _ h => h) hS (Or.inl ⟨by rfl, ?ya2⟩) ?ra2
      case ya2 =>
        intro w hSw
        have hq := (OC.out.trans hSw).cell EE.out.cq (by simp)
        have ha := (OC.out.trans hSw).cell EE.out.ca (by simp)
        have hb := (OC.out.trans hSw).cell EE.out.cb (by simp)
        have hc := (OC.out.trans hSw).cell EE.out.cc (by simp)
        go_simp
        (try with_reducible rfl)
      (try simp only [Act.put, List.setIfInBounds_toArray, List.set_cons_zero, List.set_cons_succ])
      refine wpAnyH_read 3 (v := ?va3) rfl (by kernel_rfl) (by kernel_rfl) (by kernel_rfl) (fun _ _ _ h => h) hS (Or.inl ⟨by rfl, ?ya3⟩) ?ra3
      case ya3 =>
        intro w hSw
        have hq := (OC.out.trans hSw).cell EE.out.cq (by simp)
        have ha := (OC.out.trans hSw).cell EE.out.ca (by simp)
        have hb := (OC.out.trans hSw).cell EE.out.cb (by simp)
        have hc := (OC.out.trans hSw).cell EE.out.cc (by simp)
        go_simp
        (try with_reducible rfl)
      (try simp only [Act.put, List.setIfInBounds_toArray, List.set_cons_zero, List.set_cons_succ])
      refine wpAnyH_read 4 (v := ?va4) rfl (by kernel_rfl) (by kernel_rfl) (by kernel_rfl) (fun _ _ _ h => h) hS (Or.inl ⟨by rfl, ?ya4⟩) ?ra4
      case ya4 =>
        intro w hSw
        have hq := (OC.out.trans hSw).cell EE.out.cq (by simp)
        have ha := (OC.out.trans hSw).cell EE.out.ca (by simp)
        have hb := (OC.out.trans hSw).cell EE.out.cb (by simp)
        have hc := (OC.out.trans hSw).cell EE.out.cc (by simp)
        go_simp
        (try with_reducible rfl)
      (try simp only [Act.put, List.setIfInBounds_toArray, List.set_cons_zero, List.set_cons_succ])
      refine wpAnyH_read 5 (v := ?va5) rfl (by kernel_rfl) (by kernel_rfl) (by kernel_rfl) (fun _ _ _ h => h) hS (Or.inl ⟨by rfl, ?ya5⟩) ?ra5
      case ya5 =>
        intro w hSw
        have hq := (OC.out.trans hSw).cell EE.out.cq (by simp)
        have ha := (OC.out.trans hSw).cell EE.out.ca (by simp)
        have hb := (OC.out.trans hSw).cell EE.out.cb (by simp)
        have hc := (OC.out.trans hSw).cell EE.out.cc (by simp)
        go_simp
        (try with_reducible rfl)
      (try simp only [Act.put, List.setIfInBounds_toArray, List.set_cons_zero, List.set_cons_succ])
      refine wpAnyH_read 6 (v := ?va6) rfl (by kernel_rfl) (by kernel_rfl) (by kernel_rfl) (fun _ _ _ h => h) hS (Or.inl ⟨by rfl, ?ya6⟩) ?ra6
      case ya6 =>
        intro w hSw
        have hq := (OC.out.trans hSw).cell EE.out.cq (by simp)
        have ha := (OC.out.trans hSw).cell EE.out.ca (by simp)
        have hb := (OC.out.trans hSw).cell EE.out.cb (by simp)
        have hc := (OC.out.trans hSw).cell EE.out.cc (by simp)
        go_simp
        (try with_reducible rfl)
      (try simp only [Act.put, List.setIfInBounds_toArray, List.set_cons_zero, List.set_cons_succ])
      refine wpAnyH_read 7 (v := ?va7) rfl (by kernel_rfl) (by kernel_rfl) (by kernel_rfl) (fun _ _ _ h => h) hS (Or.inl ⟨by rfl, ?ya7⟩) ?ra7
      case ya7 =>
        intro w hSw
        have hq := (OC.out.trans hSw).cell EE.out.cq (by simp)
        have ha := (OC.out.trans hSw).cell EE.out.ca (by simp)
        have hb := (OC.out.trans hSw).cell EE.out.cb (by simp)
        have hc := (OC.out.trans hSw).cell EE.out.cc (by simp)
        go_simp
        (try with_reducible rfl)
      (try simp only [Act.put, List.setIfInBounds_toArray, List.set_cons_zero, List.set_cons_succ])
      refine wpAnyH_call 8 rfl (by kernel_rfl) (fun J hJ => ?_)
      rw [if_pos (by rfl)]
      go_simp
      refine (finds_any ol a EE.out.fl.1 EE.out.fl.2 _ _ _ _).mono ?_
      rintro e x1 ⟨rfl, p_⟩
      have s1 := hS.trans p_
      clear p_
      refine hJ.out _ _ s1 ?_
      clear hJ J
      (try simp only [Act.put, List.setIfInBounds_toArray, List.set_cons_zero, List.set_cons_succ])
      refine wpAnyH_read 9 (v := ?va8) rfl (by kernel_rfl) (by kernel_rfl) (by kernel_rfl) (fun _ _ _ h => h) s1 (Or.inl ⟨by rfl, ?ya8⟩) ?ra8
      case ya8 =>
        intro w hSw
        have hq := (OC.out.trans hSw).cell EE.out.cq (by simp)
        have ha := (OC.out.trans hSw).cell EE.out.ca (by simp)
        have hb := (OC.out.trans hSw).cell EE.out.cb (by simp)
        have hc := (OC.out.trans hSw).cell EE.out.cc (by simp)
        go_simp
        (try with_reducible rfl)
      (try simp only [Act.put, List.setIfInBounds_toArray, List.set_cons_zero, List.set_cons_succ])
      refine wpAnyH_read 10 (v := ?va9) rfl (by kernel_rfl) (by kernel_rfl) (by kernel_rfl) (fun _ _ _ h => h) s1 (Or.inl ⟨by rfl, ?ya9⟩) ?ra9
      case ya9 =>
        intro w hSw
        have hq := (OC.out.trans hSw).cell EE.out.cq (by simp)
        have ha := (OC.out.trans hSw).cell EE.out.ca (by simp)
        have hb := (OC.out.trans hSw).cell EE.out.cb (by simp)
        have hc := (OC.out.trans hSw).cell EE.out.cc (by simp)
        go_simp
        (try with_reducible rfl)
      (try simp only [Act.put, List.setIfInBounds_toArray, List.set_cons_zero, List.set_cons_succ])
      refine wpAnyH_read 11 rfl (by kernel_rfl) (by kernel_rfl) (by kernel_rfl) (fun _ _ _ h => h) s1 (yields_load 40 _ (by rfl) rfl ⟨q2, 0, none⟩ (mC (ansM oa) a2.sl b2.sl c2.sl) rfl (fun w h => B2.out w (P3.out.trans h))) ?_
      (try simp only [Act.put, List.setIfInBounds_toArray, List.set_cons_zero, List.set_cons_succ])
      refine wpAnyH_read 12 (v := ?va10) rfl (by kernel_rfl) (by kernel_rfl) (by kernel_rfl) (fun _ _ _ h => h) s1 (Or.inl ⟨by rfl, ?ya10⟩) ?ra10
      case ya10 =>
        intro w hSw
        have hq := (OC.out.trans hSw).cell EE.out.cq (by simp)
        have ha := (OC.out.trans hSw).cell EE.out.ca (by simp)
        have hb := (OC.out.trans hSw).cell EE.out.cb (by simp)
        have hc := (OC.out.trans hSw).cell EE.out.cc (by simp)
        go_simp
        (try with_reducible rfl)
      (try simp only [Act.put, List.setIfInBounds_toArray, List.set_cons_zero, List.set_cons_succ])
      refine wpAnyH_read 13 (v := ?va11) rfl (by kernel_rfl) (by kernel_rfl) (by kernel_rfl) (fun _ _ _ h => h) s1 (Or.inl ⟨by rfl, ?ya11⟩) ?ra11
      case ya11 =>
        intro w hSw
        have hq := (OC.out.trans hSw).cell EE.out.cq (by simp)
        have ha := (OC.out.trans hSw).cell EE.out.ca (by simp)
        have hb := (OC.out.trans hSw).cell EE.out.cb (by simp)
        have hc := (OC.out.trans hSw).cell EE.out.cc (by simp)
        go_simp
        (try with_reducible rfl)
      (try simp only [Act.put, List.setIfInBounds_toArray, List.set_cons_zero, List.set_cons_succ])
      refine wpAnyH_read 14 (v := ?va12) rfl (by kernel_rfl) (by kernel_rfl) (by kernel_rfl) (fun _ _ _ h => h) s1 (Or.inl ⟨by rfl, ?ya12⟩) ?ra12
      case ya12 =>
        intro w hSw
        have hq := (OC.out.trans hSw).cell EE.out.cq (by simp)
        have ha := (OC.out.trans hSw).cell EE.out.ca (by simp)
        have hb := (OC.out.trans hSw).cell EE.out.cb (by simp)
        have hc := (OC.out.trans hSw).cell EE.out.cc (by simp)
        go_simp
        (try with_reducible rfl)
      (try simp only [Act.put, List.setIfInBounds_toArray, List.set_cons_zero, List.set_cons_succ])
      refine wpAnyH_read 15 (v := ?va13) rfl (by kernel_rfl) (by kernel_rfl) (by kernel_rfl) (fun _ _ _ h => h) s1 (Or.inl ⟨by rfl, ?ya13⟩) ?ra13
      case ya13 =>
        intro w hSw
        have hq := (OC.out.trans hSw).cell EE.out.cq (by simp)
        have ha := (OC.out.trans hSw).cell EE.out.ca (by simp)
        have hb := (OC.out.trans hSw).cell EE.out.cb (by simp)
        have hc := (OC.out.trans hSw).cell EE.out.cc (by simp)
        go_simp
        (try with_reducible rfl)
      (try simp only [Act.put, List.setIfInBounds_toArray, List.set_cons_zero, List.set_cons_succ])
      refine wpAnyH_read 16 (v := ?va14) rfl (by kernel_rfl) (by kernel_rfl) (by kernel_rfl) (fun _ _ _ h => h) s1 (Or.inl ⟨by rfl, ?ya14⟩) ?ra14
      case ya14 =>
        intro w hSw
        have hq := (OC.out.trans hSw).cell EE.out.cq (by simp)
        have ha := (OC.out.trans hSw).cell EE.out.ca (by simp)
        have hb := (OC.out.trans hSw).cell EE.out.cb (by simp)
        have hc := (OC.out.trans hSw).cell EE.out.cc (by simp)
        go_simp
        (try with_reducible rfl)
      (try simp only [Act.put, List.setIfInBounds_toArray, List.set_cons_zero, List.set_cons_succ])
      refine wpAnyH_read 17 (v := ?va15) rfl (by kernel_rfl) (by kernel_rfl) (by kernel_rfl) (fun _ _ _ h => h) s1 (Or.inl ⟨by rfl, ?ya15⟩) ?ra15
      case ya15 =>
        intro w hSw
        have hq := (OC.out.trans hSw).cell EE.out.cq (by simp)
        have ha := (OC.out.trans hSw).cell EE.out.ca (by simp)
        have hb := (OC.out.trans hSw).cell EE.out.cb (by simp)
        have hc := (OC.out.trans hSw).cell EE.out.cc (by simp)
        go_simp
        (try with_reducible rfl)
      (try simp only [Act.put, List.setIfInBounds_toArray, List.set_cons_zero, List.set_cons_succ])
      refine wpAnyH_read 18 (v := ?va16) rfl (by kernel_rfl) (by kernel_rfl) (by kernel_rfl) (fun _ _ _ h => h) s1 (Or.inl ⟨by rfl, ?ya16⟩) ?ra16
      case ya16 =>
        intro w hSw
        have hq := (OC.out.trans hSw).cell EE.out.cq (by simp)
        have ha := (OC.out.trans hSw).cell EE.out.ca (by simp)
        have hb := (OC.out.trans hSw).cell EE.out.cb (by simp)
        have hc := (OC.out.trans hSw).cell EE.out.cc (by simp)
        go_simp
        (try with_reducible rfl)
      (try simp only [Act.put, List.setIfInBounds_toArray, List.set_cons_zero, List.set_cons_succ])
      refine wpAnyH_call 19 rfl (by kernel_rfl) (fun J hJ => ?_)
      rw [if_pos (by rfl)]
      go_simp
      refine (finds_any oa b EE.out.fu.1 EE.out.fu.2 _ _ _ _).mono ?_
      rintro e x2 ⟨rfl, p_⟩
      have s2 := s1.trans p_
      clear p_
      refine hJ.out _ _ s2 ?_
      clear hJ J
      (try simp only [Act.put, List.setIfInBounds_toArray, List.set_cons_zero, List.set_cons_succ])
      refine wpAnyH_read 20 (v := ?va17) rfl (by kernel_rfl) (by kernel_rfl) (by kernel_rfl) (fun _ _ _ h => h) s2 (Or.inl ⟨by rfl, ?ya17⟩) ?ra17
      case ya17 =>
        intro w hSw
        have hq := (OC.out.trans hSw).cell EE.out.cq (by simp)
        have ha := (OC.out.trans hSw).cell EE.out.ca (by simp)
        have hb := (OC.out.trans hSw).cell EE.out.cb (by simp)
        have hc := (OC.out.trans hSw).cell EE.out.cc (by simp)
        go_simp
        (try with_reducible rfl)
      (try simp only [Act.put, List.setIfInBounds_toArray, List.set_cons_zero, List.set_cons_succ])
      refine wpAnyH_read 21 (v := ?va18) rfl (by kernel_rfl) (by kernel_rfl) (by kernel_rfl) (fun _ _ _ h => h) s2 (Or.inl ⟨by rfl, ?ya18⟩) ?ra18
      case ya18 =>
        intro w hSw
        have hq := (OC.out.trans hSw).cell EE.out.cq (by simp)
        have ha := (OC.out.trans hSw).cell EE.out.ca (by simp)
        have hb := (OC.out.trans hSw).cell EE.out.cb (by simp)
        have hc := (OC.out.trans hSw).cell EE.out.cc (by simp)
        go_simp
        (try with_reducible rfl)
      (try simp only [Act.put, List.setIfInBounds_toArray, List.set_cons_zero, List.set_cons_succ])
      refine wpAnyH_read 22 (v := ?va19) rfl (by kernel_rfl) (by kernel_rfl) (by kernel_rfl) (fun _ _ _ h => h) s2 (Or.inl ⟨by rfl, ?ya19⟩) ?ra19
      case ya19 =>
        intro w hSw
        have hq := (OC.out.trans hSw).cell EE.out.cq (by simp)
        have ha := (OC.out.trans hSw).cell EE.out.ca (by simp)
        have hb := (OC.out.trans hSw).cell EE.out.cb (by simp)
        have hc := (OC.out.trans hSw).cell EE.out.cc (by simp)
        go_simp
        (try with_reducible rfl)
      (try simp only [Act.put, List.setIfInBounds_toArray, List.set_cons_zero, List.set_cons_succ])
      refine wpAnyH_read 23 rfl (by kernel_rfl) (by kernel_rfl) (by kernel_rfl) (fun _ _ _ h => h) s2 (yields_load 40 _ (by rfl) rfl ⟨q3, 0, none⟩ (mC (ansM ot) a3.sl b3.sl c3.sl) rfl (fun w h => B3.out w h)) ?_
      (try simp only [Act.put, List.setIfInBounds_toArray, List.set_cons_zero, List.set_cons_succ])
      refine wpAnyH_read 24 (v := ?va20) rfl (by kernel_rfl) (by kernel_rfl) (by kernel_rfl) (fun _ _ _ h => h) s2 (Or.inl ⟨by rfl, ?ya20⟩) ?ra20
      case ya20 =>
        intro w hSw
        have hq := (OC.out.trans hSw).cell EE.out.cq (by simp)
        have ha := (OC.out.trans hSw).cell EE.out.ca (by simp)
        have hb := (OC.out.trans hSw).cell EE.out.cb (by simp)
        have hc := (OC.out.trans hSw).cell EE.out.cc (by simp)
        go_simp
        (try with_reducible rfl)
      (try simp only [Act.put, List.setIfInBounds_toArray, List.set_cons_zero, List.set_cons_succ])
      refine wpAnyH_read 25 (v := ?va21) rfl (by kernel_rfl) (by kernel_rfl) (by kernel_rfl) (fun _ _ _ h => h) s2 (Or.inl ⟨by rfl, ?ya21⟩) ?ra21
      case ya21 =>
        intro w hSw
        have hq := (OC.out.trans hSw).cell EE.out.cq (by simp)
        have ha := (OC.out.trans hSw).cell EE.out.ca (by simp)
        have hb := (OC.out.trans hSw).cell EE.out.cb (by simp)
        have hc := (OC.out.trans hSw).cell EE.out.cc (by simp)
        go_simp
        (try with_reducible rfl)
      (try simp only [Act.put, List.setIfInBounds_toArray, List.set_cons_zero, List.set_cons_succ])
      refine wpAnyH_read 26 (v := ?va22) rfl (by kernel_rfl) (by kernel_rfl) (by kernel_rfl) (fun _ _ _ h => h) s2 (Or.inl ⟨by rfl, ?ya22⟩) ?ra22
      case ya22 =>
        intro w hSw
        have hq := (OC.out.trans hSw).cell EE.out.cq (by simp)
        have ha := (OC.out.trans hSw).cell EE.out.ca (by simp)
        have hb := (OC.out.trans hSw).cell EE.out.cb (by simp)
        have hc := (OC.out.trans hSw).cell EE.out.cc (by simp)
        go_simp
        (try with_reducible rfl)
      (try simp only [Act.put, List.setIfInBounds_toArray, List.set_cons_zero, List.set_cons_succ])
      refine wpAnyH_read 27 (v := ?va23) rfl (by kernel_rfl) (by kernel_rfl) (by kernel_rfl) (fun _ _ _ h => h) s2 (Or.inl ⟨by rfl, ?ya23⟩) ?ra23
      case ya23 =>
        intro w hSw
        have hq := (OC.out.trans hSw).cell EE.out.cq (by simp)
        have ha := (OC.out.trans hSw).cell EE.out.ca (by simp)
        have hb := (OC.out.trans hSw).cell EE.out.cb (by simp)
        have hc := (OC.out.trans hSw).cell EE.out.cc (by simp)
        go_simp
        (try with_reducible rfl)
      (try simp only [Act.put, List.setIfInBounds_toArray, List.set_cons_zero, List.set_cons_succ])
      refine wpAnyH_read 28 (v := ?va24) rfl (by kernel_rfl) (by kernel_rfl) (by kernel_rfl) (fun _ _ _ h => h) s2 (Or.inl ⟨by rfl, ?ya24⟩) ?ra24
      case ya24 =>
        intro w hSw
        have hq := (OC.out.trans hSw).cell EE.out.cq (by simp)
        have ha := (OC.out.trans hSw).cell EE.out.ca (by simp)
        have hb := (OC.out.trans hSw).cell EE.out.cb (by simp)
        have hc := (OC.out.trans hSw).cell EE.out.cc (by simp)
        go_simp
        (try with_reducible rfl)
      (try simp only [Act.put, List.setIfInBounds_toArray, List.set_cons_zero, List.set_cons_succ])
      refine wpAnyH_read 29 (v := ?va25) rfl (by kernel_rfl) (by kernel_rfl) (by kernel_rfl) (fun _ _ _ h => h) s2 (Or.inl ⟨by rfl, ?ya25⟩) ?ra25
      case ya25 =>
        intro w hSw
        have hq := (OC.out.trans hSw).cell EE.out.cq (by simp)
        have ha := (OC.out.trans hSw).cell EE.out.ca (by simp)
        have hb := (OC.out.trans hSw).cell EE.out.cb (by simp)
        have hc := (OC.out.trans hSw).cell EE.out.cc (by simp)
        go_simp
        (try with_reducible rfl)
      (try simp only [Act.put, List.setIfInBounds_toArray, List.set_cons_zero, List.set_cons_succ])
      refine wpAnyH_read 30 (v := ?va26) rfl (by kernel_rfl) (by kernel_rfl) (by kernel_rfl) (fun _ _ _ h => h) s2 (Or.inl ⟨by rfl, ?ya26⟩) ?ra26
      case ya26 =>
        intro w hSw
        have hq := (OC.out.trans hSw).cell EE.out.cq (by simp)
        have ha := (OC.out.trans hSw).cell EE.out.ca (by simp)
        have hb := (OC.out.trans hSw).cell EE.out.cb (by simp)
        have hc := (OC.out.trans hSw).cell EE.out.cc (by simp)
        go_simp
        (try with_reducible rfl)
      (try simp only [Act.put, List.setIfInBounds_toArray, List.set_cons_zero, List.set_cons_succ])
      refine wpAnyH_call 31 rfl (by kernel_rfl) (fun J hJ => ?_)
      rw [if_pos (by rfl)]
      go_simp
      refine (finds_any ot c EE.out.ft.1 EE.out.ft.2 _ _ _ _).mono ?_
      rintro e x3 ⟨rfl, p_⟩
      have s3 := s2.trans p_
      clear p_
      refine hJ.out _ _ s3 ?_
      clear hJ J
      (try simp only [Act.put, List.setIfInBounds_toArray, List.set_cons_zero, List.set_cons_succ])
      refine wpAnyH_read 32 (v := ?va27) rfl (by kernel_rfl) (by kernel_rfl) (by kernel_rfl) (fun _ _ _ h => h) s3 (Or.inl ⟨by rfl, ?ya27⟩) ?ra27
      case ya27 =>
        intro w hSw
        have hq := (OC.out.trans hSw).cell EE.out.cq (by simp)
        have ha := (OC.out.trans hSw).cell EE.out.ca (by simp)
        have hb := (OC.out.trans hSw).cell EE.out.cb (by simp)
        have hc := (OC.out.trans hSw).cell EE.out.cc (by simp)
        go_simp
        (try with_reducible rfl)
      (try simp only [Act.put, List.setIfInBounds_toArray, List.set_cons_zero, List.set_cons_succ])
      refine wpAnyH_read 33 (v := ?va28) rfl (by kernel_rfl) (by kernel_rfl) (by kernel_rfl) (fun _ _ _ h => h) s3 (Or.inl ⟨by rfl, ?ya28⟩) ?ra28
      case ya28 =>
        intro w hSw
        have hq := (OC.out.trans hSw).cell EE.out.cq (by simp)
        have ha := (OC.out.trans hSw).cell EE.out.ca (by simp)
        have hb := (OC.out.trans hSw).cell EE.out.cb (by simp)
        have hc := (OC.out.trans hSw).cell EE.out.cc (by simp)
        go_simp
        (try with_reducible rfl)
      (try simp only [Act.put, List.setIfInBounds_toArray, List.set_cons_zero, List.set_cons_succ])
      refine wpAnyH_done (by kernel_rfl) ?_ _
      have OD := hid (OC.out.trans s3)
      go_wp2_with fail
      go_roundg gg
      case measure => omega
      case rel => exact ⟨i + 1, IN.out, by go_num, OD.out⟩
end Go.Proofs.Ytfmfknjjhemnoaa

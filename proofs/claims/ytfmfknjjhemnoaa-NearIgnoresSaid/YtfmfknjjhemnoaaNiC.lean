/- NearIgnores, where there are none. -/
import Derived.Test.YtfmfknjjhemnoaaNiA
namespace Go.Proofs.Ytfmfknjjhemnoaa
open Go.RowKit
set_option linter.unusedVariables false
set_option linter.unusedSimpArgs false

set_option maxRecDepth 1000000 in
set_option maxHeartbeats 4000000 in
theorem nignores_no (f wd i : Int) (b : Value) (us : List El) (x : MV) (s1 s2 s3 : SlV) (w : World) (hb : LIn w b us) (hm : MAt w x s1.sl s2.sl s3.sl) (h : ¬ okN f wd ∨ ¬ f + us.length ≤ 8160) :
    Calls Try.prog 6 #[.int .i64 f, .int .i64 wd, b, .int .i64 i, mV x s1.sl s2.sl s3.sl] w fun e w' => e = .returned (.bool true) ∧ Only [] w w' := by
  obtain ⟨W, hW⟩ : ∃ W, W = w.alloc (.cells (mC x s1.sl s2.sl s3.sl).toArray 40) := ⟨_, rfl⟩
  have oW := hid (show Only [] w W from hW ▸ ((Only.refl [] w).alloc _))
  have BX := hid (show Blk W w.heap.size 40 (mC x s1.sl s2.sl s3.sl).toArray from hW ▸ Blk.new w _ _)
  obtain ⟨p, hp⟩ : ∃ p, p = w.heap.size := ⟨_, rfl⟩
  rw [← hp] at BX
  have HW := hid hW
  have HP := hid hp
  have FW := hid (few_any b us 40 W (hb.only0 oW.out) (by omega) (by omega))
  have FM := hid (fun w' (o : Only [] w w') => few_any _ [(x, s1, s2, s3)] 1 _ (lin_one (show EAt w' (x, s1, s2, s3) from hm.only0 o)) (by omega) (by omega))
  have AW := hid awake_any
  have HB := hid hb
  have HM := hid hm
  have LDX := hid (fun w' (o : Only [] W w') => (BX.out.only o (by simp)).mb)
  have MN := hid (fun b' (us' : List El) w' (hl : us'.length = us.length) (h' : LIn w' b' us') (hs : ∀ e, e ∈ us' → MSm e.1) (hl2 : us'.length ≤ 100) => (show Calls Try.prog 25 #[.int .i64 f, .int .i64 wd, b'] w' fun e w'' => e = .returned (.pointer none) ∧ Only [] w' w'' from by
    rcases made_any f wd b' us' w' h' hs hl2 with ⟨h1, h2, _⟩ | ⟨_, h3⟩
    · exact absurd h2 (h.elim (fun q => absurd h1 q) (fun q => by rw [hl]; exact q))
    · exact h3))
  have CC := hid (fun w' (o : Only [] w w') (hs : ∀ e, e ∈ us → MSm e.1) (hl : us.length ≤ 100000) => copymbs_any b us w' (hb.only0 o).h (fun e he => ⟨(hb.only0 o).e e he, hs e he⟩) hl)
  have MA := hid (fun w' (o : Only [] w w') hs hl => MN.out b us w' rfl (hb.only0 o) hs hl)
  obtain ⟨ba, bc, rfl, _⟩ := id hb.h
  obtain ⟨n, hn'⟩ : ∃ n, n = us.length := ⟨_, rfl⟩
  have N0 := hid hn'
  rw [← hn'] at FW MA CC ⊢
  clear hb hm h hn' hW hp
  unfold mV
  go_enter Try.func6, Try.ntmps6
  go_wp2_with (refine wp_box rfl 40 (.tmp 4) rfl (mC x s1.sl s2.sl s3.sl).toArray rfl HW.out HP.out ?_; simp only [Act.put, List.setIfInBounds_toArray, List.set_cons_zero, List.set_cons_succ])
  refine FW.out.mono ?_
  rintro e w1 ⟨rr, rfl, hr, o1⟩
  have HR := hid hr
  have O1 := hid (oW.out.trans o1)
  have L1 := hid (LDX.out _ o1)
  have R1 := hid (show Only [] W w1 from o1)
  clear hr o1
  cases rr with
  | false =>
    go_wp2_with fail
    go_ret
    exact ⟨rfl, O1.out⟩
  | true =>
    have SM := hid (HR.out rfl)
    have n40 : (n : Int) ≤ 40 := by have := SM.out.1; have := N0.out; omega
    clear HR
    go_wp2_with (first
      | (refine load_atG (by kernel_rfl) 40 (.tmp 9) rfl ⟨p, 0, none⟩ (mC x s1.sl s2.sl s3.sl) rfl L1.out ?_; simp only [Act.put, List.setIfInBounds_toArray, List.set_cons_zero, List.set_cons_succ])
      | (refine wp_buildSliceG (by kernel_rfl) 22 1 _ rfl #[(0, .agg (elC (x, s1, s2, s3)).toArray)] (by kernel_rfl) _ (run_mbs1 (x, s1, s2, s3) w1) ?_; simp only [Act.put, List.setIfInBounds_toArray, List.set_cons_zero, List.set_cons_succ]))
    refine (FM.out w1 O1.out).mono ?_
    rintro e w2 ⟨rm, rfl, hr, o2⟩
    have HR := hid hr
    have R2 := hid ((R1.out.alloc _).trans o2)
    have O2 := hid (oW.out.trans R2.out)
    clear hr o2
    cases rm with
    | false =>
      go_wp2_with fail
      go_ret
      exact ⟨rfl, O2.out⟩
    | true =>
      have SX := hid (show MSm x from (HR.out rfl).2 _ (List.mem_singleton.2 rfl))
      clear HR
      by_cases h1 : i < 0
      · go_wp2_with fail
        go_ret
        exact ⟨rfl, O2.out⟩
      by_cases h2 : i ≥ (n : Int) - 1
      · go_wp2_with fail
        go_ret
        exact ⟨rfl, O2.out⟩
      by_cases h3 : (i == wrap64 ((n : Int) - wd)) = true
      · go_wp2_with fail
        go_ret
        exact ⟨rfl, O2.out⟩
      have h3 : (i == wrap64 ((n : Int) - wd)) = false := by simpa using h3
      obtain ⟨ii, rfl⟩ : ∃ ii : Nat, i = ii := ⟨i.toNat, by omega⟩
      have C2 := hid (CC.out w2 O2.out SM.out.2 (by omega))
      have I2 := hid (show (ii : Int) < (n : Int) - 1 by omega)
      go_wp2_with fail
      refine C2.out.mono ?_
      rintro e w3 ⟨sv, rfl, L, q1, q2, q3⟩
      have ll : L.length = n := by
        have e1 := congrArg List.length q2
        rwa [List.length_map, List.length_map, ← N0.out] at e1
      obtain ⟨g, c, cur, rfl, hB, hz⟩ := q1.row.lies (by rw [ll]; have := I2.out; omega)
      have LL := hid ll
      have QR := hid q1.row
      have QB := hid hB
      have Q2 := hid q2
      have Q3 := hid q3
      have R3 := hid (R2.out.trans q1.only)
      have O3 := hid (oW.out.trans R3.out)
      have L3 := hid (LDX.out _ R3.out)
      have GN := hid (q1.new g (by simp [ownG, Value.ownBlock]))
      have QZ := hid (show ii * 29 + 29 ≤ cur.size by rw [ll] at hz; have := I2.out; omega)
      have one := hid (one_mC x (rv := s1.sl) (vv := s2.sl) (bv := s3.sl) rfl rfl rfl)
      have i2 : 0 ≤ (ii : Int) ∧ (ii : Int) < (n : Int) := by have := I2.out; omega
      rw [ll]
      clear q1 q2 q3 hB hz C2 ll
      go_upto_region 5 with (first
        | (refine load_atA rfl 40 (.tmp 9) rfl ⟨p, 0, none⟩ (mC x s1.sl s2.sl s3.sl) rfl L3.out ?_; simp only [Act.put, List.setIfInBounds_toArray, List.set_cons_zero, List.set_cons_succ])
        | (refine store_blk rfl 40 (.tmp 55) (.tmp 54) rfl g (ii * 29) _ _ (mC x s1.sl s2.sl s3.sl) rfl rfl (info_mb' _ _ _ _) QB.out QZ.out one.out ?_; intro w4 hB4 hO4))
      have O4 := hid (show Only [] w w4 from O3.out.trans2 hO4 (fun y hy => .inr (by have h1 := GN.out; have h2 := O2.out.size; simp at hy; omega)))
      have LO := LIn.setEl (e := (x, s1, s2, s3)) QR.out QB.out (by rw [LL.out]; have := I2.out; omega) hB4 (fun d hd => ((Q3.out d hd).step hO4 (fun y hy hF => by simp at hy; exact hF.2 (by rw [hy]; simp [ownG, Value.ownBlock]))).at) (show MAt w4 x s1.sl s2.sl s3.sl from HM.out.only0 O4.out)
      rw [LL.out] at LO
      have SO : ∀ e, e ∈ L.set ii (x, s1, s2, s3) → MSm e.1 := fun e he => by
        rcases List.mem_or_eq_of_mem_set he with h | h
        · have h1 : e.1 ∈ us.map (·.1) := by rw [← Q2.out]; exact List.mem_map_of_mem h
          obtain ⟨d, hd, h2⟩ := List.mem_map.1 h1
          rw [← h2]
          exact SM.out.2 d hd
        · rw [h]
          exact SX.out
      have ML : (L.set ii (x, s1, s2, s3)).length = us.length := by rw [List.length_set, LL.out, N0.out]
      have M1 := hid (MA.out w4 O4.out SM.out.2 (by omega))
      have M2 := hid (fun w' (o : Only [] w4 w') => MN.out _ _ w' ML (LO.only0 o) SO (by rw [ML, ← N0.out]; omega))
      clear hB4 hO4 LO SO ML QR QB Q2 Q3 one QZ L3
      go_wp2_with fail
      refine M1.out.mono ?_
      rintro e w5 ⟨rfl, o5⟩
      have M3 := hid (M2.out w5 o5)
      have O5 := hid (O4.out.trans o5)
      clear o5
      go_wp2_with fail
      refine M3.out.mono ?_
      rintro e w6 ⟨rfl, o6⟩
      have O6 := hid (O5.out.trans o6)
      clear o6
      go_wp2_with fail
      refine (AW.out w6).mono ?_
      rintro e w7 ⟨rfl, o7⟩
      have O7 := hid (O6.out.trans o7)
      clear o7
      go_wp2_with fail
      go_ret
      exact ⟨rfl, O7.out⟩
end Go.Proofs.Ytfmfknjjhemnoaa

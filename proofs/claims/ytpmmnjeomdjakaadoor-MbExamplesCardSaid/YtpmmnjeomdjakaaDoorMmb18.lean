/- MbWider. -/
/- which, the closures of awake. -/
/- awake of chapter 13: the blocks. -/
/- awake of chapter 13: sizes, checks. -/
import Derived.Test.YtpmmnjeomdjakaaDoorMmb17
section
set_option maxRecDepth 20000
namespace Go.Proofs.YtpmmnjeomdjakaaDoor
open Go.RowKit
set_option linter.unusedVariables false
set_option linter.unusedSimpArgs false

set_option maxRecDepth 1000000 in
set_option maxHeartbeats 8000000 in
theorem mbwider_any (hA : Awake13) (x : MV) (rv vv bv : Value) (refs more : Int) (w : World) (hV : MbV w) (hx : MIn x) (hm : MAt w x rv vv bv) (l4 : ∀ l, l ∈ x.blocks → l.length ≤ 17592186043904) (lp : x.pcm.size ≤ maxLen) :
    Calls Tryd.prog 8 #[mV x rv vv bv, .int .i64 refs, .int .i64 more] w fun e w' => e = .returned (.bool true) ∧ Only [] w w' := by
  obtain ⟨W, hW⟩ : ∃ W, W = w.alloc (.cells (mC x rv vv bv).toArray 28) := ⟨_, rfl⟩
  have BX := hid (show Blk W w.heap.size 28 (mC x rv vv bv).toArray from hW ▸ Blk.new w _ _)
  obtain ⟨p, hp⟩ : ∃ p, p = w.heap.size := ⟨_, rfl⟩
  have oW := hid (show Only [] w W ∧ p < W.heap.size ∧ w.heap.size ≤ p from ⟨hW ▸ ((Only.refl [] w).alloc _), by rw [hp]; exact BX.out.lt, by omega⟩)
  rw [← hp] at BX
  have FW := hid (few13_any x rv vv bv W (hm.only0 oW.out.1) l4 lp)
  have V := hid (fun w' (o : Only [] w w') => hV.only0 o)
  have yi := fewM_in hx
  have yf := fewM_few x
  obtain ⟨y, hy⟩ : ∃ y, y = fewM x := ⟨_, rfl⟩
  rw [← hy] at FW yi yf
  have YI := hid yi
  have YF := hid yf
  have AW := hid hA
  have HW := hid hW
  have HP := hid hp
  have m1 := modI13_in refs 32 (by omega)
  obtain ⟨r, hr⟩ : ∃ r, r = modI13 refs 32 := ⟨_, rfl⟩
  obtain ⟨R, hR⟩ : ∃ R, R = 1 + r := ⟨_, rfl⟩
  have m2 := modI13_in more (33 - R) (by omega)
  obtain ⟨s, hs⟩ : ∃ s, s = modI13 more (33 - R) := ⟨_, rfl⟩
  obtain ⟨M, hM⟩ : ∃ M, M = R + s := ⟨_, rfl⟩
  rw [← hr] at m1
  rw [← hs] at m2
  have M1 := hid (fun w => mod13_any refs 32 (by omega) w)
  have M2 := hid (fun w => mod13_any more (33 - R) (by omega) w)
  rw [← hr] at M1
  rw [← hs] at M2
  have EF := hid (fun (h : checkI y false R = 0) => check_mono (x := y) (R := R) (M := M) (by omega) (by omega) (by omega) h)
  have ET := hid (fun (h : checkI y true 0 = 0) => check_intra (x := y) (R := R) (by omega) (by omega) h)
  have w1 : 1 + r = R := hR.symm
  have w2 : R + s = M := hM.symm
  have r0 : 0 ≤ r := m1.1
  have r1 : r < 32 := m1.2
  have s0 : 0 ≤ s := m2.1
  have s1 : s < 33 - R := m2.2
  have R1 : 1 ≤ R := by omega
  have R2 : R ≤ 32 := by omega
  have N1 : 1 ≤ M := by omega
  have N2 : M ≤ 32 := by omega
  clear hW hm l4 lp hV hx hy hp yi yf hr hR hs hM m1 m2
  unfold mV
  go_enter Tryd.func8, Tryd.ntmps8
  go_wp2_with (first
    | (refine wp_box rfl 28 (.tmp 0) rfl (mC x rv vv bv).toArray rfl HW.out HP.out ?_; simp only [Act.put, List.setIfInBounds_toArray, List.set_cons_zero, List.set_cons_succ])
    | (refine load_atA rfl 28 (.tmp 3) rfl ⟨p, 0, none⟩ (mC x rv vv bv) rfl BX.out.mb ?_; simp only [Act.put, List.setIfInBounds_toArray, List.set_cons_zero, List.set_cons_succ]))
  refine FW.out.mono ?_
  rintro e w3 ⟨ra, va, ba, rfl, ha, o3⟩
  have b3 := BX.out.only o3 (by simp)
  have O3 := hid (oW.out.1.trans o3)
  have HA' := hid ha
  have one3 := (ha [] w3 (Only.refl _ _) (by simp)).one
  unfold mV
  go_upto_region 2 with (refine store_blk rfl 28 (.tmp 3) (.tmp 10) rfl p 0 _ _ (mC y ra va ba) rfl rfl (info_mb' _ _ _ _) b3 (by simp [mC]) (one_mC y one3.1 one3.2.1 one3.2.2) ?_; intro w4 hB4 hO4)
  rw [setsA_full (by simp [mC])] at hB4
  have O4 := hid (show Only [] w w4 from O3.out.trans2 hO4 (fun g hg => .inr (by have := oW.out.2.2; simp at hg; omega)))
  have MP := hid (show ∀ w', Only [] w4 w' → MAt w' y ra va ba from fun w' o => HA'.out [p] w' (hO4.trans (o.mono (fun _ _ h => by cases h))) (fun g hg => by have := oW.out.2.1; simp at hg; omega))
  have LP := hid (fun w' (o : Only [] w4 w') => hB4.only o (by simp))
  have CK := hid (fun w' (o : Only [] w4 w') i r => check13_any y ra va ba i r w' (V.out w' (O4.out.trans o)) YI.out (MP.out w' o) YF.out)
  have CP := hid (fun w' (o : Only [] w4 w') => copy13_any y ra va ba w' (V.out w' (O4.out.trans o)) (MP.out w' o) (by have := YF.out.r; omega) (by have := YF.out.v; omega) (by have := YF.out.b; omega) (fun l hl => by have := YF.out.i l hl; omega))
  have AV := hid (fun w' (o : Only [] w4 w') => AW.out w' (V.out w' (O4.out.trans o)))
  have CC := hid (fun rb vb bb w' (h : MAt w' y rb vb bb) (o : Only [] w4 w') => check13_any y rb vb bb false R w' (V.out w' (O4.out.trans o)) YI.out h YF.out)
  clear hB4 hO4 b3 o3 ha one3 FW HW HP BX O3 oW HA'
  go_wp2_with fail
  refine (M1.out _).mono ?_
  rintro e w5 ⟨rfl, rfl⟩
  go_wp2_with fail
  refine (M2.out _).mono ?_
  rintro e w6 ⟨rfl, rfl⟩
  go_upto_region 4 with fail
  refine wp_region_heldH (fun w' => Only [] w6 w') 8 (by kernel_rfl) rfl (Only.refl [] w6).drew (fun hS => ?_)
  generalize w6.drew = wd at *
  refine wpAnyH_read 0 rfl (by kernel_rfl) (by kernel_rfl) (by kernel_rfl) (fun _ _ _ h => h) hS (yields_load 28 _ (by rfl) rfl ⟨p, 0, none⟩ (mC y ra va ba) rfl (fun w' o => (LP.out w' o).mb)) ?_
  (try simp only [Act.put, List.setIfInBounds_toArray, List.set_cons_zero, List.set_cons_succ])
  refine wpAnyH_read 1 (v := ?va1) rfl (by kernel_rfl) (by kernel_rfl) (by kernel_rfl) (fun _ _ _ h => h) hS (Or.inl ⟨by rfl, ?ya1⟩) ?ra1
  case ya1 =>
    intro w hSw
    skip
    go_simp
    (try with_reducible rfl)
  (try simp only [Act.put, List.setIfInBounds_toArray, List.set_cons_zero, List.set_cons_succ])
  refine wpAnyH_read 3 rfl (by kernel_rfl) (by kernel_rfl) (by kernel_rfl) (fun _ _ _ h => h) hS (yields_load 28 _ (by rfl) rfl ⟨p, 0, none⟩ (mC y ra va ba) rfl (fun w' o => (LP.out w' o).mb)) ?_
  (try simp only [Act.put, List.setIfInBounds_toArray, List.set_cons_zero, List.set_cons_succ])
  refine wpAnyH_read 4 (v := ?va2) rfl (by kernel_rfl) (by kernel_rfl) (by kernel_rfl) (fun _ _ _ h => h) hS (Or.inl ⟨by rfl, ?ya2⟩) ?ra2
  case ya2 =>
    intro w hSw
    skip
    go_simp
    (try with_reducible rfl)
  (try simp only [Act.put, List.setIfInBounds_toArray, List.set_cons_zero, List.set_cons_succ])
  refine wpAnyH_call 2 rfl (by kernel_rfl) (fun J hJ => ?_)
  rw [if_pos (by rfl)]
  go_simp
  refine (CK.out _ hS _ _).mono ?_
  rintro e x2 ⟨rfl, p_⟩
  have s2 := hS.trans p_
  clear p_
  refine hJ.out _ _ s2 ?_
  clear hJ J
  (try simp only [Act.put, List.setIfInBounds_toArray, List.set_cons_zero, List.set_cons_succ])
  refine wpAnyH_call 5 rfl (by kernel_rfl) (fun J hJ => ?_)
  rw [if_pos (by rfl)]
  go_simp
  refine (CK.out _ s2 _ _).mono ?_
  rintro e x5 ⟨rfl, p_⟩
  have s5 := s2.trans p_
  clear p_
  refine hJ.out _ _ s5 ?_
  clear hJ J
  (try simp only [Act.put, List.setIfInBounds_toArray, List.set_cons_zero, List.set_cons_succ])
  refine wpAnyH_read 6 (v := ?va3) rfl (by kernel_rfl) (by kernel_rfl) (by kernel_rfl) (fun _ _ _ h => h) s5 (Or.inl ⟨by rfl, ?ya3⟩) ?ra3
  case ya3 =>
    intro w hSw
    skip
    go_simp
    (try with_reducible rfl)
  (try simp only [Act.put, List.setIfInBounds_toArray, List.set_cons_zero, List.set_cons_succ])
  refine wpAnyH_read 7 (v := ?va4) rfl (by kernel_rfl) (by kernel_rfl) (by kernel_rfl) (fun _ _ _ h => h) s5 (Or.inl ⟨by rfl, ?ya4⟩) ?ra4
  case ya4 =>
    intro w hSw
    skip
    go_simp
    (try with_reducible rfl)
  (try simp only [Act.put, List.setIfInBounds_toArray, List.set_cons_zero, List.set_cons_succ])
  refine wpAnyH_done (by kernel_rfl) ?_ _
  have S5 := hid s5
  obtain ⟨e, he⟩ : ∃ c, c = checkI y false R := ⟨_, rfl⟩
  obtain ⟨f, hf⟩ : ∃ c, c = checkI y false M := ⟨_, rfl⟩
  obtain ⟨t, ht⟩ : ∃ c, c = checkI y true 0 := ⟨_, rfl⟩
  rw [← he, ← hf]
  rw [← he, ← hf] at EF
  rw [← he, ← ht] at ET
  have CT := hid (fun w' o => CK.out w' o true 0)
  rw [← ht] at CT
  rw [← he] at CC
  have C0 := hid (fun w' o => CK.out w' o false 0)
  have C33 := hid (fun w' o => CK.out w' o false 33)
  rw [check_bad0] at C0
  rw [check_bad33] at C33
  clear he hf ht hS s2 s5 CK
  by_cases e0 : e = 0
  · subst e0
    obtain rfl : f = 0 := EF.out rfl
    go_wp2_with (refine load_atG (by kernel_rfl) 28 (.tmp 3) rfl ⟨p, 0, none⟩ (mC y ra va ba) rfl (LP.out _ S5.out).mb ?_; simp only [Act.put, List.setIfInBounds_toArray, List.set_cons_zero, List.set_cons_succ])
    refine (CT.out _ S5.out).mono ?_
    rintro e' w7 ⟨rfl, o7⟩
    have S7 := hid (S5.out.trans o7)
    clear o7
    by_cases t0 : t = 0
    · subst t0
      go_wp2_with (refine load_atG (by kernel_rfl) 28 (.tmp 3) rfl ⟨p, 0, none⟩ (mC y ra va ba) rfl (LP.out _ S7.out).mb ?_; simp only [Act.put, List.setIfInBounds_toArray, List.set_cons_zero, List.set_cons_succ])
      refine (CP.out _ S7.out).mono ?_
      rintro e' w8 ⟨rb, vb, bb, rfl, ho⟩
      have P8 := S7.out.trans ho.only
      have K8 := CC.out rb vb bb w8 ho.at P8
      have S8 := hid P8
      have K8' := hid K8
      clear P8 K8 ho
      unfold mV
      go_wp2_with fail
      refine K8'.out.mono ?_
      rintro e' w9 ⟨rfl, o9⟩
      have S9 := hid (S8.out.trans o9)
      clear o9
      go_wp2_with (refine load_atG (by kernel_rfl) 28 (.tmp 3) rfl ⟨p, 0, none⟩ (mC y ra va ba) rfl (LP.out _ S9.out).mb ?_; simp only [Act.put, List.setIfInBounds_toArray, List.set_cons_zero, List.set_cons_succ])
      refine (C0.out _ S9.out).mono ?_
      rintro e' w10 ⟨rfl, o10⟩
      have S10 := hid (S9.out.trans o10)
      clear o10
      go_wp2_with (refine load_atG (by kernel_rfl) 28 (.tmp 3) rfl ⟨p, 0, none⟩ (mC y ra va ba) rfl (LP.out _ S10.out).mb ?_; simp only [Act.put, List.setIfInBounds_toArray, List.set_cons_zero, List.set_cons_succ])
      refine (C33.out _ S10.out).mono ?_
      rintro e' w11 ⟨rfl, o11⟩
      have S11 := hid (S10.out.trans o11)
      clear o11
      go_wp2_with fail
      refine (AV.out _ S11.out).mono ?_
      rintro e' w12 ⟨rfl, o12⟩
      have S12 := hid (O4.out.trans (S11.out.trans o12))
      clear o12
      go_wp2_with fail
      go_ret
      exact ⟨rfl, S12.out⟩
    · have tt : (t == 0) = false := by simpa using t0
      clear t0
      go_wp2_with (refine load_atG (by kernel_rfl) 28 (.tmp 3) rfl ⟨p, 0, none⟩ (mC y ra va ba) rfl (LP.out _ S7.out).mb ?_; simp only [Act.put, List.setIfInBounds_toArray, List.set_cons_zero, List.set_cons_succ])
      refine (CP.out _ S7.out).mono ?_
      rintro e' w8 ⟨rb, vb, bb, rfl, ho⟩
      have P8 := S7.out.trans ho.only
      have K8 := CC.out rb vb bb w8 ho.at P8
      have S8 := hid P8
      have K8' := hid K8
      clear P8 K8 ho
      unfold mV
      go_wp2_with fail
      refine K8'.out.mono ?_
      rintro e' w9 ⟨rfl, o9⟩
      have S9 := hid (S8.out.trans o9)
      clear o9
      go_wp2_with (refine load_atG (by kernel_rfl) 28 (.tmp 3) rfl ⟨p, 0, none⟩ (mC y ra va ba) rfl (LP.out _ S9.out).mb ?_; simp only [Act.put, List.setIfInBounds_toArray, List.set_cons_zero, List.set_cons_succ])
      refine (C0.out _ S9.out).mono ?_
      rintro e' w10 ⟨rfl, o10⟩
      have S10 := hid (S9.out.trans o10)
      clear o10
      go_wp2_with (refine load_atG (by kernel_rfl) 28 (.tmp 3) rfl ⟨p, 0, none⟩ (mC y ra va ba) rfl (LP.out _ S10.out).mb ?_; simp only [Act.put, List.setIfInBounds_toArray, List.set_cons_zero, List.set_cons_succ])
      refine (C33.out _ S10.out).mono ?_
      rintro e' w11 ⟨rfl, o11⟩
      have S11 := hid (S10.out.trans o11)
      clear o11
      go_wp2_with fail
      refine (AV.out _ S11.out).mono ?_
      rintro e' w12 ⟨rfl, o12⟩
      have S12 := hid (O4.out.trans (S11.out.trans o12))
      clear o12
      go_wp2_with fail
      go_ret
      exact ⟨rfl, S12.out⟩
  · have ee : (e == 0) = false := by simpa using e0
    have en : (e != 0) = true := by simpa using e0
    have t0 : ¬ t = 0 := fun h => e0 (ET.out h)
    have tt : (t == 0) = false := by simpa using t0
    clear e0 t0
    go_wp2_with (refine load_atG (by kernel_rfl) 28 (.tmp 3) rfl ⟨p, 0, none⟩ (mC y ra va ba) rfl (LP.out _ S5.out).mb ?_; simp only [Act.put, List.setIfInBounds_toArray, List.set_cons_zero, List.set_cons_succ])
    refine (CT.out _ S5.out).mono ?_
    rintro e' w7 ⟨rfl, o7⟩
    have S7 := hid (S5.out.trans o7)
    clear o7
    go_wp2_with (refine load_atG (by kernel_rfl) 28 (.tmp 3) rfl ⟨p, 0, none⟩ (mC y ra va ba) rfl (LP.out _ S7.out).mb ?_; simp only [Act.put, List.setIfInBounds_toArray, List.set_cons_zero, List.set_cons_succ])
    refine (CP.out _ S7.out).mono ?_
    rintro e' w8 ⟨rb, vb, bb, rfl, ho⟩
    have P8 := S7.out.trans ho.only
    have K8 := CC.out rb vb bb w8 ho.at P8
    have S8 := hid P8
    have K8' := hid K8
    clear P8 K8 ho
    unfold mV
    go_wp2_with fail
    refine K8'.out.mono ?_
    rintro e' w9 ⟨rfl, o9⟩
    have S9 := hid (S8.out.trans o9)
    clear o9
    go_wp2_with (refine load_atG (by kernel_rfl) 28 (.tmp 3) rfl ⟨p, 0, none⟩ (mC y ra va ba) rfl (LP.out _ S9.out).mb ?_; simp only [Act.put, List.setIfInBounds_toArray, List.set_cons_zero, List.set_cons_succ])
    refine (C0.out _ S9.out).mono ?_
    rintro e' w10 ⟨rfl, o10⟩
    have S10 := hid (S9.out.trans o10)
    clear o10
    go_wp2_with (refine load_atG (by kernel_rfl) 28 (.tmp 3) rfl ⟨p, 0, none⟩ (mC y ra va ba) rfl (LP.out _ S10.out).mb ?_; simp only [Act.put, List.setIfInBounds_toArray, List.set_cons_zero, List.set_cons_succ])
    refine (C33.out _ S10.out).mono ?_
    rintro e' w11 ⟨rfl, o11⟩
    have S11 := hid (S10.out.trans o11)
    clear o11
    go_wp2_with fail
    refine (AV.out _ S11.out).mono ?_
    rintro e' w12 ⟨rfl, o12⟩
    have S12 := hid (O4.out.trans (S11.out.trans o12))
    clear o12
    go_wp2_with fail
    go_ret
    exact ⟨rfl, S12.out⟩
end Go.Proofs.YtpmmnjeomdjakaaDoor

end
section
set_option maxRecDepth 20000
namespace Go.Proofs.YtpmmnjeomdjakaaDoor
open Go.RowKit
set_option linter.unusedVariables false
set_option linter.unusedSimpArgs false

abbrev N0 : Value := .slice none 0 0
/-- A struct is built, where a guard lets it. -/
theorem wp_buildM {P : Program} {w : World} {ops : Array Oper} {rest : List Oper} {o : Oper} {a : Act} {Q : Exit → Act → World → Prop} (hg : Region.wanted o (yielded ops a.tmps) = true) (t : TypeId) (parts : Array (Nat × Operand)) (ho : o.op = .build t parts)
    (vs : Array (Nat × Value)) (hx : parts.map (fun (i, x) => (i, a.eval x)) = vs) (v : Value) (hr : (Instr.build t vs).run P w = .ok v w)
    (h : wpList P ops Q rest (a.put o.dst v) w) : wpList P ops Q (o :: rest) a w := by
  refine wpList_step fun K hK => ?_
  rw [if_pos hg]
  unfold Oper.wp execOp
  simp only [ho]
  simp [hx, hr, Result.andThen]
  exact hK _ _ (by simpa using h)
/-- A slice is built in a region that draws. -/
theorem step_bslice {P : Program} {ops : Array Oper} {o : Oper} {a : Act} {w : World} {K : Act → World → Prop} {Q : Exit → Act → World → Prop} {E : Prop}
    (hg : Region.wanted o (yielded ops a.tmps) = true) (t : TypeId) (n : Nat) (parts : Array (Nat × Operand)) (ho : o.op = .buildSlice t n parts) (vs : Array (Nat × Value)) (hx : parts.map (fun (i, x) => (i, a.eval x)) = vs) (v : Value) (w' : World) (hr : (Instr.buildSlice t n vs).run P w = .ok v w')
    (hK : K (a.put o.dst v) w') : if Region.wanted o (yielded ops a.tmps) = true then Oper.wp P o a w K Q else E := by
  rw [if_pos hg]
  unfold Oper.wp execOp
  simp only [ho]
  simp [hx, hr, Result.andThen]
  exact hK
theorem bm_0 (w : World) : (Instr.build 28 #[]).run Tryd.prog w = .ok (mV (smallM (0, 0, 0)) N0 N0 N0) w := by kernel_rfl
theorem bm_k (k : Int) (w : World) : (Instr.build 28 #[(0, .int .u8 k)]).run Tryd.prog w = .ok (mV (smallM (k, 0, 0)) N0 N0 N0) w := by kernel_rfl
theorem bm_c (c : Int) (w : World) : (Instr.build 28 #[(7, .int .u8 c)]).run Tryd.prog w = .ok (mV (smallM (0, 0, c)) N0 N0 N0) w := by kernel_rfl
theorem bm_kc (k c : Int) (w : World) : (Instr.build 28 #[(0, .int .u8 k), (7, .int .u8 c)]).run Tryd.prog w = .ok (mV (smallM (k, 0, c)) N0 N0 N0) w := by kernel_rfl
theorem run_cd6 (a b c d e f : Cod) (w : World) : (Instr.buildSlice 49 6 #[(0, cdV a), (1, cdV b), (2, cdV c), (3, cdV d), (4, cdV e), (5, cdV f)]).run Tryd.prog w = .ok (.slice (some ⟨w.heap.size, 0, none⟩) 6 6) (w.alloc (.cells (cellsG cdC [a, b, c, d, e, f]).toArray 40)) := by kernel_rfl
theorem run_cd10 (a b c d e f g h i j : Cod) (w : World) : (Instr.buildSlice 49 10 #[(0, cdV a), (1, cdV b), (2, cdV c), (3, cdV d), (4, cdV e), (5, cdV f), (6, cdV g), (7, cdV h), (8, cdV i), (9, cdV j)]).run Tryd.prog w = .ok (.slice (some ⟨w.heap.size, 0, none⟩) 10 10) (w.alloc (.cells (cellsG cdC [a, b, c, d, e, f, g, h, i, j]).toArray 40)) := by kernel_rfl
theorem ho_cd {w : World} {k : Nat} {T : TypeId} {x : Cod} (h : Blk w k T (cdC x).toArray) : (Instr.loadAt 40 (.pointer (some ⟨k, 0, none⟩))).run Tryd.prog w = .ok (.agg (cdC x).toArray) w := by
  have hl := run_loadCells_list (P := Tryd.prog) w ⟨k, 0, none⟩ (cdC x) (fun j v hj => by rw [add_off, Nat.zero_add]; exact h.cell (by simpa using hj))
  rw [show (cdC x).length = 3 from rfl] at hl
  simp only [Instr.loadAt, Instr.sureAddr, Sem.run_bind, Sem.run_pure, Result.andThen_ok, loadVar]
  simp [hl]
theorem lv_cd {w : World} {k : Nat} {T : TypeId} {x : Cod} (h : Blk w k T (cdC x).toArray) : (loadVar 40 ⟨k, 0, none⟩).run Tryd.prog w = .ok (cdV x) w := by
  have hl := run_loadCells_list (P := Tryd.prog) w ⟨k, 0, none⟩ (cdC x) (fun j v hj => by rw [add_off, Nat.zero_add]; exact h.cell (by simpa using hj))
  rw [show (cdC x).length = 3 from rfl] at hl
  simp only [loadVar]
  simp [hl, cdV]
theorem info_cd (x : Cod) : (Tryd.prog.info? 40).map (·.size) = some (cdC x).length := by kernel_rfl
set_option maxRecDepth 100000 in
theorem which_any (x : MV) (rv vv bv wv : Value) (ws : List Cod) (w : World) (hV : MbV w) (hx : MIn x) (hw : HoldsG cdC 3 w wv ws) (hl : ws.length ≤ 1000) :
    Calls Tryd.prog 48 #[mV x rv vv bv, wv] w fun e w' => e = .returned (.bool (decide (whichL x = ws))) ∧ Only [] w w' := by
  obtain ⟨W1, hW⟩ : ∃ W, W = w.alloc (.cells (mC x rv vv bv).toArray 28) := ⟨_, rfl⟩
  have BX := hid (show Blk W1 w.heap.size 28 (mC x rv vv bv).toArray from hW ▸ Blk.new w _ _)
  have oW := hid (show Only [] w W1 from hW ▸ ((Only.refl [] w).alloc _))
  have C := hid (blocks13_any x rv vv bv W1 (hV.only0 oW.out) hx)
  have H := hid (fun w' (o : Only [] W1 w') => hw.only0 (oW.out.trans o))
  have LL := hid hl
  have WL := hid (show (whichL x).length ≤ 27 from blocksL_len _ _)
  have HW := hid hW
  obtain ⟨r, hr⟩ : ∃ r, r = decide (whichL x = ws) := ⟨_, rfl⟩
  rw [← hr]
  have RR := hid hr
  clear hW hx hw hl hr
  unfold mV
  go_enter Tryd.func48, Tryd.ntmps48
  go_upto_region 1 with fail
  generalize hw : w.alloc _ = W'
  obtain rfl : W1 = W' := HW.out.trans hw
  go_wp2_with (refine load_atA rfl 28 _ rfl ⟨w.heap.size, 0, none⟩ (mC x rv vv bv) rfl BX.out.mb ?_; simp only [Act.put, List.setIfInBounds_toArray, List.set_cons_zero, List.set_cons_succ])
  refine C.out.mono ?_
  rintro e w2 ⟨sv, rfl, c2⟩
  have EQ := hid (show Calls Tryd.prog 59 #[sv, wv] w2 fun e w' => e = .returned (.bool r) ∧ Only [] w2 w' from by have := eqcd_any sv wv (whichL x) ws w2 (c2.row.holds cdC_ok) (H.out w2 c2.only) (by have := WL.out; omega) (by have := LL.out; omega); rw [← RR.out] at this; exact this)
  have O2 := hid (oW.out.trans c2.only)
  clear c2
  go_wp2_with fail
  refine EQ.out.mono ?_
  rintro e w3 ⟨rfl, o3⟩
  have O3 := hid (O2.out.trans o3)
  clear o3
  go_wp2_with fail
  go_ret
  exact ⟨rfl, O3.out⟩
theorem luma_any (k : Int) (w : World) : Calls Tryd.prog 46 #[.int .i64 k] w fun e w' => e = .returned (cdV (2, 0, k)) ∧ Only [] w w' := by
  go_enter Tryd.func46, Tryd.ntmps46
  go_wp2_with (refine store_blk rfl 40 _ _ rfl w.heap.size 0 _ _ (cdC (2, 0, k)) rfl rfl (info_cd _) (Blk.new w _ _) (by simp [cdC]) (cdC_ok.one _) ?_; intro w7 hB7 hO7)
  rw [setsA_full (by simp [cdC])] at hB7
  refine bodyPost_ret (v := cdV (2, 0, k)) (res_c rfl rfl (lv_cd hB7)) rfl ⟨rfl, ?_⟩
  exact ((Only.refl [] w).alloc _).trans2 hO7 (fun y hy => .inr (by simp at hy; omega))
theorem ac_any (c k : Int) (w : World) : Calls Tryd.prog 47 #[.int .u8 c, .int .i64 k] w fun e w' => e = .returned (cdV (4, c, k)) ∧ Only [] w w' := by
  go_enter Tryd.func47, Tryd.ntmps47
  go_wp2_with (refine store_blk rfl 40 _ _ rfl w.heap.size 0 _ _ (cdC (4, c, k)) rfl rfl (info_cd _) (Blk.new w _ _) (by simp [cdC]) (cdC_ok.one _) ?_; intro w7 hB7 hO7)
  rw [setsA_full (by simp [cdC])] at hB7
  refine bodyPost_ret (v := cdV (4, c, k)) (res_c rfl rfl (lv_cd hB7)) rfl ⟨rfl, ?_⟩
  exact ((Only.refl [] w).alloc _).trans2 hO7 (fun y hy => .inr (by simp at hy; omega))
end Go.Proofs.YtpmmnjeomdjakaaDoor

end
section
set_option maxRecDepth 20000
namespace Go.Proofs.YtpmmnjeomdjakaaDoor
open Go.RowKit
set_option linter.unusedVariables false
set_option linter.unusedSimpArgs false

noncomputable def aw13B : Code := Tryd.f14.body.getD .skip
theorem Blk.new2 (w : World) (b : Obj) (t : TypeId) (a : Array Value) : Blk ((w.alloc b).alloc (.cells a t)) (w.heap.size + 1) t a := by
  have := Blk.new (w.alloc b) t a
  rwa [World.size_alloc] at this
theorem small_in (k m c : Int) (h : (0 ≤ k ∧ k ≤ 255) ∧ (0 ≤ m ∧ m ≤ 255) ∧ 0 ≤ c ∧ c ≤ 255) : MIn (smallM (k, m, c)) :=
  ⟨h.1.1, h.1.2, h.2.1.1, h.2.1.2, by simp [smallM], by simp [smallM], by simp [smallM, P16.l, P16.zero], by simp [smallM, S4.l, S4.zero], h.2.2.1, h.2.2.2, by simp [smallM], by simp [smallM]⟩
theorem small_at (w : World) (t : Int × Int × Int) : MAt w (smallM t) N0 N0 N0 := ⟨holdsI_none _ _, holdsG_none _, holdsB_none _⟩
theorem small_few (t : Int × Int × Int) : MFew (smallM t) := ⟨by simp [smallM], by simp [smallM], by simp [smallM], fun l h => by simp [smallM] at h⟩
theorem check_lit (k m c : Int) (i : Bool) (r e : Int) (w : World) (hV : MbV w) (h : ((0 ≤ k ∧ k ≤ 255) ∧ (0 ≤ m ∧ m ≤ 255) ∧ 0 ≤ c ∧ c ≤ 255) ∧ checkI (smallM (k, m, c)) i r = e) :
    Calls Tryd.prog 11 #[mV (smallM (k, m, c)) N0 N0 N0, .bool i, .int .i64 r] w fun e' w' => e' = .returned (.int .i64 e) ∧ Only [] w w' := by
  have T := check13_any (smallM (k, m, c)) N0 N0 N0 i r w hV (small_in k m c h.1) (small_at w _) (small_few _)
  rw [h.2] at T
  exact T
theorem which_lit (k m c : Int) (wv : Value) (ws : List Cod) (w : World) (hV : MbV w) (hw : HoldsG cdC 3 w wv ws) (h : ((0 ≤ k ∧ k ≤ 255) ∧ (0 ≤ m ∧ m ≤ 255) ∧ 0 ≤ c ∧ c ≤ 255) ∧ whichL (smallM (k, m, c)) = ws ∧ ws.length ≤ 1000) :
    Calls Tryd.prog 48 #[mV (smallM (k, m, c)) N0 N0 N0, wv] w fun e w' => e = .returned (.bool true) ∧ Only [] w w' := by
  have T := which_any (smallM (k, m, c)) N0 N0 N0 wv ws w hV (small_in k m c h.1) hw h.2.2
  rw [decide_eq_true h.2.1] at T
  exact T
theorem size_lit (c a e : Int) (w : World) (hV : MbV w) (h : 0 ≤ c ∧ c ≤ 255 ∧ sizeI c = (a, e)) : Calls Tryd.prog 24 #[.int .u8 c] w fun e' w' => e' = .returned (.tuple #[.int .i64 a, .int .i64 e]) ∧ Only [] w w' := by
  have T := size13_any c w hV h.1 h.2.1
  rw [h.2.2] at T
  exact T
def oneM (q : Int) : MV := ⟨3, 0, 0, .zero, .zero, [1], [(0, 0)], 0, q, [], .empty⟩
def lessM : MV := ⟨3, 0, 0, .zero, .zero, [1], [], 0, 0, [], .empty⟩
theorem bm_one (a b : Addr) (n c m d : Nat) (w : World) : (Instr.build 28 #[(0, .int .u8 3), (5, .slice (some a) n c), (6, .slice (some b) m d)]).run Tryd.prog w = .ok (mV (oneM 0) (.slice (some a) n c) (.slice (some b) m d) N0) w := by kernel_rfl
theorem one_in (q : Int) (h : -9223372036854775808 ≤ q ∧ q ≤ 9223372036854775807) : MIn (oneM q) := ⟨by simp [oneM], by simp [oneM], by simp [oneM], by simp [oneM], by simp [oneM], by simp [oneM], by simp [oneM, P16.l, P16.zero], by simp [oneM, S4.l, S4.zero], by simp [oneM], by simp [oneM], h.1, h.2⟩
theorem less_in : MIn lessM := ⟨by simp [lessM], by simp [lessM], by simp [lessM], by simp [lessM], by simp [lessM], by simp [lessM], by simp [lessM, P16.l, P16.zero], by simp [lessM, S4.l, S4.zero], by simp [lessM], by simp [lessM], by simp [lessM], by simp [lessM]⟩
theorem one_few (q : Int) : MFew (oneM q) := ⟨by simp [oneM], by simp [oneM], by simp [oneM], fun l h => by simp [oneM] at h⟩
theorem less_few : MFew lessM := ⟨by simp [lessM], by simp [lessM], by simp [lessM], fun l h => by simp [lessM] at h⟩
set_option maxRecDepth 1000000 in
set_option maxHeartbeats 8000000 in
theorem aw_a (rest : Code) (Q : Exit → Act → World → Prop) (hQ : ∀ c (a : Act) d v w, Q (.panic c) (a.put (some d) v) w → Q (.panic c) a w) (w : World) (hV : ∀ w', Only [] w w' → MbV w') (u0 u1 u2 u3 u4 u5 u6 u7 u8 u9 u10 u11 u12 u13 u14 u15 u16 u17 u18 u19 u20 u21 u22 u23 u24 u25 u26 u27 u28 u29 u30 u31 u32 u33 u34 u35 u36 u37 u38 u39 u40 u41 u42 u43 u44 u45 u46 u47 u48 u49 u50 u51 u52 u53 u54 u55 u56 u57 u58 u59 u60 u61 u62 u63 u64 u65 u66 u67 u68 u69 u70 u71 u72 u73 u74 u75 u76 u77 u78 u79 u80 u81 u82 u83 u84 u85 u86 u87 u88 u89 u90 u91 u92 u93 u94 u95 u96 u97 u98 u99 u100 u101 u102 u103 u104 u105 u106 u107 u108 u109 u110 u111 u112 u113 u114 u115 u116 u117 u118 u119 u120 u121 u122 u123 u124 u125 u126 u127 u128 u129 u130 u131 u132 u133 u134 u135 u136 u137 u138 u139 u140 u141 u142 u143 u144 u145 u146 : Value)
    (hr : ∀ (w' : World) (v0 v1 v2 v3 v4 v15 v16 v17 v18 v19 v20 v21 v22 v23 v24 v25 v26 v27 v28 v29 v30 v31 v32 v33 v34 v35 v36 v37 v38 v39 v40 v41 v42 v43 v44 v45 v46 v47 v48 v49 v50 v51 v52 v53 v54 v55 v56 v57 v58 v59 v60 v61 : Value), Only [] w w' → rest.wp Tryd.prog Q ⟨#[v0, v1, v2, v3, v4, u5, u6, u7, u8, u9, u10, u11, u12, u13, u14, v15, v16, v17, v18, v19, v20, v21, v22, v23, v24, v25, v26, v27, v28, v29, v30, v31, v32, v33, v34, v35, v36, v37, v38, v39, v40, v41, v42, v43, v44, v45, v46, v47, v48, v49, v50, v51, v52, v53, v54, v55, v56, v57, v58, v59, v60, v61, u62, u63, u64, u65, u66, u67, u68, u69, u70, u71, u72, u73, u74, u75, u76, u77, u78, u79, u80, u81, u82, u83, u84, u85, u86, u87, u88, u89, u90, u91, u92, u93, u94, u95, u96, u97, u98, u99, u100, u101, u102, u103, u104, u105, u106, u107, u108, u109, u110, u111, u112, u113, u114, u115, u116, u117, u118, u119, u120, u121, u122, u123, u124, u125, u126, u127, u128, u129, u130, u131, u132, u133, u134, u135, u136, u137, u138, u139, u140, u141, u142, u143, u144, u145, u146], []⟩ w') :
    (endWith 5 aw13B rest).wp Tryd.prog Q ⟨#[u0, u1, u2, u3, u4, u5, u6, u7, u8, u9, u10, u11, u12, u13, u14, u15, u16, u17, u18, u19, u20, u21, u22, u23, u24, u25, u26, u27, u28, u29, u30, u31, u32, u33, u34, u35, u36, u37, u38, u39, u40, u41, u42, u43, u44, u45, u46, u47, u48, u49, u50, u51, u52, u53, u54, u55, u56, u57, u58, u59, u60, u61, u62, u63, u64, u65, u66, u67, u68, u69, u70, u71, u72, u73, u74, u75, u76, u77, u78, u79, u80, u81, u82, u83, u84, u85, u86, u87, u88, u89, u90, u91, u92, u93, u94, u95, u96, u97, u98, u99, u100, u101, u102, u103, u104, u105, u106, u107, u108, u109, u110, u111, u112, u113, u114, u115, u116, u117, u118, u119, u120, u121, u122, u123, u124, u125, u126, u127, u128, u129, u130, u131, u132, u133, u134, u135, u136, u137, u138, u139, u140, u141, u142, u143, u144, u145, u146], []⟩ w := by
  conv => arg 2; whnf; arg 2; whnf; arg 2; whnf; arg 2; whnf; arg 2; whnf; arg 2; whnf
  have HR := hid hr
  clear hr
  have V := hid hV
  clear hV
  go_upto_region 2 with (first
    | (refine store_blk rfl 40 (.tmp 1) (.tmp 15) rfl w.heap.size 0 _ _ (cdC (3, 0, 0)) rfl rfl (info_cd _) ((Blk.new w _ _).only ((Only.refl [] _).alloc _) (by simp)) (by simp [cdC]) (cdC_ok.one _) ?_; intro w1 hB1 hO1)
    | (refine store_blk rfl 40 (.tmp 2) (.tmp 16) rfl (w.heap.size + 1) 0 _ _ (cdC (3, 1, 0)) rfl rfl (info_cd _) ((Blk.new2 w _ _ _).only hO1 (by simp)) (by simp [cdC]) (cdC_ok.one _) ?_; intro w2 hB2 hO2))
  rw [setsA_full (by simp [cdC])] at hB1 hB2
  have o12 : Only [] w w2 := (((Only.refl [] w).alloc _).alloc _).trans2 ((hO1.mono (fun g _ h => by simp at h ⊢; exact .inl h)).trans (hO2.mono (fun g _ h => by simp at h ⊢; exact .inr h)) : Only [w.heap.size, w.heap.size + 1] _ _) (fun g hg => .inr (by simp at hg; omega))
  obtain ⟨D, hD⟩ : ∃ D, D = w.heap.size := ⟨_, rfl⟩
  rw [← hD] at hB1 hB2 hO1 hO2 ⊢
  have K1 := hid (fun w' (o : Only [] w2 w') => (hB1.only hO2 (by simp)).only o (by simp))
  have K2 := hid (fun w' (o : Only [] w2 w') => hB2.only o (by simp))
  have O2 := hid o12
  have VV := hid (fun w' (o : Only [] w2 w') => V.out w' (O2.out.trans o))
  clear hB1 hB2 hO1 hO2 o12 hD
  go_upto_region 4 with fail
  refine wp_region_heldH (fun w' => Only [] w2 w') 45 (by kernel_rfl) rfl (Only.refl [] w2).drew (fun hS => ?_)
  generalize w2.drew = wd at *
  refine wpAnyH_read 0 (v := ?va1) rfl (by kernel_rfl) (by kernel_rfl) (by kernel_rfl) (fun _ _ _ h => hQ _ _ _ _ _ h) hS (Or.inl ⟨by rfl, ?ya1⟩) ?ra1
  case ya1 =>
    intro w hSw
    skip
    go_simp
    (try with_reducible rfl)
  (try simp only [Act.put, List.setIfInBounds_toArray, List.set_cons_zero, List.set_cons_succ])
  refine wpAnyH_read 1 (v := ?va2) rfl (by kernel_rfl) (by kernel_rfl) (by kernel_rfl) (fun _ _ _ h => hQ _ _ _ _ _ h) hS (Or.inl ⟨by rfl, ?ya2⟩) ?ra2
  case ya2 =>
    intro w hSw
    skip
    go_simp
    (try with_reducible rfl)
  (try simp only [Act.put, List.setIfInBounds_toArray, List.set_cons_zero, List.set_cons_succ])
  refine wpAnyH_call 2 rfl (by kernel_rfl) (fun J hJ => ?_)
  refine step_bslice (by kernel_rfl) 49 1 #[(0, .tmp 18)] rfl #[(0, cdV (0, 0, 0))] (by kernel_rfl) _ _ (run_cd1 _ _) ?_
  have HG2 := holdsG_lit cdC_ok wd 40 ([(0, 0, 0)] : List Cod) (by simp [maxLen])
  have s2 := hS.alloc (.cells (cellsG cdC ([(0, 0, 0)] : List Cod)).toArray 40)
  refine hJ.out _ _ s2 ?_
  clear hJ J
  (try simp only [Act.put, List.setIfInBounds_toArray, List.set_cons_zero, List.set_cons_succ])
  refine wpAnyH_call 3 rfl (by kernel_rfl) (fun J hJ => ?_)
  rw [if_pos (by rfl)]
  go_simp
  refine (which_lit 1 0 0 _ [(0, 0, 0)] _ (VV.out _ s2) HG2 (by decide +kernel)).mono ?_
  rintro e x3 ⟨rfl, p_⟩
  have s3 := s2.trans p_
  clear p_
  refine hJ.out _ _ s3 ?_
  clear hJ J
  (try simp only [Act.put, List.setIfInBounds_toArray, List.set_cons_zero, List.set_cons_succ])
  refine wpAnyH_read 4 (v := ?va3) rfl (by kernel_rfl) (by kernel_rfl) (by kernel_rfl) (fun _ _ _ h => hQ _ _ _ _ _ h) s3 (Or.inl ⟨by rfl, ?ya3⟩) ?ra3
  case ya3 =>
    intro w hSw
    skip
    go_simp
    (try with_reducible rfl)
  (try simp only [Act.put, List.setIfInBounds_toArray, List.set_cons_zero, List.set_cons_succ])
  refine wpAnyH_read 5 (v := ?va4) rfl (by kernel_rfl) (by kernel_rfl) (by kernel_rfl) (fun _ _ _ h => hQ _ _ _ _ _ h) s3 (Or.inl ⟨by rfl, ?ya4⟩) ?ra4
  case ya4 =>
    intro w hSw
    skip
    go_simp
    (try with_reducible rfl)
  (try simp only [Act.put, List.setIfInBounds_toArray, List.set_cons_zero, List.set_cons_succ])
  refine wpAnyH_read 6 (v := ?va5) rfl (by kernel_rfl) (by kernel_rfl) (by kernel_rfl) (fun _ _ _ h => hQ _ _ _ _ _ h) s3 (Or.inl ⟨by rfl, ?ya5⟩) ?ra5
  case ya5 =>
    intro w hSw
    skip
    go_simp
    (try with_reducible rfl)
  (try simp only [Act.put, List.setIfInBounds_toArray, List.set_cons_zero, List.set_cons_succ])
  refine wpAnyH_read 7 (v := ?va6) rfl (by kernel_rfl) (by kernel_rfl) (by kernel_rfl) (fun _ _ _ h => hQ _ _ _ _ _ h) s3 (Or.inl ⟨by rfl, ?ya6⟩) ?ra6
  case ya6 =>
    intro w hSw
    skip
    go_simp
    (try with_reducible rfl)
  (try simp only [Act.put, List.setIfInBounds_toArray, List.set_cons_zero, List.set_cons_succ])
  refine wpAnyH_read 9 (v := ?va7) rfl (by kernel_rfl) (by kernel_rfl) (by kernel_rfl) (fun _ _ _ h => hQ _ _ _ _ _ h) s3 (Or.inl ⟨by rfl, ?ya7⟩) ?ra7
  case ya7 =>
    intro w hSw
    skip
    go_simp
    (try with_reducible rfl)
  (try simp only [Act.put, List.setIfInBounds_toArray, List.set_cons_zero, List.set_cons_succ])
  refine wpAnyH_read 11 (v := ?va8) rfl (by kernel_rfl) (by kernel_rfl) (by kernel_rfl) (fun _ _ _ h => hQ _ _ _ _ _ h) s3 (Or.inl ⟨by rfl, ?ya8⟩) ?ra8
  case ya8 =>
    intro w hSw
    skip
    go_simp
    (try with_reducible rfl)
  (try simp only [Act.put, List.setIfInBounds_toArray, List.set_cons_zero, List.set_cons_succ])
  refine wpAnyH_read 13 (v := ?va9) rfl (by kernel_rfl) (by kernel_rfl) (by kernel_rfl) (fun _ _ _ h => hQ _ _ _ _ _ h) s3 (Or.inl ⟨by rfl, ?ya9⟩) ?ra9
  case ya9 =>
    intro w hSw
    skip
    go_simp
    (try with_reducible rfl)
  (try simp only [Act.put, List.setIfInBounds_toArray, List.set_cons_zero, List.set_cons_succ])
  refine wpAnyH_read 15 rfl (by kernel_rfl) (by kernel_rfl) (by kernel_rfl) (fun _ _ _ h => hQ _ _ _ _ _ h) s3 (yields_load 40 _ (by rfl) rfl ⟨D, 0, none⟩ (cdC (3, 0, 0)) rfl (fun w' o => ho_cd (K1.out w' o))) ?_
  (try simp only [Act.put, List.setIfInBounds_toArray, List.set_cons_zero, List.set_cons_succ])
  refine wpAnyH_read 16 rfl (by kernel_rfl) (by kernel_rfl) (by kernel_rfl) (fun _ _ _ h => hQ _ _ _ _ _ h) s3 (yields_load 40 _ (by rfl) rfl ⟨D + 1, 0, none⟩ (cdC (3, 1, 0)) rfl (fun w' o => ho_cd (K2.out w' o))) ?_
  (try simp only [Act.put, List.setIfInBounds_toArray, List.set_cons_zero, List.set_cons_succ])
  refine wpAnyH_call 8 rfl (by kernel_rfl) (fun J hJ => ?_)
  rw [if_pos (by rfl)]
  go_simp
  refine (luma_any 4 _).mono ?_
  rintro e x8 ⟨rfl, p_⟩
  have s8 := s3.trans p_
  clear p_
  refine hJ.out _ _ s8 ?_
  clear hJ J
  (try simp only [Act.put, List.setIfInBounds_toArray, List.set_cons_zero, List.set_cons_succ])
  refine wpAnyH_call 10 rfl (by kernel_rfl) (fun J hJ => ?_)
  rw [if_pos (by rfl)]
  go_simp
  refine (luma_any 5 _).mono ?_
  rintro e x10 ⟨rfl, p_⟩
  have s10 := s8.trans p_
  clear p_
  refine hJ.out _ _ s10 ?_
  clear hJ J
  (try simp only [Act.put, List.setIfInBounds_toArray, List.set_cons_zero, List.set_cons_succ])
  refine wpAnyH_call 12 rfl (by kernel_rfl) (fun J hJ => ?_)
  rw [if_pos (by rfl)]
  go_simp
  refine (luma_any 6 _).mono ?_
  rintro e x12 ⟨rfl, p_⟩
  have s12 := s10.trans p_
  clear p_
  refine hJ.out _ _ s12 ?_
  clear hJ J
  (try simp only [Act.put, List.setIfInBounds_toArray, List.set_cons_zero, List.set_cons_succ])
  refine wpAnyH_call 14 rfl (by kernel_rfl) (fun J hJ => ?_)
  rw [if_pos (by rfl)]
  go_simp
  refine (luma_any 7 _).mono ?_
  rintro e x14 ⟨rfl, p_⟩
  have s14 := s12.trans p_
  clear p_
  refine hJ.out _ _ s14 ?_
  clear hJ J
  (try simp only [Act.put, List.setIfInBounds_toArray, List.set_cons_zero, List.set_cons_succ])
  refine wpAnyH_call 17 rfl (by kernel_rfl) (fun J hJ => ?_)
  refine step_bslice (by kernel_rfl) 49 6 #[(0, .tmp 25), (1, .tmp 27), (2, .tmp 29), (3, .tmp 31), (4, .tmp 32), (5, .tmp 33)] rfl #[(0, cdV (2, 0, 4)), (1, cdV (2, 0, 5)), (2, cdV (2, 0, 6)), (3, cdV (2, 0, 7)), (4, cdV (3, 0, 0)), (5, cdV (3, 1, 0))] (by kernel_rfl) _ _ (run_cd6 _ _ _ _ _ _ _) ?_
  have HG17 := holdsG_lit cdC_ok x14 40 ([(2, 0, 4), (2, 0, 5), (2, 0, 6), (2, 0, 7), (3, 0, 0), (3, 1, 0)] : List Cod) (by simp [maxLen])
  have s17 := s14.alloc (.cells (cellsG cdC ([(2, 0, 4), (2, 0, 5), (2, 0, 6), (2, 0, 7), (3, 0, 0), (3, 1, 0)] : List Cod)).toArray 40)
  refine hJ.out _ _ s17 ?_
  clear hJ J
  (try simp only [Act.put, List.setIfInBounds_toArray, List.set_cons_zero, List.set_cons_succ])
  refine wpAnyH_call 18 rfl (by kernel_rfl) (fun J hJ => ?_)
  rw [if_pos (by rfl)]
  go_simp
  refine (which_lit 0 0 18 _ [(2, 0, 4), (2, 0, 5), (2, 0, 6), (2, 0, 7), (3, 0, 0), (3, 1, 0)] _ (VV.out _ s17) HG17 (by decide +kernel)).mono ?_
  rintro e x18 ⟨rfl, p_⟩
  have s18 := s17.trans p_
  clear p_
  refine hJ.out _ _ s18 ?_
  clear hJ J
  (try simp only [Act.put, List.setIfInBounds_toArray, List.set_cons_zero, List.set_cons_succ])
  refine wpAnyH_read 19 (v := ?va10) rfl (by kernel_rfl) (by kernel_rfl) (by kernel_rfl) (fun _ _ _ h => hQ _ _ _ _ _ h) s18 (Or.inl ⟨by rfl, ?ya10⟩) ?ra10
  case ya10 =>
    intro w hSw
    skip
    go_simp
    (try with_reducible rfl)
  (try simp only [Act.put, List.setIfInBounds_toArray, List.set_cons_zero, List.set_cons_succ])
  refine wpAnyH_read 20 (v := ?va11) rfl (by kernel_rfl) (by kernel_rfl) (by kernel_rfl) (fun _ _ _ h => hQ _ _ _ _ _ h) s18 (Or.inl ⟨by rfl, ?ya11⟩) ?ra11
  case ya11 =>
    intro w hSw
    skip
    go_simp
    (try with_reducible rfl)
  (try simp only [Act.put, List.setIfInBounds_toArray, List.set_cons_zero, List.set_cons_succ])
  refine wpAnyH_read 21 (v := ?va12) rfl (by kernel_rfl) (by kernel_rfl) (by kernel_rfl) (fun _ _ _ h => hQ _ _ _ _ _ h) s18 (Or.inl ⟨by rfl, ?ya12⟩) ?ra12
  case ya12 =>
    intro w hSw
    skip
    go_simp
    (try with_reducible rfl)
  (try simp only [Act.put, List.setIfInBounds_toArray, List.set_cons_zero, List.set_cons_succ])
  refine wpAnyH_read 22 (v := ?va13) rfl (by kernel_rfl) (by kernel_rfl) (by kernel_rfl) (fun _ _ _ h => hQ _ _ _ _ _ h) s18 (Or.inl ⟨by rfl, ?ya13⟩) ?ra13
  case ya13 =>
    intro w hSw
    skip
    go_simp
    (try with_reducible rfl)
  (try simp only [Act.put, List.setIfInBounds_toArray, List.set_cons_zero, List.set_cons_succ])
  refine wpAnyH_read 23 rfl (by kernel_rfl) (by kernel_rfl) (by kernel_rfl) (fun _ _ _ h => hQ _ _ _ _ _ h) s18 (yields_load 40 _ (by rfl) rfl ⟨D, 0, none⟩ (cdC (3, 0, 0)) rfl (fun w' o => ho_cd (K1.out w' o))) ?_
  (try simp only [Act.put, List.setIfInBounds_toArray, List.set_cons_zero, List.set_cons_succ])
  refine wpAnyH_read 24 rfl (by kernel_rfl) (by kernel_rfl) (by kernel_rfl) (fun _ _ _ h => hQ _ _ _ _ _ h) s18 (yields_load 40 _ (by rfl) rfl ⟨D + 1, 0, none⟩ (cdC (3, 1, 0)) rfl (fun w' o => ho_cd (K2.out w' o))) ?_
  (try simp only [Act.put, List.setIfInBounds_toArray, List.set_cons_zero, List.set_cons_succ])
  refine wpAnyH_read 25 (v := ?va14) rfl (by kernel_rfl) (by kernel_rfl) (by kernel_rfl) (fun _ _ _ h => hQ _ _ _ _ _ h) s18 (Or.inl ⟨by rfl, ?ya14⟩) ?ra14
  case ya14 =>
    intro w hSw
    skip
    go_simp
    (try with_reducible rfl)
  (try simp only [Act.put, List.setIfInBounds_toArray, List.set_cons_zero, List.set_cons_succ])
  refine wpAnyH_read 27 (v := ?va15) rfl (by kernel_rfl) (by kernel_rfl) (by kernel_rfl) (fun _ _ _ h => hQ _ _ _ _ _ h) s18 (Or.inl ⟨by rfl, ?ya15⟩) ?ra15
  case ya15 =>
    intro w hSw
    skip
    go_simp
    (try with_reducible rfl)
  (try simp only [Act.put, List.setIfInBounds_toArray, List.set_cons_zero, List.set_cons_succ])
  refine wpAnyH_read 29 (v := ?va16) rfl (by kernel_rfl) (by kernel_rfl) (by kernel_rfl) (fun _ _ _ h => hQ _ _ _ _ _ h) s18 (Or.inl ⟨by rfl, ?ya16⟩) ?ra16
  case ya16 =>
    intro w hSw
    skip
    go_simp
    (try with_reducible rfl)
  (try simp only [Act.put, List.setIfInBounds_toArray, List.set_cons_zero, List.set_cons_succ])
  refine wpAnyH_read 31 (v := ?va17) rfl (by kernel_rfl) (by kernel_rfl) (by kernel_rfl) (fun _ _ _ h => hQ _ _ _ _ _ h) s18 (Or.inl ⟨by rfl, ?ya17⟩) ?ra17
  case ya17 =>
    intro w hSw
    skip
    go_simp
    (try with_reducible rfl)
  (try simp only [Act.put, List.setIfInBounds_toArray, List.set_cons_zero, List.set_cons_succ])
  refine wpAnyH_read 33 (v := ?va18) rfl (by kernel_rfl) (by kernel_rfl) (by kernel_rfl) (fun _ _ _ h => hQ _ _ _ _ _ h) s18 (Or.inl ⟨by rfl, ?ya18⟩) ?ra18
  case ya18 =>
    intro w hSw
    skip
    go_simp
    (try with_reducible rfl)
  (try simp only [Act.put, List.setIfInBounds_toArray, List.set_cons_zero, List.set_cons_succ])
  refine wpAnyH_read 35 (v := ?va19) rfl (by kernel_rfl) (by kernel_rfl) (by kernel_rfl) (fun _ _ _ h => hQ _ _ _ _ _ h) s18 (Or.inl ⟨by rfl, ?ya19⟩) ?ra19
  case ya19 =>
    intro w hSw
    skip
    go_simp
    (try with_reducible rfl)
  (try simp only [Act.put, List.setIfInBounds_toArray, List.set_cons_zero, List.set_cons_succ])
  refine wpAnyH_read 37 (v := ?va20) rfl (by kernel_rfl) (by kernel_rfl) (by kernel_rfl) (fun _ _ _ h => hQ _ _ _ _ _ h) s18 (Or.inl ⟨by rfl, ?ya20⟩) ?ra20
  case ya20 =>
    intro w hSw
    skip
    go_simp
    (try with_reducible rfl)
  (try simp only [Act.put, List.setIfInBounds_toArray, List.set_cons_zero, List.set_cons_succ])
  refine wpAnyH_read 39 (v := ?va21) rfl (by kernel_rfl) (by kernel_rfl) (by kernel_rfl) (fun _ _ _ h => hQ _ _ _ _ _ h) s18 (Or.inl ⟨by rfl, ?ya21⟩) ?ra21
  case ya21 =>
    intro w hSw
    skip
    go_simp
    (try with_reducible rfl)
  (try simp only [Act.put, List.setIfInBounds_toArray, List.set_cons_zero, List.set_cons_succ])
  refine wpAnyH_call 26 rfl (by kernel_rfl) (fun J hJ => ?_)
  rw [if_pos (by rfl)]
  go_simp
  refine (ac_any 0 0 _).mono ?_
  rintro e x26 ⟨rfl, p_⟩
  have s26 := s18.trans p_
  clear p_
  refine hJ.out _ _ s26 ?_
  clear hJ J
  (try simp only [Act.put, List.setIfInBounds_toArray, List.set_cons_zero, List.set_cons_succ])
  refine wpAnyH_call 28 rfl (by kernel_rfl) (fun J hJ => ?_)
  rw [if_pos (by rfl)]
  go_simp
  refine (ac_any 0 1 _).mono ?_
  rintro e x28 ⟨rfl, p_⟩
  have s28 := s26.trans p_
  clear p_
  refine hJ.out _ _ s28 ?_
  clear hJ J
  (try simp only [Act.put, List.setIfInBounds_toArray, List.set_cons_zero, List.set_cons_succ])
  refine wpAnyH_call 30 rfl (by kernel_rfl) (fun J hJ => ?_)
  rw [if_pos (by rfl)]
  go_simp
  refine (ac_any 0 2 _).mono ?_
  rintro e x30 ⟨rfl, p_⟩
  have s30 := s28.trans p_
  clear p_
  refine hJ.out _ _ s30 ?_
  clear hJ J
  (try simp only [Act.put, List.setIfInBounds_toArray, List.set_cons_zero, List.set_cons_succ])
  refine wpAnyH_call 32 rfl (by kernel_rfl) (fun J hJ => ?_)
  rw [if_pos (by rfl)]
  go_simp
  refine (ac_any 0 3 _).mono ?_
  rintro e x32 ⟨rfl, p_⟩
  have s32 := s30.trans p_
  clear p_
  refine hJ.out _ _ s32 ?_
  clear hJ J
  (try simp only [Act.put, List.setIfInBounds_toArray, List.set_cons_zero, List.set_cons_succ])
  refine wpAnyH_call 34 rfl (by kernel_rfl) (fun J hJ => ?_)
  rw [if_pos (by rfl)]
  go_simp
  refine (ac_any 1 0 _).mono ?_
  rintro e x34 ⟨rfl, p_⟩
  have s34 := s32.trans p_
  clear p_
  refine hJ.out _ _ s34 ?_
  clear hJ J
  (try simp only [Act.put, List.setIfInBounds_toArray, List.set_cons_zero, List.set_cons_succ])
  refine wpAnyH_call 36 rfl (by kernel_rfl) (fun J hJ => ?_)
  rw [if_pos (by rfl)]
  go_simp
  refine (ac_any 1 1 _).mono ?_
  rintro e x36 ⟨rfl, p_⟩
  have s36 := s34.trans p_
  clear p_
  refine hJ.out _ _ s36 ?_
  clear hJ J
  (try simp only [Act.put, List.setIfInBounds_toArray, List.set_cons_zero, List.set_cons_succ])
  refine wpAnyH_call 38 rfl (by kernel_rfl) (fun J hJ => ?_)
  rw [if_pos (by rfl)]
  go_simp
  refine (ac_any 1 2 _).mono ?_
  rintro e x38 ⟨rfl, p_⟩
  have s38 := s36.trans p_
  clear p_
  refine hJ.out _ _ s38 ?_
  clear hJ J
  (try simp only [Act.put, List.setIfInBounds_toArray, List.set_cons_zero, List.set_cons_succ])
  refine wpAnyH_call 40 rfl (by kernel_rfl) (fun J hJ => ?_)
  rw [if_pos (by rfl)]
  go_simp
  refine (ac_any 1 3 _).mono ?_
  rintro e x40 ⟨rfl, p_⟩
  have s40 := s38.trans p_
  clear p_
  refine hJ.out _ _ s40 ?_
  clear hJ J
  (try simp only [Act.put, List.setIfInBounds_toArray, List.set_cons_zero, List.set_cons_succ])
  refine wpAnyH_call 41 rfl (by kernel_rfl) (fun J hJ => ?_)
  refine step_bslice (by kernel_rfl) 49 10 #[(0, .tmp 40), (1, .tmp 41), (2, .tmp 43), (3, .tmp 45), (4, .tmp 47), (5, .tmp 49), (6, .tmp 51), (7, .tmp 53), (8, .tmp 55), (9, .tmp 57)] rfl #[(0, cdV (3, 0, 0)), (1, cdV (3, 1, 0)), (2, cdV (4, 0, 0)), (3, cdV (4, 0, 1)), (4, cdV (4, 0, 2)), (5, cdV (4, 0, 3)), (6, cdV (4, 1, 0)), (7, cdV (4, 1, 1)), (8, cdV (4, 1, 2)), (9, cdV (4, 1, 3))] (by kernel_rfl) _ _ (run_cd10 _ _ _ _ _ _ _ _ _ _ _) ?_
  have HG41 := holdsG_lit cdC_ok x40 40 ([(3, 0, 0), (3, 1, 0), (4, 0, 0), (4, 0, 1), (4, 0, 2), (4, 0, 3), (4, 1, 0), (4, 1, 1), (4, 1, 2), (4, 1, 3)] : List Cod) (by simp [maxLen])
  have s41 := s40.alloc (.cells (cellsG cdC ([(3, 0, 0), (3, 1, 0), (4, 0, 0), (4, 0, 1), (4, 0, 2), (4, 0, 3), (4, 1, 0), (4, 1, 1), (4, 1, 2), (4, 1, 3)] : List Cod)).toArray 40)
  refine hJ.out _ _ s41 ?_
  clear hJ J
  (try simp only [Act.put, List.setIfInBounds_toArray, List.set_cons_zero, List.set_cons_succ])
  refine wpAnyH_call 42 rfl (by kernel_rfl) (fun J hJ => ?_)
  rw [if_pos (by rfl)]
  go_simp
  refine (which_lit 3 0 32 _ [(3, 0, 0), (3, 1, 0), (4, 0, 0), (4, 0, 1), (4, 0, 2), (4, 0, 3), (4, 1, 0), (4, 1, 1), (4, 1, 2), (4, 1, 3)] _ (VV.out _ s41) HG41 (by decide +kernel)).mono ?_
  rintro e x42 ⟨rfl, p_⟩
  have s42 := s41.trans p_
  clear p_
  refine hJ.out _ _ s42 ?_
  clear hJ J
  (try simp only [Act.put, List.setIfInBounds_toArray, List.set_cons_zero, List.set_cons_succ])
  refine wpAnyH_read 43 (v := ?va22) rfl (by kernel_rfl) (by kernel_rfl) (by kernel_rfl) (fun _ _ _ h => hQ _ _ _ _ _ h) s42 (Or.inl ⟨by rfl, ?ya22⟩) ?ra22
  case ya22 =>
    intro w hSw
    skip
    go_simp
    (try with_reducible rfl)
  (try simp only [Act.put, List.setIfInBounds_toArray, List.set_cons_zero, List.set_cons_succ])
  refine wpAnyH_read 44 (v := ?va23) rfl (by kernel_rfl) (by kernel_rfl) (by kernel_rfl) (fun _ _ _ h => hQ _ _ _ _ _ h) s42 (Or.inl ⟨by rfl, ?ya23⟩) ?ra23
  case ya23 =>
    intro w hSw
    skip
    go_simp
    (try with_reducible rfl)
  (try simp only [Act.put, List.setIfInBounds_toArray, List.set_cons_zero, List.set_cons_succ])
  refine wpAnyH_done (by kernel_rfl) ?_ _
  have SF := hid (O2.out.trans s42)
  go_wp2_with fail
  exact HR.out _ _ _ _ _ _ _ _ _ _ _ _ _ _ _ _ _ _ _ _ _ _ _ _ _ _ _ _ _ _ _ _ _ _ _ _ _ _ _ _ _ _ _ _ _ _ _ _ _ _ _ _ _ SF.out
end Go.Proofs.YtpmmnjeomdjakaaDoor

end
section
set_option maxRecDepth 20000
namespace Go.Proofs.YtpmmnjeomdjakaaDoor
open Go.RowKit
set_option linter.unusedVariables false
set_option linter.unusedSimpArgs false

theorem Blk.new3 (w : World) (b c : Obj) (t : TypeId) (a : Array Value) (d : Obj) : Blk ((((w.alloc b).alloc c).alloc (.cells a t)).alloc d) (w.heap.size + 2) t a := by
  have := Blk.new ((w.alloc b).alloc c) t a
  rw [World.size_alloc, World.size_alloc] at this
  exact this.only ((Only.refl [] _).alloc _) (by simp)
theorem Blk.new4 (w : World) (b c d : Obj) (t : TypeId) (a : Array Value) : Blk ((((w.alloc b).alloc c).alloc d).alloc (.cells a t)) (w.heap.size + 3) t a := by
  have := Blk.new (((w.alloc b).alloc c).alloc d) t a
  rw [World.size_alloc, World.size_alloc, World.size_alloc] at this
  exact this
set_option maxRecDepth 1000000 in
set_option maxHeartbeats 8000000 in
theorem aw_b (rest : Code) (Q : Exit → Act → World → Prop)  (w : World) (hV : ∀ w', Only [] w w' → MbV w') (u0 u1 u2 u3 u4 u5 u6 u7 u8 u9 u10 u11 u12 u13 u14 u15 u16 u17 u18 u19 u20 u21 u22 u23 u24 u25 u26 u27 u28 u29 u30 u31 u32 u33 u34 u35 u36 u37 u38 u39 u40 u41 u42 u43 u44 u45 u46 u47 u48 u49 u50 u51 u52 u53 u54 u55 u56 u57 u58 u59 u60 u61 u62 u63 u64 u65 u66 u67 u68 u69 u70 u71 u72 u73 u74 u75 u76 u77 u78 u79 u80 u81 u82 u83 u84 u85 u86 u87 u88 u89 u90 u91 u92 u93 u94 u95 u96 u97 u98 u99 u100 u101 u102 u103 u104 u105 u106 u107 u108 u109 u110 u111 u112 u113 u114 u115 u116 u117 u118 u119 u120 u121 u122 u123 u124 u125 u126 u127 u128 u129 u130 u131 u132 u133 u134 u135 u136 u137 u138 u139 u140 u141 u142 u143 u144 u145 u146 : Value)
    (hr : ∀ (w' : World) (v5 v6 v7 v8 v9 v10 v62 v63 v64 v65 v66 v67 v68 v69 v70 v71 v72 v73 v74 v75 v76 v77 v78 v79 v80 v81 v82 v83 v84 v85 v86 v87 v88 v89 v90 v91 : Value), Only [] w w' → rest.wp Tryd.prog Q ⟨#[u0, u1, u2, u3, u4, v5, v6, v7, v8, v9, v10, u11, u12, u13, u14, u15, u16, u17, u18, u19, u20, u21, u22, u23, u24, u25, u26, u27, u28, u29, u30, u31, u32, u33, u34, u35, u36, u37, u38, u39, u40, u41, u42, u43, u44, u45, u46, u47, u48, u49, u50, u51, u52, u53, u54, u55, u56, u57, u58, u59, u60, u61, v62, v63, v64, v65, v66, v67, v68, v69, v70, v71, v72, v73, v74, v75, v76, v77, v78, v79, v80, v81, v82, v83, v84, v85, v86, v87, v88, v89, v90, v91, u92, u93, u94, u95, u96, u97, u98, u99, u100, u101, u102, u103, u104, u105, u106, u107, u108, u109, u110, u111, u112, u113, u114, u115, u116, u117, u118, u119, u120, u121, u122, u123, u124, u125, u126, u127, u128, u129, u130, u131, u132, u133, u134, u135, u136, u137, u138, u139, u140, u141, u142, u143, u144, u145, u146], []⟩ w') :
    (endWith 4 (dropSeq 5 aw13B) rest).wp Tryd.prog Q ⟨#[u0, u1, u2, u3, u4, u5, u6, u7, u8, u9, u10, u11, u12, u13, u14, u15, u16, u17, u18, u19, u20, u21, u22, u23, u24, u25, u26, u27, u28, u29, u30, u31, u32, u33, u34, u35, u36, u37, u38, u39, u40, u41, u42, u43, u44, u45, u46, u47, u48, u49, u50, u51, u52, u53, u54, u55, u56, u57, u58, u59, u60, u61, u62, u63, u64, u65, u66, u67, u68, u69, u70, u71, u72, u73, u74, u75, u76, u77, u78, u79, u80, u81, u82, u83, u84, u85, u86, u87, u88, u89, u90, u91, u92, u93, u94, u95, u96, u97, u98, u99, u100, u101, u102, u103, u104, u105, u106, u107, u108, u109, u110, u111, u112, u113, u114, u115, u116, u117, u118, u119, u120, u121, u122, u123, u124, u125, u126, u127, u128, u129, u130, u131, u132, u133, u134, u135, u136, u137, u138, u139, u140, u141, u142, u143, u144, u145, u146], []⟩ w := by
  conv => arg 2; whnf; arg 2; whnf; arg 2; whnf; arg 2; whnf; arg 2; whnf
  have HR := hid hr
  clear hr
  have V := hid hV
  clear hV
  go_wp2_with fail
  refine (size_lit 1 15 0 _ (V.out _ (Only.refl _ _)) (by decide)).mono ?_
  rintro e w1 ⟨rfl, o1⟩
  have O1 := hid o1
  clear o1
  go_wp2_with fail
  refine (size_lit 3 4 0 _ (V.out _ O1.out) (by decide)).mono ?_
  rintro e w2 ⟨rfl, o2⟩
  have O2 := hid (O1.out.trans o2)
  clear o2
  go_wp2_with fail
  refine (size_lit 5 0 3 _ (V.out _ O2.out) (by decide)).mono ?_
  rintro e w3 ⟨rfl, o3⟩
  have O3 := hid (O2.out.trans o3)
  clear o3
  go_wp2_with fail
  exact HR.out _ _ _ _ _ _ _ _ _ _ _ _ _ _ _ _ _ _ _ _ _ _ _ _ _ _ _ _ _ _ _ _ _ _ _ _ _ O3.out
set_option maxRecDepth 1000000 in
set_option maxHeartbeats 8000000 in
theorem aw_c (rest : Code) (Q : Exit → Act → World → Prop)  (w : World) (hV : ∀ w', Only [] w w' → MbV w') (u0 u1 u2 u3 u4 u5 u6 u7 u8 u9 u10 u11 u12 u13 u14 u15 u16 u17 u18 u19 u20 u21 u22 u23 u24 u25 u26 u27 u28 u29 u30 u31 u32 u33 u34 u35 u36 u37 u38 u39 u40 u41 u42 u43 u44 u45 u46 u47 u48 u49 u50 u51 u52 u53 u54 u55 u56 u57 u58 u59 u60 u61 u62 u63 u64 u65 u66 u67 u68 u69 u70 u71 u72 u73 u74 u75 u76 u77 u78 u79 u80 u81 u82 u83 u84 u85 u86 u87 u88 u89 u90 u91 u92 u93 u94 u95 u96 u97 u98 u99 u100 u101 u102 u103 u104 u105 u106 u107 u108 u109 u110 u111 u112 u113 u114 u115 u116 u117 u118 u119 u120 u121 u122 u123 u124 u125 u126 u127 u128 u129 u130 u131 u132 u133 u134 u135 u136 u137 u138 u139 u140 u141 u142 u143 u144 u145 u146 : Value)
    (hr : ∀ (W w' : World) (O X : Nat) (v11 v92 v93 v94 v95 v96 v97 v98 v99 v100 v101 v102 v103 v104 v105 v106 v107 v108 v109 v110 v111 v112 v113 v114 v115 v116 v117 v118 v119 v120 v121 v122 v123 v124 : Value), Only [] w W → (∀ w'', Only [] W w'' → MAt w'' (oneM 0) (.slice (some ⟨O, 0, none⟩) 1 1) (.slice (some ⟨O + 1, 0, none⟩) 1 1) N0) → Only [] W w' → Blk w' X 28 (mC (oneM 0) (.slice (some ⟨O, 0, none⟩) 1 1) (.slice (some ⟨O + 1, 0, none⟩) 1 1) N0).toArray → rest.wp Tryd.prog Q ⟨#[u0, u1, u2, u3, u4, u5, u6, u7, u8, u9, u10, v11, .pointer (some ⟨X, 0, none⟩), u13, u14, u15, u16, u17, u18, u19, u20, u21, u22, u23, u24, u25, u26, u27, u28, u29, u30, u31, u32, u33, u34, u35, u36, u37, u38, u39, u40, u41, u42, u43, u44, u45, u46, u47, u48, u49, u50, u51, u52, u53, u54, u55, u56, u57, u58, u59, u60, u61, u62, u63, u64, u65, u66, u67, u68, u69, u70, u71, u72, u73, u74, u75, u76, u77, u78, u79, u80, u81, u82, u83, u84, u85, u86, u87, u88, u89, u90, u91, v92, v93, v94, v95, v96, v97, v98, v99, v100, v101, v102, v103, v104, v105, v106, v107, v108, v109, v110, v111, v112, v113, v114, v115, v116, v117, v118, v119, v120, v121, v122, v123, v124, u125, u126, u127, u128, u129, u130, u131, u132, u133, u134, u135, u136, u137, u138, u139, u140, u141, u142, u143, u144, u145, u146], []⟩ w') :
    (endWith 2 (dropSeq 9 aw13B) rest).wp Tryd.prog Q ⟨#[u0, u1, u2, u3, u4, u5, u6, u7, u8, u9, u10, u11, u12, u13, u14, u15, u16, u17, u18, u19, u20, u21, u22, u23, u24, u25, u26, u27, u28, u29, u30, u31, u32, u33, u34, u35, u36, u37, u38, u39, u40, u41, u42, u43, u44, u45, u46, u47, u48, u49, u50, u51, u52, u53, u54, u55, u56, u57, u58, u59, u60, u61, u62, u63, u64, u65, u66, u67, u68, u69, u70, u71, u72, u73, u74, u75, u76, u77, u78, u79, u80, u81, u82, u83, u84, u85, u86, u87, u88, u89, u90, u91, u92, u93, u94, u95, u96, u97, u98, u99, u100, u101, u102, u103, u104, u105, u106, u107, u108, u109, u110, u111, u112, u113, u114, u115, u116, u117, u118, u119, u120, u121, u122, u123, u124, u125, u126, u127, u128, u129, u130, u131, u132, u133, u134, u135, u136, u137, u138, u139, u140, u141, u142, u143, u144, u145, u146], []⟩ w := by
  conv => arg 2; whnf; arg 2; whnf; arg 2; whnf
  have HR := hid hr
  clear hr
  have V := hid hV
  clear hV
  have oa : Only [] w (((w.alloc (.cells #[.int .i64 1] 3)).alloc (.cells #[.int .i64 0, .int .i64 0] 36))) := ((Only.refl [] w).alloc _).alloc _
  obtain ⟨W, hW⟩ : ∃ W, W = ((w.alloc (.cells #[.int .i64 1] 3)).alloc (.cells #[.int .i64 0, .int .i64 0] 36)) := ⟨_, rfl⟩
  obtain ⟨O, hO⟩ : ∃ O, O = w.heap.size := ⟨_, rfl⟩
  have hR : HoldsI .i64 W (.slice (some ⟨O, 0, none⟩) 1 1) [1] := by
    have := (holdsI_lit .i64 3 w [1] (by simp [maxLen])).only0 ((Only.refl [] _).alloc (.cells #[.int .i64 0, .int .i64 0] 36))
    rw [hW, hO]
    exact this
  have hM : HoldsG vcC 2 W (.slice (some ⟨O + 1, 0, none⟩) 1 1) [(0, 0)] := by
    have := holdsG_lit vcC_ok (w.alloc (.cells #[.int .i64 1] 3)) 36 [((0, 0) : Int × Int)] (by simp [maxLen])
    rw [World.size_alloc] at this
    rw [hW, hO]
    exact this
  have WS : W.heap.size = O + 2 := by rw [hW, World.size_alloc, World.size_alloc, hO]
  rw [← hW] at oa
  have OA := hid oa
  have RM := hid (show ∀ w', Only [] W w' → MAt w' (oneM 0) (.slice (some ⟨O, 0, none⟩) 1 1) (.slice (some ⟨O + 1, 0, none⟩) 1 1) N0 from fun w' o => ⟨hR.only0 o, hM.only0 o, holdsB_none _⟩)
  have HW := hid hW
  have HO := hid hO
  clear oa hR hM hW hO
  go_upto_region 12 with (first
    | (refine wp_buildM (by kernel_rfl) 28 #[(0, .const (.int .u8 7))] rfl #[(0, .int .u8 7)] (by kernel_rfl) (mV (smallM (7, 0, 0)) N0 N0 N0) (bm_k _ _) ?_; simp only [Act.put, List.setIfInBounds_toArray, List.set_cons_zero, List.set_cons_succ])
    | (refine wp_buildM (by kernel_rfl) 28 #[(0, .const (.int .u8 3)), (5, .tmp 93), (6, .tmp 95)] rfl #[(0, .int .u8 3), (5, .slice (some ⟨w.heap.size, 0, none⟩) 1 1), (6, .slice (some ⟨w.heap.size + 1, 0, none⟩) 1 1)] (by kernel_rfl) (mV (oneM 0) (.slice (some ⟨w.heap.size, 0, none⟩) 1 1) (.slice (some ⟨w.heap.size + 1, 0, none⟩) 1 1) N0) (bm_one _ _ _ _ _ _ _) ?_; simp only [Act.put, List.setIfInBounds_toArray, List.set_cons_zero, List.set_cons_succ])
    | (refine store_blk rfl 28 (.tmp 11) (.tmp 92) rfl (w.heap.size + 2) 0 _ _ (mC (smallM (7, 0, 0)) N0 N0 N0) rfl rfl (info_mb' _ _ _ _) (Blk.new3 w _ _ _ _ _) (by simp [mC]) (one_mC _ rfl rfl rfl) ?_; intro w1 hB1 hO1)
    | (refine store_blk rfl 28 (.tmp 12) (.tmp 96) rfl (w.heap.size + 3) 0 _ _ (mC (oneM 0) (.slice (some ⟨w.heap.size, 0, none⟩) 1 1) (.slice (some ⟨w.heap.size + 1, 0, none⟩) 1 1) N0) rfl rfl (info_mb' _ _ _ _) ((Blk.new4 w _ _ _ _ _).only hO1 (by simp)) (by simp [mC]) (one_mC _ rfl rfl rfl) ?_; intro w2 hB2 hO2))
  rw [setsA_full (by simp [mC])] at hB1 hB2
  rw [← HW.out] at hO1
  have o12 : Only [] W w2 := (((Only.refl [] W).alloc _).alloc _).trans2 ((hO1.mono (fun g _ h => by simp at h ⊢; exact .inl h)).trans (hO2.mono (fun g _ h => by simp at h ⊢; exact .inr h)) : Only [w.heap.size + 2, w.heap.size + 3] _ _) (fun g hg => .inr (by have := HO.out; simp at hg; omega))
  rw [← HO.out] at hB1 hB2 hO2 ⊢
  have K1 := hid (fun w' (o : Only [] w2 w') => (hB1.only hO2 (by simp)).only o (by simp))
  have K2 := hid (fun w' (o : Only [] w2 w') => hB2.only o (by simp))
  have O2 := hid o12
  have VV := hid (fun w' (o : Only [] w2 w') => V.out w' (OA.out.trans (O2.out.trans o)))
  have ONE := hid (fun w' (o : Only [] w2 w') r => check13_any (oneM 0) (.slice (some ⟨O, 0, none⟩) 1 1) (.slice (some ⟨O + 1, 0, none⟩) 1 1) N0 false r w' (VV.out w' o) (one_in 0 (by decide)) (RM.out w' (O2.out.trans o)) (one_few 0))
  clear hB1 hB2 hO1 hO2 o12 WS
  go_wp2_with (refine load_atG (by kernel_rfl) 28 (.tmp 11) rfl ⟨O + 2, 0, none⟩ (mC (smallM (7, 0, 0)) N0 N0 N0) rfl (K1.out _ (Only.refl [] w2)).mb ?_; simp only [Act.put, List.setIfInBounds_toArray, List.set_cons_zero, List.set_cons_succ])
  refine (check_lit 7 0 0 false 1 0 _ (VV.out _ (Only.refl _ _)) (by decide +kernel)).mono ?_
  rintro e x1 ⟨rfl, o_⟩
  have S1 := hid (o_)
  clear o_
  go_wp2_with (refine load_atG (by kernel_rfl) 28 (.tmp 11) rfl ⟨O + 2, 0, none⟩ (mC (smallM (7, 0, 0)) N0 N0 N0) rfl (K1.out _ (S1.out)).mb ?_; simp only [Act.put, List.setIfInBounds_toArray, List.set_cons_zero, List.set_cons_succ])
  refine (check_lit 7 0 0 true 0 9 _ (VV.out _ S1.out) (by decide +kernel)).mono ?_
  rintro e x2 ⟨rfl, o_⟩
  have S2 := hid (S1.out.trans o_)
  clear o_
  go_wp2_with (first
    | (refine wp_buildM (by kernel_rfl) 28 #[] rfl #[] (by kernel_rfl) (mV (smallM (0, 0, 0)) N0 N0 N0) (bm_0 _) ?_; simp only [Act.put, List.setIfInBounds_toArray, List.set_cons_zero, List.set_cons_succ])
    | (refine load_atG (by kernel_rfl) 28 (.tmp 12) rfl ⟨O + 3, 0, none⟩ (mC (oneM 0) (.slice (some ⟨O, 0, none⟩) 1 1) (.slice (some ⟨O + 1, 0, none⟩) 1 1) N0) rfl (K2.out _ (S2.out)).mb ?_; simp only [Act.put, List.setIfInBounds_toArray, List.set_cons_zero, List.set_cons_succ]))
  refine (check_lit 0 0 0 true 0 0 _ (VV.out _ S2.out) (by decide +kernel)).mono ?_
  rintro e x3 ⟨rfl, o_⟩
  have S3 := hid (S2.out.trans o_)
  clear o_
  go_wp2_with (first
    | (refine wp_buildM (by kernel_rfl) 28 #[] rfl #[] (by kernel_rfl) (mV (smallM (0, 0, 0)) N0 N0 N0) (bm_0 _) ?_; simp only [Act.put, List.setIfInBounds_toArray, List.set_cons_zero, List.set_cons_succ])
    | (refine load_atG (by kernel_rfl) 28 (.tmp 12) rfl ⟨O + 3, 0, none⟩ (mC (oneM 0) (.slice (some ⟨O, 0, none⟩) 1 1) (.slice (some ⟨O + 1, 0, none⟩) 1 1) N0) rfl (K2.out _ (S3.out)).mb ?_; simp only [Act.put, List.setIfInBounds_toArray, List.set_cons_zero, List.set_cons_succ]))
  refine (check_lit 0 0 0 true 1 2 _ (VV.out _ S3.out) (by decide +kernel)).mono ?_
  rintro e x4 ⟨rfl, o_⟩
  have S4 := hid (S3.out.trans o_)
  clear o_
  go_wp2_with (refine load_atG (by kernel_rfl) 28 (.tmp 12) rfl ⟨O + 3, 0, none⟩ (mC (oneM 0) (.slice (some ⟨O, 0, none⟩) 1 1) (.slice (some ⟨O + 1, 0, none⟩) 1 1) N0) rfl (K2.out _ (S4.out)).mb ?_; simp only [Act.put, List.setIfInBounds_toArray, List.set_cons_zero, List.set_cons_succ])
  have c1 := ONE.out _ S4.out 1
  rw [show checkI (oneM 0) false 1 = 3 from by decide +kernel] at c1
  have C1 := hid c1
  clear c1
  refine (C1.out).mono ?_
  rintro e x5 ⟨rfl, o_⟩
  have S5 := hid (S4.out.trans o_)
  clear o_
  go_wp2_with (refine load_atG (by kernel_rfl) 28 (.tmp 12) rfl ⟨O + 3, 0, none⟩ (mC (oneM 0) (.slice (some ⟨O, 0, none⟩) 1 1) (.slice (some ⟨O + 1, 0, none⟩) 1 1) N0) rfl (K2.out _ (S5.out)).mb ?_; simp only [Act.put, List.setIfInBounds_toArray, List.set_cons_zero, List.set_cons_succ])
  have c2 := ONE.out _ S5.out 2
  rw [show checkI (oneM 0) false 2 = 0 from by decide +kernel] at c2
  have C2 := hid c2
  clear c2
  refine (C2.out).mono ?_
  rintro e x6 ⟨rfl, o_⟩
  have S6 := hid (S5.out.trans o_)
  clear o_
  go_wp2_with fail
  exact HR.out W _ O (O + 3) _ _ _ _ _ _ _ _ _ _ _ _ _ _ _ _ _ _ _ _ _ _ _ _ _ _ _ _ _ _ _ _ _ _ OA.out RM.out (O2.out.trans S6.out) (K2.out _ S6.out)
end Go.Proofs.YtpmmnjeomdjakaaDoor

end

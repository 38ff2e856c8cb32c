/- MarksApart: the walk. -/
import Derived.Test.YtdkmeldcpamnnaaDoorMkF
import Derived.Test.YtdkmeldcpamnnaaDoorQuiet
namespace Go.Proofs.YtdkmeldcpamnnaaDoor
open Go.RowKit
set_option linter.unusedVariables false

set_option maxRecDepth 200000 in
set_option maxHeartbeats 4000000 in
theorem mapart_any (m : Bool) (a b : Value) (la lb : List (Int × Int × Int)) (same : Int) (W : World) (hV : Vars W) (ha : HoldsM W a la) (hk : OksM la) (hb : HoldsM W b lb) (hkb : OksM lb) (b0 : -9223372036854775808 ≤ same) (b1 : same ≤ 9223372036854775807) :
    Calls Tryd.prog 7 #[.bool m, a, b, .int .i64 same] W fun e w' => e = .returned (.bool true) ∧ Only [] W w' := by
  have HV := hid hV
  clear hV
  have HB := hid hb
  have VA := hid (valid9_any m a la W ha hk)
  have VB := hid (fun w h => valid9_any m b lb w h hkb)
  obtain ⟨a, c, rfl, _⟩ := ha
  obtain ⟨b, d, rfl, _⟩ := hb
  obtain ⟨x, hx⟩ : ∃ x, x = validL m la := ⟨_, rfl⟩
  obtain ⟨y, hy⟩ : ∃ y, y = validL m lb := ⟨_, rfl⟩
  have XC := hid (show checkI m x = 0 by rw [hx]; exact validL_check m la)
  have YC := hid (show checkI m y = 0 by rw [hy]; exact validL_check m lb)
  have xl : x.length ≤ 66 := (checkI_firstE XC.out).2
  have yl : y.length ≤ 66 := (checkI_firstE YC.out).2
  rw [← hx] at VA
  rw [← hy] at VB
  have x0 : (0 : Int) ≤ (x.length : Int) := by omega
  have x1 : (x.length : Int) ≤ 66 := by omega
  have q0 : -(x.length : Int) ≤ same.tmod ((x.length : Int) + 1) := by have := Int.lt_tmod_of_pos same (show (0 : Int) < (x.length : Int) + 1 by omega); omega
  have q1 : same.tmod ((x.length : Int) + 1) ≤ (x.length : Int) := by have := Int.tmod_lt_of_pos same (show (0 : Int) < (x.length : Int) + 1 by omega); omega
  have nz : ¬ (x.length : Int) + 1 = 0 := by omega
  obtain ⟨k, hK⟩ : ∃ k : Nat, (same.tmod ((x.length : Int) + 1) + (x.length : Int) + 1) % ((x.length : Int) + 1) = (k : Int) := ⟨((same.tmod ((x.length : Int) + 1) + (x.length : Int) + 1) % ((x.length : Int) + 1)).toNat, by have := Int.emod_nonneg (same.tmod ((x.length : Int) + 1) + (x.length : Int) + 1) (show (x.length : Int) + 1 ≠ 0 by omega); omega⟩
  have kx : k ≤ x.length := by
    have := Int.emod_lt_of_pos (same.tmod ((x.length : Int) + 1) + (x.length : Int) + 1) (show (0 : Int) < (x.length : Int) + 1 by omega)
    rw [hK] at this
    omega
  have kxi : (k : Int) ≤ (x.length : Int) := by omega
  have XL := hid xl
  have YL := hid yl
  have KX := hid kx
  have AW := hid (awake_any)
  generalize hq : same.tmod ((x.length : Int) + 1) = q at *
  clear hx hy xl yl hk hkb kx
  go_enter Tryd.func7, Tryd.ntmps7
  go_wp2_with fail
  refine VA.out.mono ?_
  rintro e w1 ⟨va, rfl, hrow, hO1, _⟩
  have V1 := hid hrow.holds
  have O1 := hid hO1
  clear hrow hO1 VA
  obtain ⟨aa, ac, ha, hac, _, _⟩ := id V1.out
  subst ha
  go_wp2_with fail
  refine (VB.out w1 (HB.out.only0 O1.out)).mono ?_
  rintro e w2 ⟨vb, rfl, hrow, hO2, _⟩
  have Y2 := hid hrow.holds
  have O2 := hid (O1.out.trans hO2)
  have X2 := hid (V1.out.only0 hO2)
  clear hrow hO2 VB V1 O1 HB
  obtain ⟨ba, bc, hb, _, _, _⟩ := id Y2.out
  subst hb
  go_upto_region 3 with fail
  rw [hK]
  have kc : (k : Int) ≤ (ac : Int) := by omega
  have XP := hid (holdsM_part1 X2.out k KX.out)
  clear hK hq q0 q1 nz
  go_wp2_with fail
  refine (cpm_any _ (x.take k) w2 XP.out (by rw [List.length_take]; have := XL.out; omega)).mono ?_
  rintro e w3 ⟨vc, rfl, hrow, hO3, hown⟩
  have R3 := hid hrow
  have OW := hid hown
  have O3 := hid (O2.out.trans hO3)
  have X3 := hid (X2.out.only0 hO3)
  have Y3 := hid (Y2.out.only0 hO3)
  have O23 := hid hO3
  clear hrow hO3 hown Y2 XP
  obtain ⟨sv, w4, hrun, hrow, honly, hown⟩ := append_rowsM w3 vc _ (x.take k) y R3.out Y3.out (by rw [List.length_take]; have := XL.out; have := YL.out; omega)
  have C4 := hid hrow.holds
  have K4 := hid honly
  obtain ⟨sa, sc, hsv, hsc, _, _⟩ := id C4.out
  have hl : (x.take k ++ y).length = k + y.length := by rw [List.length_append, List.length_take]; have := KX.out; omega
  rw [hl] at hsv hsc
  subst hsv
  have X4 := hid (X2.out.aside ((O23.out.mono (T := ownOf vc) (by simp)).trans K4.out) (fun z hz => OW.out z hz))
  have O4 := hid (O3.out.trans2 K4.out (fun z hz => .inr (Nat.le_trans O2.out.size (OW.out z hz))))
  obtain ⟨N, hN⟩ : ∃ N, N = min (k + y.length) 66 := ⟨_, rfl⟩
  have hNI : min ((k : Int) + (y.length : Int)) 66 = (N : Int) := by omega
  have nsc : (N : Int) ≤ (sc : Int) := by omega
  have C5 := holdsM_part1 (k := N) (show HoldsM w4 (.slice sa (x.take k ++ y).length sc) _ by rw [hl]; exact C4.out) (by rw [hl]; omega)
  clear hrow honly hown
  go_wp2_with (at_builtin; refine Lib.wpList_append_run _ rfl _ _ _ _ rfl _ _ rfl rfl _ _ hrun ?_)
  rw [← hN]
  obtain ⟨C, hC⟩ : ∃ C, C = (x.take k ++ y).take N := ⟨_, rfl⟩
  rw [← hC] at C5
  have H5 := hid C5
  have cl : C.length = N := by rw [hC, List.length_take, hl]; omega
  have cc : checkI m C = 0 := by
    refine checkI_of (firstE_of fun j z hz => ?_) (by omega)
    have hm := List.mem_of_getElem? hz
    rw [hC] at hm
    rcases List.mem_append.1 (List.mem_of_mem_take hm) with h | h
    · exact errI_mem XC.out z (List.mem_of_mem_take h)
    · exact errI_mem YC.out z h
  have ck : checkI m (x.take k) = 0 := checkI_sub (fun z hz => List.mem_of_mem_take hz) (errI_mem XC.out) (by rw [List.length_take]; have := XL.out; omega)
  have ckt : C.take k = x.take k := by
    rw [hC, List.take_take, show min k N = k by have := KX.out; have := XL.out; omega, List.take_append_of_le_length (by rw [List.length_take]; have := KX.out; omega), List.take_take, Nat.min_self]
  have bi : ∀ l, checkI m l = 0 → bitsI m l = listB m l := fun l h => by unfold bitsI; rw [if_pos h]
  have D1 := hid (fun w (hV : Vars w) h => bitsof_any m (.slice aa x.length ac) x w hV h (oks_err (checkI_firstE XC.out).1))
  have D2 := hid (fun w (hV : Vars w) h => bitsof_any m (.slice sa N sc) C w hV h (oks_err (checkI_firstE cc).1))
  have D3 := hid (fun w (hV : Vars w) h => bitsof_any m (.slice aa k ac) (x.take k) w hV h (oks_err (checkI_firstE ck).1))
  have D4 := hid (fun w (hV : Vars w) => bitsof_any m (.slice none 0 0) [] w hV (holdsM_none w) (fun j x hx => by simp at hx))
  rw [bi _ XC.out] at D1
  rw [bi _ cc] at D2
  rw [bi _ ck] at D3
  rw [bi _ (checkI_of rfl (by simp))] at D4
  obtain ⟨tk1, tk2⟩ := modsB_take (m := m) x k
  obtain ⟨tk3, tk4⟩ := modsB_take (m := m) C k
  rw [ckt] at tk3 tk4
  have sA := size_chars (listB m x)
  have sC := size_chars (listB m C)
  have sF := size_chars (modsB m (x.take k))
  have s1 := size_chars (listB m (x.take k))
  have s0 := size_chars (listB m ([] : List (Int × Int × Int)))
  have e1 : listB m (x.take k) = modsB m (x.take k) ++ listB m [] := by simp [listB, modsB]
  have l1 : (listB m (x.take k)).length = (modsB m (x.take k)).length + (listB m ([] : List (Int × Int × Int))).length := by rw [e1, List.length_append]
  have pA := listB_pos m x
  have pC := listB_pos m C
  have bA := listB_le XC.out
  have bC := listB_le cc
  have b1' := listB_le ck
  have X1 := chars_extract (listB m (x.take k)) (modsB m (x.take k)).length
  have e2 : (listB m (x.take k)).take (modsB m (x.take k)).length = modsB m (x.take k) := by rw [e1]; simp
  rw [e2] at X1
  have X2' := chars_extract (listB m x) (modsB m (x.take k)).length
  rw [tk1] at X2'
  have X3' := chars_extract (listB m C) (modsB m (x.take k)).length
  rw [tk3] at X3'
  obtain ⟨k2, hk2⟩ : ∃ k2, k2 = min (listB m x).length (listB m C).length := ⟨_, rfl⟩
  have X4' := chars_extract (listB m x) k2
  have X5' := chars_extract (listB m C) k2
  have AP := listB_apart XC.out cc k2 hk2
  have AP1 : x = C → chars ((listB m x).take k2) = chars ((listB m C).take k2) := fun h => by rw [AP.2 h]
  have AP2 : x ≠ C → chars ((listB m x).take k2) ≠ chars ((listB m C).take k2) := fun h e => h (AP.1 (chars_inj e))
  generalize chars ((listB m x).take k2) = u1 at *
  generalize chars ((listB m C).take k2) = u2 at *
  generalize chars (modsB m (x.take k)) = cF at *
  generalize chars (listB m (x.take k)) = c1 at *
  generalize chars (listB m x) = cs at *
  generalize chars (listB m C) = ct at *
  generalize chars (listB m ([] : List (Int × Int × Int))) = c0 at *
  rw [← sF] at X1 X2' X3' l1 tk2 tk4
  rw [← sA] at pA bA tk2 hk2
  rw [← sC] at pC bC tk4 hk2
  rw [← s1] at l1 b1'
  rw [← s0] at l1
  have HCL := hid (show C.length ≤ 66 by omega)
  have I1 : (c1.size : Int) = (cF.size : Int) + (c0.size : Int) := by omega
  have I2 : (0 : Int) < (cs.size : Int) := by omega
  have I3 : (0 : Int) < (ct.size : Int) := by omega
  have I4 : (cF.size : Int) ≤ (cs.size : Int) := by omega
  have I5 : (cF.size : Int) ≤ (ct.size : Int) := by omega
  have I6 : (cs.size : Int) ≤ 20000 := by omega
  have I7 : (ct.size : Int) ≤ 20000 := by omega
  have I8 : (c1.size : Int) ≤ 20000 := by omega
  have I9 : min (cs.size : Int) (ct.size : Int) = (k2 : Int) := by omega
  have I10 : (k2 : Int) ≤ (cs.size : Int) := by omega
  have I11 : (k2 : Int) ≤ (ct.size : Int) := by omega
  have N1 : ((cs.size : Int) == 0) = false := by rw [beq_eq_false_iff_ne]; omega
  have N2 : ((ct.size : Int) == 0) = false := by rw [beq_eq_false_iff_ne]; omega
  have N3 : ¬ cs = ByteArray.empty := fun e => by rw [e] at pA; simp at pA
  have N4 : ¬ ct = ByteArray.empty := fun e => by rw [e] at pC; simp at pC
  have N5 : ¬ (cF.size : Int) + (c0.size : Int) < (c0.size : Int) := by omega
  have N6 : ¬ cs.size < cF.size := by omega
  have N7 : ¬ ct.size < cF.size := by omega
  have N8 : ¬ cs.size = 0 := by omega
  have N9 : ¬ ct.size = 0 := by omega
  clear hC cl cc ck ckt bi tk1 tk2 tk3 tk4 sA sC sF s1 s0 e1 l1 pA pC bA bC b1' e2 hk2 AP C5 hl hNI hN
  refine (D1.out _ (HV.out.only0 O4.out) X4.out).mono ?_
  rintro e w5 ⟨rfl, hO5⟩
  have O5 := hid (O4.out.trans hO5)
  have X5 := hid (X4.out.only0 hO5)
  have H6 := hid (H5.out.only0 hO5)
  clear hO5 O4 X4 H5 D1
  go_wp2_with fail
  refine (D2.out _ (HV.out.only0 O5.out) H6.out).mono ?_
  rintro e w6 ⟨rfl, hO6⟩
  have O6 := hid (O5.out.trans hO6)
  have X6 := hid (X5.out.only0 hO6)
  have H7 := hid (H6.out.only0 hO6)
  clear hO6 O5 X5 H6 D2
  go_wp2_with fail
  refine (D3.out _ (HV.out.only0 O6.out) (holdsM_part1 X6.out k KX.out)).mono ?_
  rintro e w7 ⟨rfl, hO7⟩
  have O7 := hid (O6.out.trans hO7)
  have X7 := hid (X6.out.only0 hO7)
  have H8 := hid (H7.out.only0 hO7)
  clear hO7 O6 X6 H7 D3
  go_wp2_with fail
  refine (D4.out _ (HV.out.only0 O7.out)).mono ?_
  rintro e w8 ⟨rfl, hO8⟩
  have O8 := hid (O7.out.trans hO8)
  have X8 := hid (X7.out.only0 hO8)
  have H9 := hid (H8.out.only0 hO8)
  clear hO8 O7 X7 H8 D4
  go_upto_region 14 with fail
  by_cases hxc : x = C
  · have e := AP1 hxc
    subst e
    have dd : decide (x = C) = true := decide_eq_true hxc
    clear AP1 AP2 hxc
    refine wp_region_only (by kernel_rfl) (by kernel_rfl) ?_
    repeat (go_big_quiet_step (first
      | (go_at_call 20; exact Calls.only_of (eqm_any _ _ x C _ (X8.out.only0 (OnlyOf.only _)) (H9.out.only0 (OnlyOf.only _)) (by have := XL.out; omega) (by have := HCL.out; omega)))
      | (go_at_call 21; exact Calls.only_of (AW.out _ (HV.out.only0 (O8.out.trans (OnlyOf.only _)))))))
    refine wpQuiet_nil ?_
    rintro _ ⟨y8, rfl⟩
    go_wp2_with fail
    go_ret
    exact ⟨rfl, O8.out.trans y8.only⟩
  · have ne := AP2 hxc
    have ne2 : ¬ u1.toList = u2.toList := fun e => ne (by rw [Lib.toList_data, Lib.toList_data] at e; exact ByteArray.ext (Array.toList_inj.1 e))
    have dd : decide (x = C) = false := decide_eq_false hxc
    have be : (u1.toList == u2.toList) = false := beq_eq_false_iff_ne.2 ne2
    clear AP1 AP2 hxc ne ne2
    refine wp_region_only (by kernel_rfl) (by kernel_rfl) ?_
    repeat (go_big_quiet_step (first
      | (go_at_call 20; exact Calls.only_of (eqm_any _ _ x C _ (X8.out.only0 (OnlyOf.only _)) (H9.out.only0 (OnlyOf.only _)) (by have := XL.out; omega) (by have := HCL.out; omega)))
      | (go_at_call 21; exact Calls.only_of (AW.out _ (HV.out.only0 (O8.out.trans (OnlyOf.only _)))))))
    refine wpQuiet_nil ?_
    rintro _ ⟨y8, rfl⟩
    go_wp2_with fail
    go_ret
    exact ⟨rfl, O8.out.trans y8.only⟩
end Go.Proofs.YtdkmeldcpamnnaaDoor

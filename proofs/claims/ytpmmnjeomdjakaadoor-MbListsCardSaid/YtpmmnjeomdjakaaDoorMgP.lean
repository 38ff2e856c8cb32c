/- MbLists: a block more. -/
import Derived.Test.YtpmmnjeomdjakaaDoorMgM
import Derived.Test.YtpmmnjeomdjakaaDoorMgO
import Derived.Test.YtpmmnjeomdjakaaDoorMmb21
import Derived.Test.YtpmmnjeomdjakaaDoorMmb20
namespace Go.Proofs.YtpmmnjeomdjakaaDoor
open Go.RowKit
set_option linter.unusedVariables false
set_option linter.unusedSimpArgs false

set_option maxRecDepth 1000000 in
set_option maxHeartbeats 8000000 in
theorem li_more (rest : Code) (Q : Exit → Act → World → Prop)  (K c : Int) (P : MV) (pm : Nat) (rv vv bv lv : Value) (L : List Cod) (w0 w : World) (hV : MbV w) (k0 : 0 ≤ K) (k7 : K ≤ 7) (c0 : 0 ≤ c) (c1 : c ≤ 255) (hP : P = plainM K c) (lp : LiP P L) (h : LiS w0 w pm P rv vv bv lv L) (u0 u1 u2 u3 u4 u5 u6 u8 u9 u10 u11 u12 u13 u14 u15 u16 u17 u18 u19 u20 u21 u22 u23 u24 u25 u26 u27 u28 u29 u30 u31 u32 u33 u34 u35 u36 u37 u38 u39 u40 u41 u42 u43 u44 u45 u46 u47 u48 u49 u50 u51 u52 u53 u54 u55 u56 u57 u58 u59 u60 u61 u62 u63 u64 u65 u66 u67 u68 u69 u70 u71 u72 u73 u74 u75 u76 u77 u78 u79 u80 u81 u82 u83 u84 u85 u86 u87 u88 u89 u90 u91 u92 u93 u94 u95 u96 u97 u98 u99 u100 u101 u102 u103 u104 u105 u106 u107 u108 u109 u110 u111 u112 u113 u114 u115 u116 u117 u118 u119 u120 u121 u122 u123 u124 u125 u126 u127 u128 u129 u130 u131 u132 u133 u134 u135 u136 u137 u138 u139 u140 u141 u142 u143 u144 u145 u146 u147 u148 u149 u150 u151 u152 u153 u154 u155 u156 u157 u158 u159 u160 u161 u162 u163 u164 u165 u166 u167 u168 u169 u170 u171 u172 u173 u174 u175 u176 u177 u178 u179 u180 u181 u182 u183 u184 u185 u186 u187 : Value)
    (hr : ∀ (w' : World) (v6 v15 v119 v120 v121 v122 v123 v124 v125 v126 v127 v128 v129 v130 v131 v132 : Value), Only [] w w' → rest.wp Tryd.prog Q ⟨#[u0, u1, u2, u3, u4, u5, v6, .pointer (some ⟨pm, 0, none⟩), u8, u9, u10, u11, u12, u13, u14, v15, u16, u17, u18, u19, u20, u21, u22, u23, u24, u25, u26, u27, u28, u29, u30, u31, u32, u33, u34, u35, u36, u37, u38, u39, u40, u41, u42, u43, u44, u45, u46, u47, u48, u49, u50, u51, u52, u53, u54, u55, u56, u57, u58, u59, u60, u61, u62, u63, u64, u65, u66, u67, u68, u69, u70, u71, u72, u73, u74, u75, u76, u77, u78, u79, u80, u81, u82, u83, u84, u85, u86, u87, u88, u89, u90, u91, u92, u93, u94, u95, u96, u97, u98, u99, u100, u101, u102, u103, u104, u105, u106, u107, u108, u109, u110, u111, u112, u113, u114, u115, u116, u117, u118, v119, v120, v121, v122, v123, v124, v125, v126, v127, v128, v129, v130, v131, v132, u133, u134, u135, u136, u137, u138, u139, u140, u141, u142, u143, u144, u145, u146, u147, u148, u149, u150, u151, u152, u153, u154, u155, u156, u157, u158, u159, u160, u161, u162, u163, u164, u165, u166, u167, u168, u169, u170, u171, u172, u173, u174, u175, u176, u177, u178, u179, u180, u181, u182, u183, u184, u185, u186, u187], []⟩ w') :
    (endWith 4 (dropSeq 5 liB) rest).wp Tryd.prog Q ⟨#[u0, u1, u2, u3, u4, u5, u6, .pointer (some ⟨pm, 0, none⟩), u8, u9, u10, u11, u12, u13, u14, u15, u16, u17, u18, u19, u20, u21, u22, u23, u24, u25, u26, u27, u28, u29, u30, u31, u32, u33, u34, u35, u36, u37, u38, u39, u40, u41, u42, u43, u44, u45, u46, u47, u48, u49, u50, u51, u52, u53, u54, u55, u56, u57, u58, u59, u60, u61, u62, u63, u64, u65, u66, u67, u68, u69, u70, u71, u72, u73, u74, u75, u76, u77, u78, u79, u80, u81, u82, u83, u84, u85, u86, u87, u88, u89, u90, u91, u92, u93, u94, u95, u96, u97, u98, u99, u100, u101, u102, u103, u104, u105, u106, u107, u108, u109, u110, u111, u112, u113, u114, u115, u116, u117, u118, u119, u120, u121, u122, u123, u124, u125, u126, u127, u128, u129, u130, u131, u132, u133, u134, u135, u136, u137, u138, u139, u140, u141, u142, u143, u144, u145, u146, u147, u148, u149, u150, u151, u152, u153, u154, u155, u156, u157, u158, u159, u160, u161, u162, u163, u164, u165, u166, u167, u168, u169, u170, u171, u172, u173, u174, u175, u176, u177, u178, u179, u180, u181, u182, u183, u184, u185, u186, u187], []⟩ w := by
  conv => arg 2; whnf; arg 2; whnf; arg 2; whnf; arg 2; whnf; arg 2; whnf
  have HR := hid hr
  clear hr
  have IN := hid (show MIn P from by rw [hP]; exact pl_in K c k0 k7 c0 c1)
  have FW := hid (show MFew P from by rw [hP]; exact pl_few K c)
  have V := hid (fun w' (o : Only [] w w') => hV.only0 o)
  have LM := hid (fun w' (o : Only [] w w') => h.step o)
  have CH := hid (fun w' (o : Only [] w w') => check13_any P rv vv bv false 1 w' (V.out w' o) IN.out (h.m.only0 o) FW.out)
  rw [show checkI P false 1 = 0 from by rw [hP]; exact pl_check K c 1 k0 k7 c0 c1 (by omega) (by omega)] at CH
  have CM := hid (fun w' (o : Only [] w w') => copymb_any P rv vv bv w' (h.m.only0 o) (by have := FW.out.r; omega) (by have := FW.out.v; omega) (by have := lp.n; have := lp.bl; omega) (fun l hl => by have := FW.out.i l hl; omega))
  have BN := hid (show P.blocks.length ≤ 27 ∧ ∀ l, l ∈ P.blocks → l.length ≤ 16 from ⟨by have := lp.n; have := lp.bl; omega, fun l hl => by
    obtain ⟨i, hi⟩ := List.getElem?_of_mem hl
    exact (lp.blk hi).1⟩)
  have MO := li_more13 k0 k7 c0 c1 [0]
  rw [← hP] at MO
  have MORE := hid MO
  unfold mV at CH CM
  clear h hV hP lp MO
  go_wp2_with (refine load_atG (by kernel_rfl) 28 (.tmp 7) rfl ⟨pm, 0, none⟩ (mC P rv vv bv) rfl ((LM.out _ (Only.refl _ _)).bm).mb ?_; simp only [Act.put, List.setIfInBounds_toArray, List.set_cons_zero, List.set_cons_succ])
  refine (CH.out _ (Only.refl _ _)).mono ?_
  rintro e w2 ⟨rfl, o2⟩
  have O2 := hid o2
  clear o2
  go_wp2_with (refine load_atG (by kernel_rfl) 28 (.tmp 7) rfl ⟨pm, 0, none⟩ (mC P rv vv bv) rfl ((LM.out _ O2.out).bm).mb ?_; simp only [Act.put, List.setIfInBounds_toArray, List.set_cons_zero, List.set_cons_succ])
  refine (CM.out _ O2.out).mono ?_
  rintro e w3 ⟨ra, va, ba, rfl, ho⟩
  have one := ho.at.one
  have OB := hid ho.b
  have OR := hid ho.rat
  have O3 := hid (O2.out.trans ho.only)
  go_upto_region 20 with (refine store_blk rfl 28 (.tmp 15) (.tmp 123) rfl w3.heap.size 0 _ _ (mC P ra va ba) rfl rfl (info_mb' _ _ _ _) (Blk.new w3 _ _) (by simp [mC]) (one_mC P one.1 one.2.1 one.2.2) ?_; intro w4 hB4 hO4)
  rw [setsA_full (by simp [mC])] at hB4
  have o34 : Only [] w3 w4 := ((Only.refl [] w3).alloc _).trans2 hO4 (fun g hg => .inr (by simp at hg; omega))
  obtain ⟨pa, hpa⟩ : ∃ p, p = w3.heap.size := ⟨_, rfl⟩
  rw [← hpa] at hB4 ⊢
  have NB := hid (show ∀ g, g ∈ ownG ba → g < pa from fun g hg => by
    obtain ⟨vs, cc, _⟩ := OB.out
    rw [hpa]
    exact cc.row.lt g hg)
  have PG := hid (show w.heap.size ≤ pa from by rw [hpa]; exact O3.out.size)
  have BM := hid hB4
  have OB4 := hid (OB.out.step o34)
  have OR4 := hid (OR.out.step o34)
  have O4 := hid (O3.out.trans o34)
  have r1 := run_in1 0 w4
  have row1 := rowI_of (rowG_lit erC_ok w4 3 [0] (by unfold maxLen; simp))
  have o45 : Only [] w4 (w4.alloc (.cells (cellsG erC [0]).toArray 3)) := (Only.refl [] w4).alloc _
  obtain ⟨w5, hw5⟩ : ∃ W, W = w4.alloc (.cells (cellsG erC [0]).toArray 3) := ⟨_, rfl⟩
  rw [← hw5] at r1 row1 o45
  obtain ⟨sv2, w7, hrun, hb7, k7'⟩ := ownB_snoc OB4.out o45 (na := some ⟨w4.heap.size, 0, none⟩) (x := [0]) (nc := 1) row1 (fun g hg => by simp [ownI, Value.ownBlock] at hg; omega) (by have := BN.out.1; omega)
  have r2 : (Instr.buildSlice 26 1 #[(0, .slice (some ⟨w4.heap.size, 0, none⟩) 1 1)]).run Tryd.prog w5 = .ok (.slice (some ⟨w5.heap.size, 0, none⟩) 1 1) (w5.alloc (.cells (slC (some ⟨w4.heap.size, 0, none⟩, 1, 1)).toArray 24)) := by kernel_rfl
  have R1 := hid r1
  have R2 := hid r2
  have rat7 := (OR4.out.step o45).blks k7' hb7
  have b7 := (BM.out.only o45 (by simp)).only k7' (fun h => by have := NB.out _ h; omega)
  have O7 := hid (show Only [] w w7 from (O4.out.trans o45).trans2 k7' (fun g hg => .inr (by
    obtain ⟨vs, cc, _⟩ := OB.out
    exact Nat.le_trans O2.out.size (cc.new g hg))))
  obtain ⟨us7, ⟨sa, sc, e7, _⟩, l7, _⟩ := id rat7.at.b
  rw [show us7.length = P.blocks.length + 1 from by rw [l7]; exact List.length_append] at e7
  subst e7
  have RUN := hid hrun
  have c27 := b7.cell (i := 27) (v := ba) rfl
  have f27 := b7.frozen 27
  have one7 := rat7.at.one
  have B7 := hid b7
  have RAT7 := hid rat7
  have d27 := BM.out.cell (i := 27) (v := ba) rfl
  clear r1 r2 row1 o45 hrun hb7 k7' ho one hB4 hO4 o34 hpa hw5 OB OR OB4 OR4 rat7 b7
  go_upto_region 21 with (first
    | (refine wp_buildSlice rfl 24 1 #[(0, .const (.int .i64 0))] rfl #[(0, .int .i64 0)] (by kernel_rfl) _ R1.out ?_; simp only [Act.put, List.setIfInBounds_toArray, List.set_cons_zero, List.set_cons_succ])
    | (refine wp_buildSlice rfl 26 1 #[(0, .tmp 126)] rfl #[(0, .slice (some ⟨w4.heap.size, 0, none⟩) 1 1)] (by kernel_rfl) _ R2.out ?_; simp only [Act.put, List.setIfInBounds_toArray, List.set_cons_zero, List.set_cons_succ])
    | (at_builtin; refine wp_append_eq (by kernel_rfl) (.tmp 125) (.tmp 127) _ _ rfl _ _ _ w7 rfl rfl RUN.out ?_; simp only [Act.put, List.setIfInBounds_toArray, List.set_cons_zero, List.set_cons_succ]))
  have k8 : Only [pa] w7 (w7.setCell ⟨pa, 27, none⟩ (.slice sa (P.blocks.length + 1) sc)) := (Only.refl _ _).setCell (.inl (by simp)) _
  have B8 := hid (show Blk (w7.setCell ⟨pa, 27, none⟩ (.slice sa (P.blocks.length + 1) sc)) pa 28 (mC { P with blocks := P.blocks ++ [[0]] } ra va (.slice sa (P.blocks.length + 1) sc)).toArray from B7.out.set 27 _)
  have RAT8 := hid (RAT7.out.turn B7.out k8)
  have O8 := hid (O7.out.trans2 k8 (fun g hg => .inr (by have := PG.out; simp at hg; omega)))
  clear k8 c27 f27 d27 one7 B7 RAT7
  generalize w7.setCell _ _ = w8 at *
  have FM := hid (show MFew { P with blocks := P.blocks ++ [[0]] } from ⟨FW.out.r, FW.out.v, by show (P.blocks ++ [[0]]).length ≤ 1000; rw [List.length_append]; have := BN.out.1; simp; omega, fun l hl => by
    have hl' : l ∈ P.blocks ++ [[0]] := hl
    rcases List.mem_append.1 hl' with h | h
    · have := BN.out.2 l h; omega
    · have h' : l = [0] := by simpa using h
      rw [h']; simp⟩)
  have C2 := hid (check13_any { P with blocks := P.blocks ++ [[0]] } ra va (.slice sa (P.blocks.length + 1) sc) false 1 w8 (V.out _ O8.out) MORE.out.1 RAT8.out.at FM.out)
  rw [MORE.out.2] at C2
  unfold mV at C2
  go_wp2_with (refine load_atG (by kernel_rfl) 28 (.tmp 15) rfl ⟨pa, 0, none⟩ (mC { P with blocks := P.blocks ++ [[0]] } ra va (.slice sa (P.blocks.length + 1) sc)) rfl (B8.out).mb ?_; simp only [Act.put, List.setIfInBounds_toArray, List.set_cons_zero, List.set_cons_succ])
  refine C2.out.mono ?_
  rintro e w9 ⟨rfl, o9⟩
  have O9 := hid (O8.out.trans o9)
  clear o9
  go_wp2_with fail
  exact HR.out _ _ _ _ _ _ _ _ _ _ _ _ _ _ _ _ _ O9.out
end Go.Proofs.YtpmmnjeomdjakaaDoor

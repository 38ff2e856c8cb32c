/- MbSpoils: its cases. -/
import Derived.Test.YtpmmnjeomdjakaaDoorMgG
namespace Go.Proofs.YtpmmnjeomdjakaaDoor
open Go.RowKit
set_option linter.unusedVariables false
set_option linter.unusedSimpArgs false

theorem u8_wrap_in (x : Int) : 0 ≤ IntKind.u8.wrap x ∧ IntKind.u8.wrap x ≤ 255 := by
  have e : IntKind.u8.wrap x = x % 256 := by
    unfold IntKind.wrap
    simp [IntKind.signed, IntKind.bits]
  rw [e]
  omega
set_option maxRecDepth 1000000 in
set_option maxHeartbeats 8000000 in
theorem sp_1 (rest : Code) (Q : Exit → Act → World → Prop) (hQ : ∀ c (a : Act) d v w, Q (.panic c) (a.put (some d) v) w → Q (.panic c) a w) (K c wh ix tn : Int) (X : MV) (w0 w : World) (px pm pn pw lo hi : Nat) (rv vv bv : Value) (us : List SlV) (k0 : 0 ≤ K) (k7 : K ≤ 7) (c0 : 0 ≤ c) (c1 : c ≤ 255) (n0 : -9223372036854775808 ≤ tn) (n1 : tn ≤ 9223372036854775807) (hX : X = plainM K c) (h : SpS w0 w px pm pn pw wh ix tn tn 0 X rv vv bv us lo hi) (hj : modI13 wh 6 = 1) (u0 u1 u2 u3 u4 u8 u13 u14 u15 u16 u17 u18 u19 u20 u21 u22 u23 u24 u25 u26 u27 u28 u29 u30 u31 u32 u33 u34 u35 u36 u37 u38 u39 u40 u41 u42 u43 u44 u45 u46 u47 u48 u49 u50 u51 u52 u53 u54 u55 u56 u57 u58 u59 u60 u61 u62 u63 u64 u65 u66 u67 u68 u69 u70 u71 u72 u73 u74 u75 u76 u77 u78 u79 u80 u81 u82 u83 u84 u85 u86 u87 u88 u89 u90 u91 u92 u93 u94 u95 u96 u97 u98 u99 u100 u101 u102 u103 u104 u105 u106 u107 u108 u109 u110 u111 u112 u113 u114 u115 u116 u117 u118 u119 u120 u121 u122 u123 u124 u125 u126 u127 u128 u129 u130 u131 u132 u133 u134 u135 u136 u137 u138 u139 u140 u141 u142 u143 u144 u145 u146 u147 u148 u149 u150 u151 u152 u153 u154 u155 u156 u157 u158 u159 u160 u161 u162 u163 : Value)
    (hr : ∀ (w' : World) (n' e' : Int) (y' : MV) (v13 v34 v35 v36 v37 v38 v39 v40 v41 v42 v43 v44 v45 v46 v47 v48 v49 v50 v51 v52 v53 v54 v55 v56 v57 v58 v59 v60 v61 v62 v63 v64 v65 v66 v67 v68 v69 v70 v71 v72 v73 v74 v75 v76 v77 v78 v79 v80 v81 v82 v83 v84 v85 v86 v87 v88 v89 v90 v91 v92 v93 v94 v95 v96 v97 v98 v99 v100 v101 v102 v103 v104 v105 v106 v107 v108 v109 v110 v111 v112 v113 v114 v115 v116 v117 v118 v119 v120 v121 v122 v123 v124 v125 v126 v127 v128 v129 v130 v131 v132 v133 v134 v135 v136 v137 v138 v139 v140 v141 v142 v143 v144 v145 v146 v147 v148 v149 v150 v151 v152 v153 v154 v155 v156 : Value), SpS w0 w' px pm pn pw wh ix tn n' e' y' rv vv bv us lo hi → e' = checkI y' false 3 → MIn y' → MFew y' → y'.kind = K → rest.wp Tryd.prog Q ⟨#[u0, u1, u2, u3, u4, .pointer (some ⟨px, 0, none⟩), .bool false, .pointer (some ⟨pm, 0, none⟩), u8, .pointer (some ⟨pw, 0, none⟩), .pointer (some ⟨pn, 0, none⟩), .func (.func 20) #[] #[.pointer (some ⟨pn, 0, none⟩), .pointer (some ⟨pw, 0, none⟩)], .func (.func 21) #[] #[.pointer (some ⟨pw, 0, none⟩)], v13, u14, u15, u16, u17, u18, u19, u20, u21, u22, u23, u24, u25, u26, u27, u28, u29, u30, u31, u32, u33, v34, v35, v36, v37, v38, v39, v40, v41, v42, v43, v44, v45, v46, v47, v48, v49, v50, v51, v52, v53, v54, v55, v56, v57, v58, v59, v60, v61, v62, v63, v64, v65, v66, v67, v68, v69, v70, v71, v72, v73, v74, v75, v76, v77, v78, v79, v80, v81, v82, v83, v84, v85, v86, v87, v88, v89, v90, v91, v92, v93, v94, v95, v96, v97, v98, v99, v100, v101, v102, v103, v104, v105, v106, v107, v108, v109, v110, v111, v112, v113, v114, v115, v116, v117, v118, v119, v120, v121, v122, v123, v124, v125, v126, v127, v128, v129, v130, v131, v132, v133, v134, v135, v136, v137, v138, v139, v140, v141, v142, v143, v144, v145, v146, v147, v148, v149, v150, v151, v152, v153, v154, v155, v156, u157, u158, u159, u160, u161, u162, u163], []⟩ w') :
    (endWith 1 (dropSeq 7 spB) rest).wp Tryd.prog Q ⟨#[u0, u1, u2, u3, u4, .pointer (some ⟨px, 0, none⟩), .bool false, .pointer (some ⟨pm, 0, none⟩), u8, .pointer (some ⟨pw, 0, none⟩), .pointer (some ⟨pn, 0, none⟩), .func (.func 20) #[] #[.pointer (some ⟨pn, 0, none⟩), .pointer (some ⟨pw, 0, none⟩)], .func (.func 21) #[] #[.pointer (some ⟨pw, 0, none⟩)], u13, u14, u15, u16, u17, u18, u19, u20, u21, u22, u23, u24, u25, u26, u27, u28, u29, u30, u31, u32, u33, u34, u35, u36, u37, u38, u39, u40, u41, u42, u43, u44, u45, u46, u47, u48, u49, u50, u51, u52, u53, u54, u55, u56, u57, u58, u59, u60, u61, u62, u63, u64, u65, u66, u67, u68, u69, u70, u71, u72, u73, u74, u75, u76, u77, u78, u79, u80, u81, u82, u83, u84, u85, u86, u87, u88, u89, u90, u91, u92, u93, u94, u95, u96, u97, u98, u99, u100, u101, u102, u103, u104, u105, u106, u107, u108, u109, u110, u111, u112, u113, u114, u115, u116, u117, u118, u119, u120, u121, u122, u123, u124, u125, u126, u127, u128, u129, u130, u131, u132, u133, u134, u135, u136, u137, u138, u139, u140, u141, u142, u143, u144, u145, u146, u147, u148, u149, u150, u151, u152, u153, u154, u155, u156, u157, u158, u159, u160, u161, u162, u163], []⟩ w := by
  conv => arg 2; whnf; arg 2; whnf
  have HR := hid hr
  clear hr
  have H := hid h
  have HX := hid hX
  have KX := hid (show X.kind = K from by rw [hX]; exact pl_kind K c)
  have CX := hid (show X.cbp = cbpP K c from by rw [hX]; exact pl_cbpv K c)
  have FX := hid (show MFew X from by rw [hX]; exact pl_few K c)
  have MD := hid (fun w => mod13_any wh 6 (by omega) w)
  rw [hj] at MD
  have cw := h.bx.cell (i := 0) (v := .int .i64 wh) rfl
  have CNP := hid (h.bn.cell (i := 0) (v := .int .i64 tn) rfl)
  have BMM := hid h.bm
  obtain ⟨nn, hnn⟩ : ∃ n, n = IntKind.u8.wrap tn := ⟨_, rfl⟩
  have NN := hid hnn
  have nbw := u8_wrap_in tn
  have nb : 0 ≤ nn ∧ nn ≤ 255 := by rw [hnn]; exact nbw
  obtain ⟨nw0, nw1⟩ := nbw
  have WANT := hid (want_mode k0 k7 c0 c1 nn nb.1 nb.2)
  have INQ := hid (in_mode k0 k7 c0 c1 nn nb.1 nb.2)
  rw [← hX] at WANT INQ
  have FQ := hid (show MFew { X with mode := nn } from ⟨FX.out.r, FX.out.v, FX.out.b, FX.out.i⟩)
  clear h hj hX hnn
  go_wp2_with fail
  refine (MD.out _).mono ?_
  rintro e w2 ⟨rfl, rfl⟩
  go_wp2_with fail
  refine wp_region_tail (fun w' => Only [pm] w2 w') 7 8 (by kernel_rfl) rfl ((Only.refl _ _).drew) (fun hS => ?_)
  generalize hwd : w2.drew = wd at *
  refine wpAnyT_take 0 (v := ?va0) rfl (by kernel_rfl) (fun _ _ _ h => hQ _ _ _ _ _ h) (Or.inl ⟨by rfl, ?ya0⟩) hS ?ra0
  case ya0 =>
    intro w hSw
    have q1 := hSw.cell CNP.out (by simp; have := H.out.mn; omega)
    go_simp
    (try with_reducible rfl)
  (try simp only [Act.put, List.setIfInBounds_toArray, List.set_cons_zero, List.set_cons_succ])
  refine wpAnyT_take 1 (v := ?va1) rfl (by kernel_rfl) (fun _ _ _ h => hQ _ _ _ _ _ h) (Or.inl ⟨by rfl, ?ya1⟩) hS ?ra1
  case ya1 =>
    intro w hSw
    have q1 := hSw.cell CNP.out (by simp; have := H.out.mn; omega)
    go_simp
    (try with_reducible rfl)
  (try simp only [Act.put, List.setIfInBounds_toArray, List.set_cons_zero, List.set_cons_succ])
  refine wpAnyT_take 2 (v := ?va2) rfl (by kernel_rfl) (fun _ _ _ h => hQ _ _ _ _ _ h) (Or.inl ⟨by rfl, ?ya2⟩) hS ?ra2
  case ya2 =>
    intro w hSw
    have q1 := hSw.cell CNP.out (by simp; have := H.out.mn; omega)
    go_simp
    (try with_reducible rfl)
  (try simp only [Act.put, List.setIfInBounds_toArray, List.set_cons_zero, List.set_cons_succ])
  refine wpAnyT_take 3 (v := ?va3) rfl (by kernel_rfl) (fun _ _ _ h => hQ _ _ _ _ _ h) (Or.inl ⟨by rfl, ?ya3⟩) hS ?ra3
  case ya3 =>
    intro w hSw
    have q1 := hSw.cell CNP.out (by simp; have := H.out.mn; omega)
    go_simp
    (try with_reducible rfl)
  (try simp only [Act.put, List.setIfInBounds_toArray, List.set_cons_zero, List.set_cons_succ])
  refine wpAnyT_take 4 (v := ?va4) rfl (by kernel_rfl) (fun _ _ _ h => hQ _ _ _ _ _ h) (Or.inl ⟨by rfl, ?ya4⟩) hS ?ra4
  case ya4 =>
    intro w hSw
    have q1 := hSw.cell CNP.out (by simp; have := H.out.mn; omega)
    go_simp
    (try with_reducible rfl)
  (try simp only [Act.put, List.setIfInBounds_toArray, List.set_cons_zero, List.set_cons_succ])
  refine wpAnyT_take 5 (v := ?va5) rfl (by kernel_rfl) (fun _ _ _ h => hQ _ _ _ _ _ h) (Or.inl ⟨by rfl, ?ya5⟩) hS ?ra5
  case ya5 =>
    intro w hSw
    have q1 := hSw.cell CNP.out (by simp; have := H.out.mn; omega)
    go_simp
    (try with_reducible rfl)
  (try simp only [Act.put, List.setIfInBounds_toArray, List.set_cons_zero, List.set_cons_succ])
  have HD := hid (show SpS w0 wd px pm pn pw wh ix tn tn 0 X rv vv bv us lo hi from by rw [← hwd]; exact H.out.step (Only.refl _ _).drew)
  have c1' := HD.out.bm.cell (i := 1) (v := .int .u8 X.mode) rfl
  have f1' := HD.out.bm.frozen 1
  have k1 : Only [pm] wd (wd.setCell ⟨pm, 1, none⟩ (.int .u8 (IntKind.u8.wrap tn))) := (Only.refl _ _).setCell (.inl (by simp)) _
  have S4 : Only [pm] w2 (wd.setCell ⟨pm, 1, none⟩ (.int .u8 (IntKind.u8.wrap tn))) := hS.trans k1
  have H4 := hid (HD.out.mb (z := { X with mode := IntKind.u8.wrap tn }) (HD.out.bm.set 1 (.int .u8 (IntKind.u8.wrap tn))) k1 rfl rfl rfl)
  clear hwd k1
  refine wpAnyT_call 6 rfl (by kernel_rfl) (fun J hJ => ?_)
  go_simp
  refine hJ.out _ _ S4 ?_
  clear hJ J S4 c1' f1' hS
  (try simp only [Act.put, List.setIfInBounds_toArray, List.set_cons_zero, List.set_cons_succ])
  refine wpAnyT_tail _ rfl (by kernel_rfl) ?_
  simp only [List.drop_succ_cons, List.drop_zero]
  obtain ⟨w4, hw4⟩ : ∃ w4, w4 = wd.setCell ⟨pm, 1, none⟩ (.int .u8 (IntKind.u8.wrap tn)) := ⟨_, rfl⟩
  rw [← hw4] at H4 ⊢
  clear hw4
  have c4 := H4.out.bn.cell (i := 0) (v := .int .i64 tn) rfl
  have f4 := H4.out.bn.frozen 0
  clear cw
  go_upto_region 20 with fail
  have h5 := hid (H4.out.num (n' := tn % 256) (H4.out.bn.set 0 (.int .i64 (tn % 256))) ((Only.refl _ _).setCell (.inl (by simp)) _))
  clear c4 f4
  obtain ⟨w5, hw5⟩ : ∃ w5, w5 = w4.setCell ⟨pn, 0, none⟩ (.int .i64 (tn % 256)) := ⟨_, rfl⟩
  rw [← hw5] at h5 ⊢
  clear hw5
  have NM : nn = tn % 256 := NN.out.trans (IntKind.wrap_u8 tn)
  rw [← NN.out, ← NM] at h5
  clear nw0 nw1 NM
  have c0' := h5.out.bm.cell (i := 0) (v := .int .u8 X.kind) rfl
  have cn := h5.out.bn.cell (i := 0) (v := .int .i64 nn) rfl
  have WK : (X.kind == 1) = (K == 1) := by rw [KX.out]
  obtain ⟨b1, hb1⟩ : ∃ b, b = (K == 1) := ⟨_, rfl⟩
  rw [← hb1] at WK WANT
  clear hb1 nb
  cases b1
  · have E0 := hid (show (if (nn == 0) = true then (0 : Int) else 2) = checkI { X with mode := nn } false 3 from by rw [WANT.out]; rfl)
    obtain ⟨bz, hbz⟩ : ∃ b : Bool, b = (nn == 0) := ⟨_, rfl⟩
    have BZ := hid hbz
    have qz : (nn == 0) = bz := hbz.symm
    clear hbz
    go_wp2_with fail
    refine (lacks_any bz 0 pw _ h5.out.bw).mono ?_
    rintro e w6 ⟨rfl, hb, hk⟩
    have h6 := hid (h5.out.want hb hk)
    clear hb hk cn qz
    go_wp2_with fail
    exact HR.out _ _ _ _ _ _ _ _ _ _ _ _ _ _ _ _ _ _ _ _ _ _ _ _ _ _ _ _ _ _ _ _ _ _ _ _ _ _ _ _ _ _ _ _ _ _ _ _ _ _ _ _ _ _ _ _ _ _ _ _ _ _ _ _ _ _ _ _ _ _ _ _ _ _ _ _ _ _ _ _ _ _ _ _ _ _ _ _ _ _ _ _ _ _ _ _ _ _ _ _ _ _ _ _ _ _ _ _ _ _ _ _ _ _ _ _ _ _ _ _ _ _ _ _ _ _ _ _ h6.out (by rw [BZ.out]; exact E0.out) INQ.out FQ.out KX.out
  · have E := hid (show (if inI nn 0 3 = true then (0 : Int) else 3) = checkI { X with mode := nn } false 3 from by rw [WANT.out]; rfl)
    go_wp2_with fail
    refine (inside_any (0) 3 nn 0 pn pw _ cn h5.out.bw).mono ?_
    rintro e w6 ⟨rfl, hb, hk⟩
    have h6 := hid (h5.out.want hb hk)
    clear hb hk cn
    go_wp2_with fail
    exact HR.out _ _ _ _ _ _ _ _ _ _ _ _ _ _ _ _ _ _ _ _ _ _ _ _ _ _ _ _ _ _ _ _ _ _ _ _ _ _ _ _ _ _ _ _ _ _ _ _ _ _ _ _ _ _ _ _ _ _ _ _ _ _ _ _ _ _ _ _ _ _ _ _ _ _ _ _ _ _ _ _ _ _ _ _ _ _ _ _ _ _ _ _ _ _ _ _ _ _ _ _ _ _ _ _ _ _ _ _ _ _ _ _ _ _ _ _ _ _ _ _ _ _ _ _ _ _ _ _ h6.out E.out INQ.out FQ.out KX.out
set_option maxRecDepth 1000000 in
set_option maxHeartbeats 8000000 in
theorem sp_2 (rest : Code) (Q : Exit → Act → World → Prop) (hQ : ∀ c (a : Act) d v w, Q (.panic c) (a.put (some d) v) w → Q (.panic c) a w) (K c wh ix tn : Int) (X : MV) (w0 w : World) (px pm pn pw lo hi : Nat) (rv vv bv : Value) (us : List SlV) (k0 : 0 ≤ K) (k7 : K ≤ 7) (c0 : 0 ≤ c) (c1 : c ≤ 255) (n0 : -9223372036854775808 ≤ tn) (n1 : tn ≤ 9223372036854775807) (hX : X = plainM K c) (h : SpS w0 w px pm pn pw wh ix tn tn 0 X rv vv bv us lo hi) (hj : modI13 wh 6 = 2) (u0 u1 u2 u3 u4 u8 u13 u14 u15 u16 u17 u18 u19 u20 u21 u22 u23 u24 u25 u26 u27 u28 u29 u30 u31 u32 u33 u34 u35 u36 u37 u38 u39 u40 u41 u42 u43 u44 u45 u46 u47 u48 u49 u50 u51 u52 u53 u54 u55 u56 u57 u58 u59 u60 u61 u62 u63 u64 u65 u66 u67 u68 u69 u70 u71 u72 u73 u74 u75 u76 u77 u78 u79 u80 u81 u82 u83 u84 u85 u86 u87 u88 u89 u90 u91 u92 u93 u94 u95 u96 u97 u98 u99 u100 u101 u102 u103 u104 u105 u106 u107 u108 u109 u110 u111 u112 u113 u114 u115 u116 u117 u118 u119 u120 u121 u122 u123 u124 u125 u126 u127 u128 u129 u130 u131 u132 u133 u134 u135 u136 u137 u138 u139 u140 u141 u142 u143 u144 u145 u146 u147 u148 u149 u150 u151 u152 u153 u154 u155 u156 u157 u158 u159 u160 u161 u162 u163 : Value)
    (hr : ∀ (w' : World) (n' e' : Int) (y' : MV) (rv' vv' : Value) (v13 v34 v35 v36 v37 v38 v39 v40 v41 v42 v43 v44 v45 v46 v47 v48 v49 v50 v51 v52 v53 v54 v55 v56 v57 v58 v59 v60 v61 v62 v63 v64 v65 v66 v67 v68 v69 v70 v71 v72 v73 v74 v75 v76 v77 v78 v79 v80 v81 v82 v83 v84 v85 v86 v87 v88 v89 v90 v91 v92 v93 v94 v95 v96 v97 v98 v99 v100 v101 v102 v103 v104 v105 v106 v107 v108 v109 v110 v111 v112 v113 v114 v115 v116 v117 v118 v119 v120 v121 v122 v123 v124 v125 v126 v127 v128 v129 v130 v131 v132 v133 v134 v135 v136 v137 v138 v139 v140 v141 v142 v143 v144 v145 v146 v147 v148 v149 v150 v151 v152 v153 v154 v155 v156 : Value), SpS w0 w' px pm pn pw wh ix tn n' e' y' rv' vv' bv us lo hi → e' = checkI y' false 3 → MIn y' → MFew y' → y'.kind = K → rest.wp Tryd.prog Q ⟨#[u0, u1, u2, u3, u4, .pointer (some ⟨px, 0, none⟩), .bool false, .pointer (some ⟨pm, 0, none⟩), u8, .pointer (some ⟨pw, 0, none⟩), .pointer (some ⟨pn, 0, none⟩), .func (.func 20) #[] #[.pointer (some ⟨pn, 0, none⟩), .pointer (some ⟨pw, 0, none⟩)], .func (.func 21) #[] #[.pointer (some ⟨pw, 0, none⟩)], v13, u14, u15, u16, u17, u18, u19, u20, u21, u22, u23, u24, u25, u26, u27, u28, u29, u30, u31, u32, u33, v34, v35, v36, v37, v38, v39, v40, v41, v42, v43, v44, v45, v46, v47, v48, v49, v50, v51, v52, v53, v54, v55, v56, v57, v58, v59, v60, v61, v62, v63, v64, v65, v66, v67, v68, v69, v70, v71, v72, v73, v74, v75, v76, v77, v78, v79, v80, v81, v82, v83, v84, v85, v86, v87, v88, v89, v90, v91, v92, v93, v94, v95, v96, v97, v98, v99, v100, v101, v102, v103, v104, v105, v106, v107, v108, v109, v110, v111, v112, v113, v114, v115, v116, v117, v118, v119, v120, v121, v122, v123, v124, v125, v126, v127, v128, v129, v130, v131, v132, v133, v134, v135, v136, v137, v138, v139, v140, v141, v142, v143, v144, v145, v146, v147, v148, v149, v150, v151, v152, v153, v154, v155, v156, u157, u158, u159, u160, u161, u162, u163], []⟩ w') :
    (endWith 1 (dropSeq 7 spB) rest).wp Tryd.prog Q ⟨#[u0, u1, u2, u3, u4, .pointer (some ⟨px, 0, none⟩), .bool false, .pointer (some ⟨pm, 0, none⟩), u8, .pointer (some ⟨pw, 0, none⟩), .pointer (some ⟨pn, 0, none⟩), .func (.func 20) #[] #[.pointer (some ⟨pn, 0, none⟩), .pointer (some ⟨pw, 0, none⟩)], .func (.func 21) #[] #[.pointer (some ⟨pw, 0, none⟩)], u13, u14, u15, u16, u17, u18, u19, u20, u21, u22, u23, u24, u25, u26, u27, u28, u29, u30, u31, u32, u33, u34, u35, u36, u37, u38, u39, u40, u41, u42, u43, u44, u45, u46, u47, u48, u49, u50, u51, u52, u53, u54, u55, u56, u57, u58, u59, u60, u61, u62, u63, u64, u65, u66, u67, u68, u69, u70, u71, u72, u73, u74, u75, u76, u77, u78, u79, u80, u81, u82, u83, u84, u85, u86, u87, u88, u89, u90, u91, u92, u93, u94, u95, u96, u97, u98, u99, u100, u101, u102, u103, u104, u105, u106, u107, u108, u109, u110, u111, u112, u113, u114, u115, u116, u117, u118, u119, u120, u121, u122, u123, u124, u125, u126, u127, u128, u129, u130, u131, u132, u133, u134, u135, u136, u137, u138, u139, u140, u141, u142, u143, u144, u145, u146, u147, u148, u149, u150, u151, u152, u153, u154, u155, u156, u157, u158, u159, u160, u161, u162, u163], []⟩ w := by
  conv => arg 2; whnf; arg 2; whnf
  have HR := hid hr
  clear hr
  have H := hid h
  have HX := hid hX
  have KX := hid (show X.kind = K from by rw [hX]; exact pl_kind K c)
  have CX := hid (show X.cbp = cbpP K c from by rw [hX]; exact pl_cbpv K c)
  have FX := hid (show MFew X from by rw [hX]; exact pl_few K c)
  have MD := hid (fun w => mod13_any wh 6 (by omega) w)
  rw [hj] at MD
  have cw := h.bx.cell (i := 0) (v := .int .i64 wh) rfl
  have PL := hid (pl_lens K c)
  obtain ⟨la, lc, hform⟩ : ∃ a d, rv = .slice a (nRef K) d := by
    obtain ⟨a, d, e⟩ := h.pr.r.form; exact ⟨a, d, by rw [e, hX, (pl_lens K c).1]⟩
  subst hform
  have CNP := hid (h.bn.cell (i := 0) (v := .int .i64 tn) rfl)
  have CIP := hid (h.bx.cell (i := 1) (v := .int .i64 ix) rfl)
  have CLP := hid (h.bm.cell (i := 23) (v := .slice la (nRef K) lc) rfl)
  have cl := CLP.out
  have K0 := hid (show checkI X false 3 = 0 from by rw [hX]; exact pl_check K c 3 k0 k7 c0 c1 (by omega) (by omega))
  have IN0 := hid (show MIn X from by rw [hX]; exact pl_in K c k0 k7 c0 c1)
  have nr := nRef_le K
  clear hj
  go_wp2_with fail
  refine (MD.out _).mono ?_
  rintro e w2 ⟨rfl, rfl⟩
  by_cases hz : nRef K = 0
  · have z0 : ((nRef K : Nat) : Int) = 0 := by omega
    have zz : decide ((0 : Int) < ((nRef K : Nat) : Int)) = false := decide_eq_false (by omega)
    have zp : ¬ (0 : Int) < ((nRef K : Nat) : Int) := by omega
    clear h hX hz nr
    go_wp2_with fail
    exact HR.out _ _ _ _ _ _ _ _ _ _ _ _ _ _ _ _ _ _ _ _ _ _ _ _ _ _ _ _ _ _ _ _ _ _ _ _ _ _ _ _ _ _ _ _ _ _ _ _ _ _ _ _ _ _ _ _ _ _ _ _ _ _ _ _ _ _ _ _ _ _ _ _ _ _ _ _ _ _ _ _ _ _ _ _ _ _ _ _ _ _ _ _ _ _ _ _ _ _ _ _ _ _ _ _ _ _ _ _ _ _ _ _ _ _ _ _ _ _ _ _ _ _ _ _ _ _ _ _ _ _ H.out K0.out.symm IN0.out FX.out KX.out
  · have z1 : (0 : Int) < ((nRef K : Nat) : Int) := by omega
    have zb : ((nRef K : Nat) : Int) ≤ 4 := by omega
    obtain ⟨g, rfl⟩ : ∃ g, la = some ⟨g, 0, none⟩ := by
      rcases h.pr.r.2 with ⟨e, _⟩ | ⟨g, cap, cur, e, _⟩
      · have := (Value.slice.inj e).2.1; omega
      · exact ⟨g, (Value.slice.inj e).1⟩
    have M2 := hid (fun w => mod13_any ix (nRef K : Nat) (by omega) w)
    have mi := modI13_in ix (nRef K : Nat) (by omega)
    obtain ⟨im, him⟩ : ∃ m, m = modI13 ix (nRef K : Nat) := ⟨_, rfl⟩
    rw [← him] at M2 mi
    obtain ⟨i, rfl⟩ := Int.eq_ofNat_of_zero_le mi.1
    have i1 : i < nRef K := by omega
    have ii : (i : Int) < ((nRef K : Nat) : Int) := by omega
    have ii0 : (0 : Int) ≤ (i : Int) := by omega
    have WANT := hid (want_refs k0 k7 c0 c1 i tn i1)
    rw [← hX] at WANT
    have LX := hid (show X.refs.length = nRef K from by rw [hX]; exact (pl_lens K c).1)
    have FQ := hid (show MFew { X with refs := X.refs.set i tn } from ⟨by show (X.refs.set i tn).length ≤ 1000; rw [List.length_set]; exact FX.out.r, FX.out.v, FX.out.b, FX.out.i⟩)
    have XV := hid (show X.refs = List.replicate (nRef K) 0 from by rw [hX]; exact pl_refsv K c)
    clear h hX him mi hz nr i1
    go_wp2_with fail
    refine wp_region_tail (fun w' => Only [] w2 w') 9 11 (by kernel_rfl) rfl ((Only.refl _ _).drew) (fun hS => ?_)
    generalize hwd : w2.drew = wd at *
    refine wpAnyT_take 0 (v := ?va0) rfl (by kernel_rfl) (fun _ _ _ h => hQ _ _ _ _ _ h) (Or.inl ⟨by rfl, ?ya0⟩) hS ?ra0
    case ya0 =>
      intro w hSw
      have q1 := hSw.cell CNP.out (by simp)
      have q2 := hSw.cell CIP.out (by simp)
      have q3 := hSw.cell CLP.out (by simp)
      go_simp
      (try with_reducible rfl)
    (try simp only [Act.put, List.setIfInBounds_toArray, List.set_cons_zero, List.set_cons_succ])
    refine wpAnyT_take 1 (v := ?va1) rfl (by kernel_rfl) (fun _ _ _ h => hQ _ _ _ _ _ h) (Or.inl ⟨by rfl, ?ya1⟩) hS ?ra1
    case ya1 =>
      intro w hSw
      have q1 := hSw.cell CNP.out (by simp)
      have q2 := hSw.cell CIP.out (by simp)
      have q3 := hSw.cell CLP.out (by simp)
      go_simp
      (try with_reducible rfl)
    (try simp only [Act.put, List.setIfInBounds_toArray, List.set_cons_zero, List.set_cons_succ])
    refine wpAnyT_take 2 (v := ?va2) rfl (by kernel_rfl) (fun _ _ _ h => hQ _ _ _ _ _ h) (Or.inl ⟨by rfl, ?ya2⟩) hS ?ra2
    case ya2 =>
      intro w hSw
      have q1 := hSw.cell CNP.out (by simp)
      have q2 := hSw.cell CIP.out (by simp)
      have q3 := hSw.cell CLP.out (by simp)
      go_simp
      (try with_reducible rfl)
    (try simp only [Act.put, List.setIfInBounds_toArray, List.set_cons_zero, List.set_cons_succ])
    refine wpAnyT_take 3 (v := ?va3) rfl (by kernel_rfl) (fun _ _ _ h => hQ _ _ _ _ _ h) (Or.inl ⟨by rfl, ?ya3⟩) hS ?ra3
    case ya3 =>
      intro w hSw
      have q1 := hSw.cell CNP.out (by simp)
      have q2 := hSw.cell CIP.out (by simp)
      have q3 := hSw.cell CLP.out (by simp)
      go_simp
      (try with_reducible rfl)
    (try simp only [Act.put, List.setIfInBounds_toArray, List.set_cons_zero, List.set_cons_succ])
    refine wpAnyT_take 4 (v := ?va4) rfl (by kernel_rfl) (fun _ _ _ h => hQ _ _ _ _ _ h) (Or.inl ⟨by rfl, ?ya4⟩) hS ?ra4
    case ya4 =>
      intro w hSw
      have q1 := hSw.cell CNP.out (by simp)
      have q2 := hSw.cell CIP.out (by simp)
      have q3 := hSw.cell CLP.out (by simp)
      go_simp
      (try with_reducible rfl)
    (try simp only [Act.put, List.setIfInBounds_toArray, List.set_cons_zero, List.set_cons_succ])
    refine wpAnyT_take 5 (v := ?va5) rfl (by kernel_rfl) (fun _ _ _ h => hQ _ _ _ _ _ h) (Or.inl ⟨by rfl, ?ya5⟩) hS ?ra5
    case ya5 =>
      intro w hSw
      have q1 := hSw.cell CNP.out (by simp)
      have q2 := hSw.cell CIP.out (by simp)
      have q3 := hSw.cell CLP.out (by simp)
      go_simp
      (try with_reducible rfl)
    (try simp only [Act.put, List.setIfInBounds_toArray, List.set_cons_zero, List.set_cons_succ])
    refine wpAnyT_take 6 (v := ?va6) rfl (by kernel_rfl) (fun _ _ _ h => hQ _ _ _ _ _ h) (Or.inl ⟨by rfl, ?ya6⟩) hS ?ra6
    case ya6 =>
      intro w hSw
      have q1 := hSw.cell CNP.out (by simp)
      have q2 := hSw.cell CIP.out (by simp)
      have q3 := hSw.cell CLP.out (by simp)
      go_simp
      (try with_reducible rfl)
    (try simp only [Act.put, List.setIfInBounds_toArray, List.set_cons_zero, List.set_cons_succ])
    refine wpAnyT_take 8 (v := ?va8) rfl (by kernel_rfl) (fun _ _ _ h => hQ _ _ _ _ _ h) (Or.inl ⟨by rfl, ?ya8⟩) hS ?ra8
    case ya8 =>
      intro w hSw
      have q1 := hSw.cell CNP.out (by simp)
      have q2 := hSw.cell CIP.out (by simp)
      have q3 := hSw.cell CLP.out (by simp)
      go_simp
      (try with_reducible rfl)
    (try simp only [Act.put, List.setIfInBounds_toArray, List.set_cons_zero, List.set_cons_succ])
    refine wpAnyT_call 7 rfl (by kernel_rfl) (fun J hJ => ?_)
    go_simp
    refine (M2.out _).mono ?_
    rintro e u1 ⟨rfl, rfl⟩
    refine hJ.out _ _ hS ?_
    clear hJ J
    (try simp only [Act.put, List.setIfInBounds_toArray, List.set_cons_zero, List.set_cons_succ])
    have HD := hid (H.out.step hS)
    clear hwd hS cl cw
    refine wpAnyT_tail _ rfl (by kernel_rfl) ?_
    simp only [List.drop_succ_cons, List.drop_zero]
    have ci := hid (show ∃ y, u1.cell? ⟨g, i, none⟩ = some (.int .i64 y) from by
      have h := (HD.out.pr.r.set i (by rw [LX.out]; omega) tn).1
      exact h)
    obtain ⟨yo, ciy⟩ := ci.out
    have cf := (HD.out.pr.r.set i (by rw [LX.out]; omega) tn).2.1
    have h5 := hid (HD.out.refs i tn (by rw [LX.out]; omega))
    go_upto_region 26 with fail
    generalize u1.setCell _ _ = w5 at *
    clear ciy cf ci
    obtain ⟨nn, hnn⟩ : ∃ n, n = tn := ⟨_, rfl⟩
    have cn := h5.out.bn.cell (i := 0) (v := .int .i64 tn) rfl
    rw [← hnn] at cn
    have NN := hid hnn
    clear hnn
    have E := hid (show (if inI nn 0 2 = true then (0 : Int) else 3) = checkI { X with refs := X.refs.set i tn } false 3 from by rw [NN.out, WANT.out.2])
    go_wp2_with fail
    refine (inside_any (0) 2 nn 0 pn pw _ cn h5.out.bw).mono ?_
    rintro e w6 ⟨rfl, hb, hk⟩
    have h6 := hid (h5.out.want hb hk)
    clear hb hk cn
    go_wp2_with fail
    exact HR.out _ _ _ _ _ _ _ _ _ _ _ _ _ _ _ _ _ _ _ _ _ _ _ _ _ _ _ _ _ _ _ _ _ _ _ _ _ _ _ _ _ _ _ _ _ _ _ _ _ _ _ _ _ _ _ _ _ _ _ _ _ _ _ _ _ _ _ _ _ _ _ _ _ _ _ _ _ _ _ _ _ _ _ _ _ _ _ _ _ _ _ _ _ _ _ _ _ _ _ _ _ _ _ _ _ _ _ _ _ _ _ _ _ _ _ _ _ _ _ _ _ _ _ _ _ _ _ _ _ _ h6.out E.out WANT.out.1 FQ.out KX.out
set_option maxRecDepth 1000000 in
set_option maxHeartbeats 8000000 in
theorem sp_3 (rest : Code) (Q : Exit → Act → World → Prop) (hQ : ∀ c (a : Act) d v w, Q (.panic c) (a.put (some d) v) w → Q (.panic c) a w) (K c wh ix tn : Int) (X : MV) (w0 w : World) (px pm pn pw lo hi : Nat) (rv vv bv : Value) (us : List SlV) (k0 : 0 ≤ K) (k7 : K ≤ 7) (c0 : 0 ≤ c) (c1 : c ≤ 255) (n0 : -9223372036854775808 ≤ tn) (n1 : tn ≤ 9223372036854775807) (hX : X = plainM K c) (h : SpS w0 w px pm pn pw wh ix tn tn 0 X rv vv bv us lo hi) (hj : modI13 wh 6 = 3) (u0 u1 u2 u3 u4 u8 u13 u14 u15 u16 u17 u18 u19 u20 u21 u22 u23 u24 u25 u26 u27 u28 u29 u30 u31 u32 u33 u34 u35 u36 u37 u38 u39 u40 u41 u42 u43 u44 u45 u46 u47 u48 u49 u50 u51 u52 u53 u54 u55 u56 u57 u58 u59 u60 u61 u62 u63 u64 u65 u66 u67 u68 u69 u70 u71 u72 u73 u74 u75 u76 u77 u78 u79 u80 u81 u82 u83 u84 u85 u86 u87 u88 u89 u90 u91 u92 u93 u94 u95 u96 u97 u98 u99 u100 u101 u102 u103 u104 u105 u106 u107 u108 u109 u110 u111 u112 u113 u114 u115 u116 u117 u118 u119 u120 u121 u122 u123 u124 u125 u126 u127 u128 u129 u130 u131 u132 u133 u134 u135 u136 u137 u138 u139 u140 u141 u142 u143 u144 u145 u146 u147 u148 u149 u150 u151 u152 u153 u154 u155 u156 u157 u158 u159 u160 u161 u162 u163 : Value)
    (hr : ∀ (w' : World) (n' e' : Int) (y' : MV) (rv' vv' : Value) (v13 v34 v35 v36 v37 v38 v39 v40 v41 v42 v43 v44 v45 v46 v47 v48 v49 v50 v51 v52 v53 v54 v55 v56 v57 v58 v59 v60 v61 v62 v63 v64 v65 v66 v67 v68 v69 v70 v71 v72 v73 v74 v75 v76 v77 v78 v79 v80 v81 v82 v83 v84 v85 v86 v87 v88 v89 v90 v91 v92 v93 v94 v95 v96 v97 v98 v99 v100 v101 v102 v103 v104 v105 v106 v107 v108 v109 v110 v111 v112 v113 v114 v115 v116 v117 v118 v119 v120 v121 v122 v123 v124 v125 v126 v127 v128 v129 v130 v131 v132 v133 v134 v135 v136 v137 v138 v139 v140 v141 v142 v143 v144 v145 v146 v147 v148 v149 v150 v151 v152 v153 v154 v155 v156 : Value), SpS w0 w' px pm pn pw wh ix tn n' e' y' rv' vv' bv us lo hi → e' = checkI y' false 3 → MIn y' → MFew y' → y'.kind = K → rest.wp Tryd.prog Q ⟨#[u0, u1, u2, u3, u4, .pointer (some ⟨px, 0, none⟩), .bool false, .pointer (some ⟨pm, 0, none⟩), u8, .pointer (some ⟨pw, 0, none⟩), .pointer (some ⟨pn, 0, none⟩), .func (.func 20) #[] #[.pointer (some ⟨pn, 0, none⟩), .pointer (some ⟨pw, 0, none⟩)], .func (.func 21) #[] #[.pointer (some ⟨pw, 0, none⟩)], v13, u14, u15, u16, u17, u18, u19, u20, u21, u22, u23, u24, u25, u26, u27, u28, u29, u30, u31, u32, u33, v34, v35, v36, v37, v38, v39, v40, v41, v42, v43, v44, v45, v46, v47, v48, v49, v50, v51, v52, v53, v54, v55, v56, v57, v58, v59, v60, v61, v62, v63, v64, v65, v66, v67, v68, v69, v70, v71, v72, v73, v74, v75, v76, v77, v78, v79, v80, v81, v82, v83, v84, v85, v86, v87, v88, v89, v90, v91, v92, v93, v94, v95, v96, v97, v98, v99, v100, v101, v102, v103, v104, v105, v106, v107, v108, v109, v110, v111, v112, v113, v114, v115, v116, v117, v118, v119, v120, v121, v122, v123, v124, v125, v126, v127, v128, v129, v130, v131, v132, v133, v134, v135, v136, v137, v138, v139, v140, v141, v142, v143, v144, v145, v146, v147, v148, v149, v150, v151, v152, v153, v154, v155, v156, u157, u158, u159, u160, u161, u162, u163], []⟩ w') :
    (endWith 1 (dropSeq 7 spB) rest).wp Tryd.prog Q ⟨#[u0, u1, u2, u3, u4, .pointer (some ⟨px, 0, none⟩), .bool false, .pointer (some ⟨pm, 0, none⟩), u8, .pointer (some ⟨pw, 0, none⟩), .pointer (some ⟨pn, 0, none⟩), .func (.func 20) #[] #[.pointer (some ⟨pn, 0, none⟩), .pointer (some ⟨pw, 0, none⟩)], .func (.func 21) #[] #[.pointer (some ⟨pw, 0, none⟩)], u13, u14, u15, u16, u17, u18, u19, u20, u21, u22, u23, u24, u25, u26, u27, u28, u29, u30, u31, u32, u33, u34, u35, u36, u37, u38, u39, u40, u41, u42, u43, u44, u45, u46, u47, u48, u49, u50, u51, u52, u53, u54, u55, u56, u57, u58, u59, u60, u61, u62, u63, u64, u65, u66, u67, u68, u69, u70, u71, u72, u73, u74, u75, u76, u77, u78, u79, u80, u81, u82, u83, u84, u85, u86, u87, u88, u89, u90, u91, u92, u93, u94, u95, u96, u97, u98, u99, u100, u101, u102, u103, u104, u105, u106, u107, u108, u109, u110, u111, u112, u113, u114, u115, u116, u117, u118, u119, u120, u121, u122, u123, u124, u125, u126, u127, u128, u129, u130, u131, u132, u133, u134, u135, u136, u137, u138, u139, u140, u141, u142, u143, u144, u145, u146, u147, u148, u149, u150, u151, u152, u153, u154, u155, u156, u157, u158, u159, u160, u161, u162, u163], []⟩ w := by
  conv => arg 2; whnf; arg 2; whnf
  have HR := hid hr
  clear hr
  have H := hid h
  have HX := hid hX
  have KX := hid (show X.kind = K from by rw [hX]; exact pl_kind K c)
  have CX := hid (show X.cbp = cbpP K c from by rw [hX]; exact pl_cbpv K c)
  have FX := hid (show MFew X from by rw [hX]; exact pl_few K c)
  have MD := hid (fun w => mod13_any wh 6 (by omega) w)
  rw [hj] at MD
  have cw := h.bx.cell (i := 0) (v := .int .i64 wh) rfl
  have PL := hid (pl_lens K c)
  obtain ⟨la, lc, hform⟩ : ∃ a d, vv = .slice a (nRef K) d := by
    obtain ⟨a, d, e, _⟩ := h.pr.v.holds vcC_ok; exact ⟨a, d, by rw [e, hX, (pl_lens K c).2.1]⟩
  subst hform
  have CNP := hid (h.bn.cell (i := 0) (v := .int .i64 tn) rfl)
  have CIP := hid (h.bx.cell (i := 1) (v := .int .i64 ix) rfl)
  have CLP := hid (h.bm.cell (i := 24) (v := .slice la (nRef K) lc) rfl)
  have cl := CLP.out
  have K0 := hid (show checkI X false 3 = 0 from by rw [hX]; exact pl_check K c 3 k0 k7 c0 c1 (by omega) (by omega))
  have IN0 := hid (show MIn X from by rw [hX]; exact pl_in K c k0 k7 c0 c1)
  have nr := nRef_le K
  clear hj
  go_wp2_with fail
  refine (MD.out _).mono ?_
  rintro e w2 ⟨rfl, rfl⟩
  by_cases hz : nRef K = 0
  · have z0 : ((nRef K : Nat) : Int) = 0 := by omega
    have zz : decide ((0 : Int) < ((nRef K : Nat) : Int)) = false := decide_eq_false (by omega)
    have zp : ¬ (0 : Int) < ((nRef K : Nat) : Int) := by omega
    clear h hX hz nr
    go_wp2_with fail
    exact HR.out _ _ _ _ _ _ _ _ _ _ _ _ _ _ _ _ _ _ _ _ _ _ _ _ _ _ _ _ _ _ _ _ _ _ _ _ _ _ _ _ _ _ _ _ _ _ _ _ _ _ _ _ _ _ _ _ _ _ _ _ _ _ _ _ _ _ _ _ _ _ _ _ _ _ _ _ _ _ _ _ _ _ _ _ _ _ _ _ _ _ _ _ _ _ _ _ _ _ _ _ _ _ _ _ _ _ _ _ _ _ _ _ _ _ _ _ _ _ _ _ _ _ _ _ _ _ _ _ _ _ H.out K0.out.symm IN0.out FX.out KX.out
  · have z1 : (0 : Int) < ((nRef K : Nat) : Int) := by omega
    have zb : ((nRef K : Nat) : Int) ≤ 4 := by omega
    obtain ⟨g, rfl⟩ : ∃ g, la = some ⟨g, 0, none⟩ := by
      rcases h.pr.v.2 with ⟨e, _⟩ | ⟨g, cap, cur, e, _⟩
      · have := (Value.slice.inj e).2.1; omega
      · exact ⟨g, (Value.slice.inj e).1⟩
    have M2 := hid (fun w => mod13_any ix (nRef K : Nat) (by omega) w)
    have mi := modI13_in ix (nRef K : Nat) (by omega)
    obtain ⟨im, him⟩ : ∃ m, m = modI13 ix (nRef K : Nat) := ⟨_, rfl⟩
    rw [← him] at M2 mi
    obtain ⟨i, rfl⟩ := Int.eq_ofNat_of_zero_le mi.1
    have i1 : i < nRef K := by omega
    have ii : (i : Int) < ((nRef K : Nat) : Int) := by omega
    have ii0 : (0 : Int) ≤ (i : Int) := by omega
    have WANT := hid (want_mvds k0 k7 c0 c1 i tn i1)
    rw [← hX] at WANT
    have LX := hid (show X.mvds.length = nRef K from by rw [hX]; exact (pl_lens K c).2.1)
    have FQ := hid (show MFew { X with mvds := X.mvds.set i (tn, 0) } from ⟨FX.out.r, by show (X.mvds.set i (tn, 0)).length ≤ 1000; rw [List.length_set]; exact FX.out.v, FX.out.b, FX.out.i⟩)
    have XV := hid (show X.mvds = List.replicate (nRef K) (0, 0) from by rw [hX]; exact pl_mvdsv K c)
    clear h hX him mi hz nr i1
    go_wp2_with fail
    refine wp_region_tail (fun w' => Only [] w2 w') 9 12 (by kernel_rfl) rfl ((Only.refl _ _).drew) (fun hS => ?_)
    generalize hwd : w2.drew = wd at *
    refine wpAnyT_take 0 (v := ?va0) rfl (by kernel_rfl) (fun _ _ _ h => hQ _ _ _ _ _ h) (Or.inl ⟨by rfl, ?ya0⟩) hS ?ra0
    case ya0 =>
      intro w hSw
      have q1 := hSw.cell CNP.out (by simp)
      have q2 := hSw.cell CIP.out (by simp)
      have q3 := hSw.cell CLP.out (by simp)
      go_simp
      (try with_reducible rfl)
    (try simp only [Act.put, List.setIfInBounds_toArray, List.set_cons_zero, List.set_cons_succ])
    refine wpAnyT_take 1 (v := ?va1) rfl (by kernel_rfl) (fun _ _ _ h => hQ _ _ _ _ _ h) (Or.inl ⟨by rfl, ?ya1⟩) hS ?ra1
    case ya1 =>
      intro w hSw
      have q1 := hSw.cell CNP.out (by simp)
      have q2 := hSw.cell CIP.out (by simp)
      have q3 := hSw.cell CLP.out (by simp)
      go_simp
      (try with_reducible rfl)
    (try simp only [Act.put, List.setIfInBounds_toArray, List.set_cons_zero, List.set_cons_succ])
    refine wpAnyT_take 2 (v := ?va2) rfl (by kernel_rfl) (fun _ _ _ h => hQ _ _ _ _ _ h) (Or.inl ⟨by rfl, ?ya2⟩) hS ?ra2
    case ya2 =>
      intro w hSw
      have q1 := hSw.cell CNP.out (by simp)
      have q2 := hSw.cell CIP.out (by simp)
      have q3 := hSw.cell CLP.out (by simp)
      go_simp
      (try with_reducible rfl)
    (try simp only [Act.put, List.setIfInBounds_toArray, List.set_cons_zero, List.set_cons_succ])
    refine wpAnyT_take 3 (v := ?va3) rfl (by kernel_rfl) (fun _ _ _ h => hQ _ _ _ _ _ h) (Or.inl ⟨by rfl, ?ya3⟩) hS ?ra3
    case ya3 =>
      intro w hSw
      have q1 := hSw.cell CNP.out (by simp)
      have q2 := hSw.cell CIP.out (by simp)
      have q3 := hSw.cell CLP.out (by simp)
      go_simp
      (try with_reducible rfl)
    (try simp only [Act.put, List.setIfInBounds_toArray, List.set_cons_zero, List.set_cons_succ])
    refine wpAnyT_take 4 (v := ?va4) rfl (by kernel_rfl) (fun _ _ _ h => hQ _ _ _ _ _ h) (Or.inl ⟨by rfl, ?ya4⟩) hS ?ra4
    case ya4 =>
      intro w hSw
      have q1 := hSw.cell CNP.out (by simp)
      have q2 := hSw.cell CIP.out (by simp)
      have q3 := hSw.cell CLP.out (by simp)
      go_simp
      (try with_reducible rfl)
    (try simp only [Act.put, List.setIfInBounds_toArray, List.set_cons_zero, List.set_cons_succ])
    refine wpAnyT_take 5 (v := ?va5) rfl (by kernel_rfl) (fun _ _ _ h => hQ _ _ _ _ _ h) (Or.inl ⟨by rfl, ?ya5⟩) hS ?ra5
    case ya5 =>
      intro w hSw
      have q1 := hSw.cell CNP.out (by simp)
      have q2 := hSw.cell CIP.out (by simp)
      have q3 := hSw.cell CLP.out (by simp)
      go_simp
      (try with_reducible rfl)
    (try simp only [Act.put, List.setIfInBounds_toArray, List.set_cons_zero, List.set_cons_succ])
    refine wpAnyT_take 6 (v := ?va6) rfl (by kernel_rfl) (fun _ _ _ h => hQ _ _ _ _ _ h) (Or.inl ⟨by rfl, ?ya6⟩) hS ?ra6
    case ya6 =>
      intro w hSw
      have q1 := hSw.cell CNP.out (by simp)
      have q2 := hSw.cell CIP.out (by simp)
      have q3 := hSw.cell CLP.out (by simp)
      go_simp
      (try with_reducible rfl)
    (try simp only [Act.put, List.setIfInBounds_toArray, List.set_cons_zero, List.set_cons_succ])
    refine wpAnyT_take 8 (v := ?va8) rfl (by kernel_rfl) (fun _ _ _ h => hQ _ _ _ _ _ h) (Or.inl ⟨by rfl, ?ya8⟩) hS ?ra8
    case ya8 =>
      intro w hSw
      have q1 := hSw.cell CNP.out (by simp)
      have q2 := hSw.cell CIP.out (by simp)
      have q3 := hSw.cell CLP.out (by simp)
      go_simp
      (try with_reducible rfl)
    (try simp only [Act.put, List.setIfInBounds_toArray, List.set_cons_zero, List.set_cons_succ])
    refine wpAnyT_call 7 rfl (by kernel_rfl) (fun J hJ => ?_)
    go_simp
    refine (M2.out _).mono ?_
    rintro e u1 ⟨rfl, rfl⟩
    refine hJ.out _ _ hS ?_
    clear hJ J
    (try simp only [Act.put, List.setIfInBounds_toArray, List.set_cons_zero, List.set_cons_succ])
    have HD := hid (H.out.step hS)
    clear hwd hS cl cw
    refine wpAnyT_tail _ rfl (by kernel_rfl) ?_
    simp only [List.drop_succ_cons, List.drop_zero]
    have XI : X.mvds[i]? = some (0, 0) := by rw [XV.out, List.getElem?_replicate, if_pos (by omega)]
    have ciy : u1.cell? ⟨g, i * 2, none⟩ = some (.int .i64 0) := by
      obtain ⟨b, o, e, hc⟩ := (show HoldsG vcC 2 u1 (.slice (some ⟨g, 0, none⟩) (nRef K) lc) X.mvds from HD.out.pr.v.holds vcC_ok).at XI
      cases e
      have := hc 0 (.int .i64 0) rfl
      rw [Nat.add_zero, Nat.zero_add] at this
      exact this
    have cf := HD.out.pr.v.frozen g (by simp [ownG, Value.ownBlock]) (i * 2)
    have h5 := hid (HD.out.vec i tn (0, 0) XI)
    clear XI
    go_upto_region 30 with fail
    generalize u1.setCell _ _ = w5 at *
    clear ciy cf
    obtain ⟨nn, hnn⟩ : ∃ n, n = tn := ⟨_, rfl⟩
    have cn := h5.out.bn.cell (i := 0) (v := .int .i64 tn) rfl
    rw [← hnn] at cn
    have NN := hid hnn
    clear hnn
    have E := hid (show (if inI nn (-8192) 8192 = true then (0 : Int) else 3) = checkI { X with mvds := X.mvds.set i (tn, 0) } false 3 from by rw [NN.out, WANT.out.2])
    go_wp2_with fail
    refine (inside_any (-8192) 8192 nn 0 pn pw _ cn h5.out.bw).mono ?_
    rintro e w6 ⟨rfl, hb, hk⟩
    have h6 := hid (h5.out.want hb hk)
    clear hb hk cn
    go_wp2_with fail
    exact HR.out _ _ _ _ _ _ _ _ _ _ _ _ _ _ _ _ _ _ _ _ _ _ _ _ _ _ _ _ _ _ _ _ _ _ _ _ _ _ _ _ _ _ _ _ _ _ _ _ _ _ _ _ _ _ _ _ _ _ _ _ _ _ _ _ _ _ _ _ _ _ _ _ _ _ _ _ _ _ _ _ _ _ _ _ _ _ _ _ _ _ _ _ _ _ _ _ _ _ _ _ _ _ _ _ _ _ _ _ _ _ _ _ _ _ _ _ _ _ _ _ _ _ _ _ _ _ _ _ _ _ h6.out E.out WANT.out.1 FQ.out KX.out
end Go.Proofs.YtpmmnjeomdjakaaDoor

/- MbSpoils: its cases. -/
import Derived.Test.YtpmmnjeomdjakaaDoorMgG
namespace Go.Proofs.YtpmmnjeomdjakaaDoor
open Go.RowKit
set_option linter.unusedVariables false
set_option linter.unusedSimpArgs false

set_option maxRecDepth 1000000 in
set_option maxHeartbeats 8000000 in
theorem sp_0 (rest : Code) (Q : Exit → Act → World → Prop) (hQ : ∀ c (a : Act) d v w, Q (.panic c) (a.put (some d) v) w → Q (.panic c) a w) (K c wh ix tn : Int) (X : MV) (w0 w : World) (px pm pn pw lo hi : Nat) (rv vv bv : Value) (us : List SlV) (k0 : 0 ≤ K) (k7 : K ≤ 7) (c0 : 0 ≤ c) (c1 : c ≤ 255) (n0 : -9223372036854775808 ≤ tn) (n1 : tn ≤ 9223372036854775807) (hX : X = plainM K c) (h : SpS w0 w px pm pn pw wh ix tn tn 0 X rv vv bv us lo hi) (hj : modI13 wh 6 = 0) (u0 u1 u2 u3 u4 u8 u13 u14 u15 u16 u17 u18 u19 u20 u21 u22 u23 u24 u25 u26 u27 u28 u29 u30 u31 u32 u33 u34 u35 u36 u37 u38 u39 u40 u41 u42 u43 u44 u45 u46 u47 u48 u49 u50 u51 u52 u53 u54 u55 u56 u57 u58 u59 u60 u61 u62 u63 u64 u65 u66 u67 u68 u69 u70 u71 u72 u73 u74 u75 u76 u77 u78 u79 u80 u81 u82 u83 u84 u85 u86 u87 u88 u89 u90 u91 u92 u93 u94 u95 u96 u97 u98 u99 u100 u101 u102 u103 u104 u105 u106 u107 u108 u109 u110 u111 u112 u113 u114 u115 u116 u117 u118 u119 u120 u121 u122 u123 u124 u125 u126 u127 u128 u129 u130 u131 u132 u133 u134 u135 u136 u137 u138 u139 u140 u141 u142 u143 u144 u145 u146 u147 u148 u149 u150 u151 u152 u153 u154 u155 u156 u157 u158 u159 u160 u161 u162 u163 : Value)
    (hr : ∀ (w' : World) (n' e' : Int) (y' : MV) (v13 v34 v35 v36 v37 v38 v39 v40 v41 v42 v43 v44 v45 v46 v47 v48 v49 v50 v51 v52 v53 v54 v55 v56 v57 v58 v59 v60 v61 v62 v63 v64 v65 v66 v67 v68 v69 v70 v71 v72 v73 v74 v75 v76 v77 v78 v79 v80 v81 v82 v83 v84 v85 v86 v87 v88 v89 v90 v91 v92 v93 v94 v95 v96 v97 v98 v99 v100 v101 v102 v103 v104 v105 v106 v107 v108 v109 v110 v111 v112 v113 v114 v115 v116 v117 v118 v119 v120 v121 v122 v123 v124 v125 v126 v127 v128 v129 v130 v131 v132 v133 v134 v135 v136 v137 v138 v139 v140 v141 v142 v143 v144 v145 v146 v147 v148 v149 v150 v151 v152 v153 v154 v155 v156 : Value), SpS w0 w' px pm pn pw wh ix tn n' e' y' rv vv bv us lo hi → e' = checkI y' false 3 → MIn y' → MFew y' → y'.kind = K → rest.wp Tryd.prog Q ⟨#[u0, u1, u2, u3, u4, .pointer (some ⟨px, 0, none⟩), .bool false, .pointer (some ⟨pm, 0, none⟩), u8, .pointer (some ⟨pw, 0, none⟩), .pointer (some ⟨pn, 0, none⟩), .func (.func 20) #[] #[.pointer (some ⟨pn, 0, none⟩), .pointer (some ⟨pw, 0, none⟩)], .func (.func 21) #[] #[.pointer (some ⟨pw, 0, none⟩)], v13, u14, u15, u16, u17, u18, u19, u20, u21, u22, u23, u24, u25, u26, u27, u28, u29, u30, u31, u32, u33, v34, v35, v36, v37, v38, v39, v40, v41, v42, v43, v44, v45, v46, v47, v48, v49, v50, v51, v52, v53, v54, v55, v56, v57, v58, v59, v60, v61, v62, v63, v64, v65, v66, v67, v68, v69, v70, v71, v72, v73, v74, v75, v76, v77, v78, v79, v80, v81, v82, v83, v84, v85, v86, v87, v88, v89, v90, v91, v92, v93, v94, v95, v96, v97, v98, v99, v100, v101, v102, v103, v104, v105, v106, v107, v108, v109, v110, v111, v112, v113, v114, v115, v116, v117, v118, v119, v120, v121, v122, v123, v124, v125, v126, v127, v128, v129, v130, v131, v132, v133, v134, v135, v136, v137, v138, v139, v140, v141, v142, v143, v144, v145, v146, v147, v148, v149, v150, v151, v152, v153, v154, v155, v156, u157, u158, u159, u160, u161, u162, u163], []⟩ w') :
    (endWith 1 (dropSeq 7 spB) rest).wp Tryd.prog Q ⟨#[u0, u1, u2, u3, u4, .pointer (some ⟨px, 0, none⟩), .bool false, .pointer (some ⟨pm, 0, none⟩), u8, .pointer (some ⟨pw, 0, none⟩), .pointer (some ⟨pn, 0, none⟩), .func (.func 20) #[] #[.pointer (some ⟨pn, 0, none⟩), .pointer (some ⟨pw, 0, none⟩)], .func (.func 21) #[] #[.pointer (some ⟨pw, 0, none⟩)], u13, u14, u15, u16, u17, u18, u19, u20, u21, u22, u23, u24, u25, u26, u27, u28, u29, u30, u31, u32, u33, u34, u35, u36, u37, u38, u39, u40, u41, u42, u43, u44, u45, u46, u47, u48, u49, u50, u51, u52, u53, u54, u55, u56, u57, u58, u59, u60, u61, u62, u63, u64, u65, u66, u67, u68, u69, u70, u71, u72, u73, u74, u75, u76, u77, u78, u79, u80, u81, u82, u83, u84, u85, u86, u87, u88, u89, u90, u91, u92, u93, u94, u95, u96, u97, u98, u99, u100, u101, u102, u103, u104, u105, u106, u107, u108, u109, u110, u111, u112, u113, u114, u115, u116, u117, u118, u119, u120, u121, u122, u123, u124, u125, u126, u127, u128, u129, u130, u131, u132, u133, u134, u135, u136, u137, u138, u139, u140, u141, u142, u143, u144, u145, u146, u147, u148, u149, u150, u151, u152, u153, u154, u155, u156, u157, u158, u159, u160, u161, u162, u163], []⟩ w := by
  conv => arg 2; whnf; arg 2; whnf
  have HR := hid hr
  clear hr
  have H := hid h
  have HX := hid hX
  have KX := hid (show X.kind = K from by rw [hX]; exact pl_kind K c)
  have CX := hid (show X.cbp = cbpP K c from by rw [hX]; exact pl_cbpv K c)
  have FX := hid (show MFew X from by rw [hX]; exact pl_few K c)
  have MD := hid (fun w => mod13_any wh 6 (by omega) w)
  rw [hj] at MD
  have cw := h.bx.cell (i := 0) (v := .int .i64 wh) rfl
  have cn := h.bn.cell (i := 0) (v := .int .i64 tn) rfl
  have c26 := h.bm.cell (i := 26) (v := .int .i64 X.qp) rfl
  have f26 := h.bm.frozen 26
  have WANT := hid (want_qp k0 k7 c0 c1 tn n0 n1)
  have INQ := hid (in_qp k0 k7 c0 c1 tn n0 n1)
  rw [← hX] at WANT INQ
  have FQ := hid (show MFew { X with qp := tn } from ⟨FX.out.r, FX.out.v, FX.out.b, FX.out.i⟩)
  clear h hj hX
  go_wp2_with fail
  refine (MD.out _).mono ?_
  rintro e w2 ⟨rfl, rfl⟩
  go_upto_region 15 with fail
  have h5 := hid (H.out.mb (z := { X with qp := tn }) (H.out.bm.set 26 (.int .i64 tn)) ((Only.refl _ _).setCell (.inl (by simp)) _) rfl rfl rfl)
  clear cw cn c26 f26
  generalize w2.setCell _ _ = w5 at *
  obtain ⟨nn, hnn⟩ : ∃ n, n = tn := ⟨_, rfl⟩
  have c0' := h5.out.bm.cell (i := 0) (v := .int .u8 X.kind) rfl
  have c25 := h5.out.bm.cell (i := 25) (v := .int .u8 X.cbp) rfl
  have cn := h5.out.bn.cell (i := 0) (v := .int .i64 tn) rfl
  have WK : (X.kind == 1) = (K == 1) := by rw [KX.out]
  have WC : (X.cbp == 0) = (cbpP K c == 0) := by rw [CX.out]
  have WC' : (X.cbp != 0) = !(cbpP K c == 0) := by rw [CX.out]; rfl
  rw [← hnn] at WANT cn
  have NN := hid hnn
  clear hnn
  obtain ⟨b1, hb1⟩ : ∃ b, b = (K == 1) := ⟨_, rfl⟩
  obtain ⟨b2, hb2⟩ : ∃ b, b = (cbpP K c == 0) := ⟨_, rfl⟩
  rw [← hb1] at WK WANT
  rw [← hb2] at WC WC' WANT
  clear hb1 hb2
  cases b1
  · cases b2
    · have E := hid (show (if inI nn (-26) 25 = true then (0 : Int) else 3) = checkI { X with qp := tn } false 3 from by rw [← NN.out, WANT.out]; rfl)
      go_wp2_with fail
      refine (inside_any (-26) 25 nn 0 pn pw _ cn h5.out.bw).mono ?_
      rintro e w6 ⟨rfl, hb, hk⟩
      have h6 := hid (h5.out.want hb hk)
      clear hb hk cn
      go_wp2_with fail
      exact HR.out _ _ _ _ _ _ _ _ _ _ _ _ _ _ _ _ _ _ _ _ _ _ _ _ _ _ _ _ _ _ _ _ _ _ _ _ _ _ _ _ _ _ _ _ _ _ _ _ _ _ _ _ _ _ _ _ _ _ _ _ _ _ _ _ _ _ _ _ _ _ _ _ _ _ _ _ _ _ _ _ _ _ _ _ _ _ _ _ _ _ _ _ _ _ _ _ _ _ _ _ _ _ _ _ _ _ _ _ _ _ _ _ _ _ _ _ _ _ _ _ _ _ _ _ _ _ _ _ h6.out E.out INQ.out FQ.out KX.out
    · have E0 := hid (show (if (nn == 0) = true then (0 : Int) else 2) = checkI { X with qp := tn } false 3 from by rw [← NN.out, WANT.out]; rfl)
      obtain ⟨bz, hbz⟩ : ∃ b : Bool, b = (nn == 0) := ⟨_, rfl⟩
      have BZ := hid hbz
      have qz : (nn == 0) = bz := hbz.symm
      clear hbz
      go_wp2_with fail
      refine (lacks_any bz 0 pw _ h5.out.bw).mono ?_
      rintro e w6 ⟨rfl, hb, hk⟩
      have h6 := hid (h5.out.want hb hk)
      clear hb hk cn qz
      go_wp2_with fail
      exact HR.out _ _ _ _ _ _ _ _ _ _ _ _ _ _ _ _ _ _ _ _ _ _ _ _ _ _ _ _ _ _ _ _ _ _ _ _ _ _ _ _ _ _ _ _ _ _ _ _ _ _ _ _ _ _ _ _ _ _ _ _ _ _ _ _ _ _ _ _ _ _ _ _ _ _ _ _ _ _ _ _ _ _ _ _ _ _ _ _ _ _ _ _ _ _ _ _ _ _ _ _ _ _ _ _ _ _ _ _ _ _ _ _ _ _ _ _ _ _ _ _ _ _ _ _ _ _ _ _ h6.out (by rw [BZ.out]; exact E0.out) INQ.out FQ.out KX.out
  · have E := hid (show (if inI nn (-26) 25 = true then (0 : Int) else 3) = checkI { X with qp := tn } false 3 from by rw [← NN.out, WANT.out]; rfl)
    go_wp2_with fail
    refine (inside_any (-26) 25 nn 0 pn pw _ cn h5.out.bw).mono ?_
    rintro e w6 ⟨rfl, hb, hk⟩
    have h6 := hid (h5.out.want hb hk)
    clear hb hk cn
    go_wp2_with fail
    exact HR.out _ _ _ _ _ _ _ _ _ _ _ _ _ _ _ _ _ _ _ _ _ _ _ _ _ _ _ _ _ _ _ _ _ _ _ _ _ _ _ _ _ _ _ _ _ _ _ _ _ _ _ _ _ _ _ _ _ _ _ _ _ _ _ _ _ _ _ _ _ _ _ _ _ _ _ _ _ _ _ _ _ _ _ _ _ _ _ _ _ _ _ _ _ _ _ _ _ _ _ _ _ _ _ _ _ _ _ _ _ _ _ _ _ _ _ _ _ _ _ _ _ _ _ _ _ _ _ _ h6.out E.out INQ.out FQ.out KX.out
end Go.Proofs.YtpmmnjeomdjakaaDoor

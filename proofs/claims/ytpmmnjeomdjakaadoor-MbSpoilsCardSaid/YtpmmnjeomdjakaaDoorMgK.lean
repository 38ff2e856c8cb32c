/- MbSpoils, whole. -/
import Derived.Test.YtpmmnjeomdjakaaDoorMgJ
import Derived.Test.YtpmmnjeomdjakaaDoorMgH
namespace Go.Proofs.YtpmmnjeomdjakaaDoor
open Go.RowKit
set_option linter.unusedVariables false
set_option linter.unusedSimpArgs false

theorem lc_er {w : World} {p : Addr} {v : Value} (h : w.cell? p = some v) : (Instr.loadAt 30 (.pointer (some p))).run Tryd.prog w = .ok v w := by
  go_simp
set_option maxRecDepth 1000000 in
set_option maxHeartbeats 8000000 in
theorem sp_end (w0 w : World) (px pm pn pw lo hi : Nat) (wh ix tn n e : Int) (y : MV) (rv vv bv : Value) (us : List SlV) (hV : MbV w0) (h : SpS w0 w px pm pn pw wh ix tn n e y rv vv bv us lo hi) (he : e = checkI y false 3) (hi' : MIn y) (hf : MFew y) (u0 u1 u2 u3 u4 u5 u6 u8 u10 u11 u12 u13 u14 u15 u16 u17 u18 u19 u20 u21 u22 u23 u24 u25 u26 u27 u28 u29 u30 u31 u32 u33 u34 u35 u36 u37 u38 u39 u40 u41 u42 u43 u44 u45 u46 u47 u48 u49 u50 u51 u52 u53 u54 u55 u56 u57 u58 u59 u60 u61 u62 u63 u64 u65 u66 u67 u68 u69 u70 u71 u72 u73 u74 u75 u76 u77 u78 u79 u80 u81 u82 u83 u84 u85 u86 u87 u88 u89 u90 u91 u92 u93 u94 u95 u96 u97 u98 u99 u100 u101 u102 u103 u104 u105 u106 u107 u108 u109 u110 u111 u112 u113 u114 u115 u116 u117 u118 u119 u120 u121 u122 u123 u124 u125 u126 u127 u128 u129 u130 u131 u132 u133 u134 u135 u136 u137 u138 u139 u140 u141 u142 u143 u144 u145 u146 u147 u148 u149 u150 u151 u152 u153 u154 u155 u156 u157 u158 u159 u160 u161 u162 u163 : Value) :
    (dropSeq 8 spB).wp Tryd.prog (bodyPost Tryd.prog Tryd.f6 fun e w' => e = .returned (.bool true) ∧ Only [] w0 w') ⟨#[u0, u1, u2, u3, u4, u5, u6, .pointer (some ⟨pm, 0, none⟩), u8, .pointer (some ⟨pw, 0, none⟩), u10, u11, u12, u13, u14, u15, u16, u17, u18, u19, u20, u21, u22, u23, u24, u25, u26, u27, u28, u29, u30, u31, u32, u33, u34, u35, u36, u37, u38, u39, u40, u41, u42, u43, u44, u45, u46, u47, u48, u49, u50, u51, u52, u53, u54, u55, u56, u57, u58, u59, u60, u61, u62, u63, u64, u65, u66, u67, u68, u69, u70, u71, u72, u73, u74, u75, u76, u77, u78, u79, u80, u81, u82, u83, u84, u85, u86, u87, u88, u89, u90, u91, u92, u93, u94, u95, u96, u97, u98, u99, u100, u101, u102, u103, u104, u105, u106, u107, u108, u109, u110, u111, u112, u113, u114, u115, u116, u117, u118, u119, u120, u121, u122, u123, u124, u125, u126, u127, u128, u129, u130, u131, u132, u133, u134, u135, u136, u137, u138, u139, u140, u141, u142, u143, u144, u145, u146, u147, u148, u149, u150, u151, u152, u153, u154, u155, u156, u157, u158, u159, u160, u161, u162, u163], []⟩ w := by
  conv => arg 2; whnf
  have H := hid h
  have V := hid hV
  have HE := hid he.symm
  have IN := hid hi'
  have FW := hid hf
  clear h hV he hi' hf
  go_wp2_with fail
  refine wp_region_rgT (m := 8) [.val (mV y rv vv bv), .val (.int .i64 e), .val (.int .i64 e), .val (.bool true), .val (.bool true), .val (.bool true), .val (.bool true), .val (.bool true)] (by kernel_rfl) rfl (by kernel_rfl) ?_ ?_
  · refine RgSteps.cons (fun a w hS hsz hout hd K hK => ?_) ?_
    · rw [if_pos (by rfl)]
      have e7 : a.eval (.tmp 7) = .pointer (some ⟨pm, 0, none⟩) := hout 7 (by kernel_rfl)
      exact rg_load 28 (.tmp 7) rfl ⟨pm, 0, none⟩ (mV y rv vv bv) e7 ((H.out.step hS).bm.mb) (hK.out _ _ rfl (Only.refl _ _))
    refine RgSteps.cons (fun a w hS hsz hout hd K hK => ?_) ?_
    · rw [if_pos (by rfl)]
      have e157 : a.eval (.tmp 157) = mV y rv vv bv := hd 0 (by kernel_rfl)
      refine rg_call 11 _ _ #[mV y rv vv bv, .bool false, .int .i64 3] rfl (by kernel_rfl) (by simp [e157, eval_const]) ((HE.out ▸ check13_any y rv vv bv false 3 w (V.out.only0 (H.out.step hS).o) IN.out (H.out.step hS).pr.at FW.out).mono ?_)
      rintro e w2 ⟨rfl, o2⟩
      exact ⟨_, rfl, hK.out _ _ rfl o2⟩
    refine RgSteps.cons (fun a w hS hsz hout hd K hK => ?_) ?_
    · rw [if_pos (by rfl)]
      have e9 : a.eval (.tmp 9) = .pointer (some ⟨pw, 0, none⟩) := hout 9 (by kernel_rfl)
      exact rg_load 30 (.tmp 9) rfl ⟨pw, 0, none⟩ (.int .i64 e) e9 (lc_er ((H.out.step hS).bw.cell (i := 0) rfl)) (hK.out _ _ rfl (Only.refl _ _))
    refine RgSteps.cons (fun a w hS hsz hout hd K hK => ?_) ?_
    · rw [if_pos (by rfl)]
      have e158 : a.eval (.tmp 158) = .int .i64 e := hd 1 (by kernel_rfl)
      have e159 : a.eval (.tmp 159) = .int .i64 e := hd 2 (by kernel_rfl)
      refine rg_value (v := .bool true) ?_ (hK.out _ _ rfl (Only.refl _ _))
      clear hd hout hK hsz
      have ec : ∀ v, a.eval (.const v) = v := fun _ => rfl
      generalize a.eval = ev at *
      go_simp
      (try first | with_reducible rfl | go_num | decide)
    refine RgSteps.cons (fun a w hS hsz hout hd K hK => ?_) ?_
    · rw [if_pos (by rfl)]
      have e160 : a.eval (.tmp 160) = .bool true := hd 3 (by kernel_rfl)
      refine rg_value (v := .bool true) ?_ (hK.out _ _ rfl (Only.refl _ _))
      clear hd hout hK hsz
      have ec : ∀ v, a.eval (.const v) = v := fun _ => rfl
      generalize a.eval = ev at *
      go_simp
      (try first | with_reducible rfl | go_num | decide)
    refine RgSteps.cons (fun a w hS hsz hout hd K hK => ?_) ?_
    · rw [if_pos (by rw [Region.wanted]; simp only []; rw [yielded_at (j := 4) (t := 161) (b := true) rfl (hd 4 (by kernel_rfl))]; decide)]
      refine rg_call 14 _ _ #[] rfl (by kernel_rfl) (by simp [eval_const]) ((awake13_any w (V.out.only0 (H.out.step hS).o)).mono ?_)
      rintro e w2 ⟨rfl, o2⟩
      exact ⟨_, rfl, hK.out _ _ rfl o2⟩
    refine RgSteps.cons (fun a w hS hsz hout hd K hK => ?_) ?_
    · rw [if_pos (by rfl)]
      have e161 : a.eval (.tmp 161) = .bool true := hd 4 (by kernel_rfl)
      have e162 : a.eval (.tmp 162) = .bool true := hd 5 (by kernel_rfl)
      refine rg_value (v := .bool true) ?_ (hK.out _ _ rfl (Only.refl _ _))
      clear hd hout hK hsz
      have ec : ∀ v, a.eval (.const v) = v := fun _ => rfl
      generalize a.eval = ev at *
      go_simp
      (try first | with_reducible rfl | go_num | decide)
    refine RgSteps.cons (fun a w hS hsz hout hd K hK => ?_) ?_
    · rw [if_pos (by rfl)]
      have e163 : a.eval (.tmp 163) = .bool true := hd 6 (by kernel_rfl)
      refine rg_value (v := .bool true) ?_ (hK.out _ _ rfl (Only.refl _ _))
      clear hd hout hK hsz
      have ec : ∀ v, a.eval (.const v) = v := fun _ => rfl
      generalize a.eval = ev at *
      go_simp
      (try first | with_reducible rfl | go_num | decide)
    exact RgSteps.nil _
  · intro a w hS hsz hdf hout hall
    have e6 : a.eval (.tmp 6) = .bool true := hall 7 rfl
    have OF := hid (H.out.step hS).o
    go_wp2_with fail
    refine bodyPost_ret (results_tmp rfl a.tmps _ _) hdf ?_
    exact ⟨congrArg Ending.returned e6, OF.out⟩
set_option maxRecDepth 1000000 in
set_option maxHeartbeats 8000000 in
theorem mbspoils_any (k c wh ix tn : Int) (w : World) (hV : MbV w) (k0 : 0 ≤ k) (k1 : k ≤ 255) (c0 : 0 ≤ c) (c1 : c ≤ 255) (n0 : -9223372036854775808 ≤ tn) (n1 : tn ≤ 9223372036854775807) :
    Calls Tryd.prog 6 #[.int .u8 k, .int .u8 c, .agg #[.int .i64 wh, .int .i64 ix, .int .i64 tn]] w fun e w' => e = .returned (.bool true) ∧ Only [] w w' := by
  go_enter Tryd.func6, Tryd.ntmps6
  generalize hq : (Code.seq _ _) = cc
  have hcc : cc = endWith 7 spB (dropSeq 7 spB) := by rw [← hq]; kernel_rfl
  rw [hcc]
  clear hq hcc
  refine sp_begin _ _ (fun _ _ _ _ _ h => h) k c wh ix tn w hV k0 k1 c0 c1 _ _ _ _ _ _ _ _ _ _ _ _ _ _ _ _ _ _ _ _ _ _ _ _ _ _ _ _ _ _ _ _ _ _ _ _ _ _ _ _ _ _ _ _ _ _ _ _ _ _ _ _ _ _ _ _ _ _ _ _ _ _ _ _ _ _ _ _ _ _ _ _ _ _ _ _ _ _ _ _ _ _ _ _ _ _ _ _ _ _ _ _ _ _ _ _ _ _ _ _ _ _ _ _ _ _ _ _ _ _ _ _ _ _ _ _ _ _ _ _ _ _ _ _ _ _ _ _ _ _ _ _ _ _ _ _ _ _ _ _ _ _ _ _ _ _ _ _ _ _ _ _ _ _ _ _ _ _ _ _ _ (fun y rv vv bv us w1 px pm pn pw lo hi v8 v14 v15 v16 v17 v18 v19 v20 v21 v22 v23 v24 v25 v26 v27 v28 v29 v30 v31 v32 v33 hy h => ?_)
  rw [show dropSeq 7 spB = endWith 1 (dropSeq 7 spB) (dropSeq 8 spB) from by kernel_rfl]
  have K0 : 0 ≤ k % 8 := by omega
  have K7 : k % 8 ≤ 7 := by omega
  have md := modI13_in wh 6 (by omega)
  have cs : modI13 wh 6 = 0 ∨ modI13 wh 6 = 1 ∨ modI13 wh 6 = 2 ∨ modI13 wh 6 = 3 ∨ modI13 wh 6 = 4 ∨ modI13 wh 6 = 5 := by omega
  rcases cs with hj | hj | hj | hj | hj | hj
  · refine sp_0 _ _ (fun _ _ _ _ _ h => h) (k % 8) c wh ix tn y w w1 px pm pn pw lo hi rv vv bv us K0 K7 c0 c1 n0 n1 hy h hj _ _ _ _ _ _ _ _ _ _ _ _ _ _ _ _ _ _ _ _ _ _ _ _ _ _ _ _ _ _ _ _ _ _ _ _ _ _ _ _ _ _ _ _ _ _ _ _ _ _ _ _ _ _ _ _ _ _ _ _ _ _ _ _ _ _ _ _ _ _ _ _ _ _ _ _ _ _ _ _ _ _ _ _ _ _ _ _ _ _ _ _ _ _ _ _ _ _ _ _ _ _ _ _ _ _ _ _ _ _ _ _ _ _ _ _ _ _ _ _ _ _ _ _ _ _ _ _ _ _ _ _ _ _ _ _ _ _ _ _ _ _ _ _ _ _ _ _ _ _ _ _ _ _ _ _ _ (fun w2 n' e' y'  v13 v34 v35 v36 v37 v38 v39 v40 v41 v42 v43 v44 v45 v46 v47 v48 v49 v50 v51 v52 v53 v54 v55 v56 v57 v58 v59 v60 v61 v62 v63 v64 v65 v66 v67 v68 v69 v70 v71 v72 v73 v74 v75 v76 v77 v78 v79 v80 v81 v82 v83 v84 v85 v86 v87 v88 v89 v90 v91 v92 v93 v94 v95 v96 v97 v98 v99 v100 v101 v102 v103 v104 v105 v106 v107 v108 v109 v110 v111 v112 v113 v114 v115 v116 v117 v118 v119 v120 v121 v122 v123 v124 v125 v126 v127 v128 v129 v130 v131 v132 v133 v134 v135 v136 v137 v138 v139 v140 v141 v142 v143 v144 v145 v146 v147 v148 v149 v150 v151 v152 v153 v154 v155 v156 h2 he hin hfe _ => ?_)
    exact sp_end w w2 px pm pn pw lo hi wh ix tn n' e' y' rv vv bv us hV h2 he hin hfe _ _ _ _ _ _ _ _ _ _ _ _ _ _ _ _ _ _ _ _ _ _ _ _ _ _ _ _ _ _ _ _ _ _ _ _ _ _ _ _ _ _ _ _ _ _ _ _ _ _ _ _ _ _ _ _ _ _ _ _ _ _ _ _ _ _ _ _ _ _ _ _ _ _ _ _ _ _ _ _ _ _ _ _ _ _ _ _ _ _ _ _ _ _ _ _ _ _ _ _ _ _ _ _ _ _ _ _ _ _ _ _ _ _ _ _ _ _ _ _ _ _ _ _ _ _ _ _ _ _ _ _ _ _ _ _ _ _ _ _ _ _ _ _ _ _ _ _ _ _ _ _ _ _ _ _ _ _ _ _ _ _
  · refine sp_1 _ _ (fun _ _ _ _ _ h => h) (k % 8) c wh ix tn y w w1 px pm pn pw lo hi rv vv bv us K0 K7 c0 c1 n0 n1 hy h hj _ _ _ _ _ _ _ _ _ _ _ _ _ _ _ _ _ _ _ _ _ _ _ _ _ _ _ _ _ _ _ _ _ _ _ _ _ _ _ _ _ _ _ _ _ _ _ _ _ _ _ _ _ _ _ _ _ _ _ _ _ _ _ _ _ _ _ _ _ _ _ _ _ _ _ _ _ _ _ _ _ _ _ _ _ _ _ _ _ _ _ _ _ _ _ _ _ _ _ _ _ _ _ _ _ _ _ _ _ _ _ _ _ _ _ _ _ _ _ _ _ _ _ _ _ _ _ _ _ _ _ _ _ _ _ _ _ _ _ _ _ _ _ _ _ _ _ _ _ _ _ _ _ _ _ _ _ (fun w2 n' e' y'  v13 v34 v35 v36 v37 v38 v39 v40 v41 v42 v43 v44 v45 v46 v47 v48 v49 v50 v51 v52 v53 v54 v55 v56 v57 v58 v59 v60 v61 v62 v63 v64 v65 v66 v67 v68 v69 v70 v71 v72 v73 v74 v75 v76 v77 v78 v79 v80 v81 v82 v83 v84 v85 v86 v87 v88 v89 v90 v91 v92 v93 v94 v95 v96 v97 v98 v99 v100 v101 v102 v103 v104 v105 v106 v107 v108 v109 v110 v111 v112 v113 v114 v115 v116 v117 v118 v119 v120 v121 v122 v123 v124 v125 v126 v127 v128 v129 v130 v131 v132 v133 v134 v135 v136 v137 v138 v139 v140 v141 v142 v143 v144 v145 v146 v147 v148 v149 v150 v151 v152 v153 v154 v155 v156 h2 he hin hfe _ => ?_)
    exact sp_end w w2 px pm pn pw lo hi wh ix tn n' e' y' rv vv bv us hV h2 he hin hfe _ _ _ _ _ _ _ _ _ _ _ _ _ _ _ _ _ _ _ _ _ _ _ _ _ _ _ _ _ _ _ _ _ _ _ _ _ _ _ _ _ _ _ _ _ _ _ _ _ _ _ _ _ _ _ _ _ _ _ _ _ _ _ _ _ _ _ _ _ _ _ _ _ _ _ _ _ _ _ _ _ _ _ _ _ _ _ _ _ _ _ _ _ _ _ _ _ _ _ _ _ _ _ _ _ _ _ _ _ _ _ _ _ _ _ _ _ _ _ _ _ _ _ _ _ _ _ _ _ _ _ _ _ _ _ _ _ _ _ _ _ _ _ _ _ _ _ _ _ _ _ _ _ _ _ _ _ _ _ _ _ _
  · refine sp_2 _ _ (fun _ _ _ _ _ h => h) (k % 8) c wh ix tn y w w1 px pm pn pw lo hi rv vv bv us K0 K7 c0 c1 n0 n1 hy h hj _ _ _ _ _ _ _ _ _ _ _ _ _ _ _ _ _ _ _ _ _ _ _ _ _ _ _ _ _ _ _ _ _ _ _ _ _ _ _ _ _ _ _ _ _ _ _ _ _ _ _ _ _ _ _ _ _ _ _ _ _ _ _ _ _ _ _ _ _ _ _ _ _ _ _ _ _ _ _ _ _ _ _ _ _ _ _ _ _ _ _ _ _ _ _ _ _ _ _ _ _ _ _ _ _ _ _ _ _ _ _ _ _ _ _ _ _ _ _ _ _ _ _ _ _ _ _ _ _ _ _ _ _ _ _ _ _ _ _ _ _ _ _ _ _ _ _ _ _ _ _ _ _ _ _ _ _ (fun w2 n' e' y' rv' vv' v13 v34 v35 v36 v37 v38 v39 v40 v41 v42 v43 v44 v45 v46 v47 v48 v49 v50 v51 v52 v53 v54 v55 v56 v57 v58 v59 v60 v61 v62 v63 v64 v65 v66 v67 v68 v69 v70 v71 v72 v73 v74 v75 v76 v77 v78 v79 v80 v81 v82 v83 v84 v85 v86 v87 v88 v89 v90 v91 v92 v93 v94 v95 v96 v97 v98 v99 v100 v101 v102 v103 v104 v105 v106 v107 v108 v109 v110 v111 v112 v113 v114 v115 v116 v117 v118 v119 v120 v121 v122 v123 v124 v125 v126 v127 v128 v129 v130 v131 v132 v133 v134 v135 v136 v137 v138 v139 v140 v141 v142 v143 v144 v145 v146 v147 v148 v149 v150 v151 v152 v153 v154 v155 v156 h2 he hin hfe _ => ?_)
    exact sp_end w w2 px pm pn pw lo hi wh ix tn n' e' y' rv' vv' bv us hV h2 he hin hfe _ _ _ _ _ _ _ _ _ _ _ _ _ _ _ _ _ _ _ _ _ _ _ _ _ _ _ _ _ _ _ _ _ _ _ _ _ _ _ _ _ _ _ _ _ _ _ _ _ _ _ _ _ _ _ _ _ _ _ _ _ _ _ _ _ _ _ _ _ _ _ _ _ _ _ _ _ _ _ _ _ _ _ _ _ _ _ _ _ _ _ _ _ _ _ _ _ _ _ _ _ _ _ _ _ _ _ _ _ _ _ _ _ _ _ _ _ _ _ _ _ _ _ _ _ _ _ _ _ _ _ _ _ _ _ _ _ _ _ _ _ _ _ _ _ _ _ _ _ _ _ _ _ _ _ _ _ _ _ _ _ _
  · refine sp_3 _ _ (fun _ _ _ _ _ h => h) (k % 8) c wh ix tn y w w1 px pm pn pw lo hi rv vv bv us K0 K7 c0 c1 n0 n1 hy h hj _ _ _ _ _ _ _ _ _ _ _ _ _ _ _ _ _ _ _ _ _ _ _ _ _ _ _ _ _ _ _ _ _ _ _ _ _ _ _ _ _ _ _ _ _ _ _ _ _ _ _ _ _ _ _ _ _ _ _ _ _ _ _ _ _ _ _ _ _ _ _ _ _ _ _ _ _ _ _ _ _ _ _ _ _ _ _ _ _ _ _ _ _ _ _ _ _ _ _ _ _ _ _ _ _ _ _ _ _ _ _ _ _ _ _ _ _ _ _ _ _ _ _ _ _ _ _ _ _ _ _ _ _ _ _ _ _ _ _ _ _ _ _ _ _ _ _ _ _ _ _ _ _ _ _ _ _ (fun w2 n' e' y' rv' vv' v13 v34 v35 v36 v37 v38 v39 v40 v41 v42 v43 v44 v45 v46 v47 v48 v49 v50 v51 v52 v53 v54 v55 v56 v57 v58 v59 v60 v61 v62 v63 v64 v65 v66 v67 v68 v69 v70 v71 v72 v73 v74 v75 v76 v77 v78 v79 v80 v81 v82 v83 v84 v85 v86 v87 v88 v89 v90 v91 v92 v93 v94 v95 v96 v97 v98 v99 v100 v101 v102 v103 v104 v105 v106 v107 v108 v109 v110 v111 v112 v113 v114 v115 v116 v117 v118 v119 v120 v121 v122 v123 v124 v125 v126 v127 v128 v129 v130 v131 v132 v133 v134 v135 v136 v137 v138 v139 v140 v141 v142 v143 v144 v145 v146 v147 v148 v149 v150 v151 v152 v153 v154 v155 v156 h2 he hin hfe _ => ?_)
    exact sp_end w w2 px pm pn pw lo hi wh ix tn n' e' y' rv' vv' bv us hV h2 he hin hfe _ _ _ _ _ _ _ _ _ _ _ _ _ _ _ _ _ _ _ _ _ _ _ _ _ _ _ _ _ _ _ _ _ _ _ _ _ _ _ _ _ _ _ _ _ _ _ _ _ _ _ _ _ _ _ _ _ _ _ _ _ _ _ _ _ _ _ _ _ _ _ _ _ _ _ _ _ _ _ _ _ _ _ _ _ _ _ _ _ _ _ _ _ _ _ _ _ _ _ _ _ _ _ _ _ _ _ _ _ _ _ _ _ _ _ _ _ _ _ _ _ _ _ _ _ _ _ _ _ _ _ _ _ _ _ _ _ _ _ _ _ _ _ _ _ _ _ _ _ _ _ _ _ _ _ _ _ _ _ _ _ _
  · refine sp_4 _ _ (fun _ _ _ _ _ h => h) (k % 8) c wh ix tn y w w1 px pm pn pw lo hi rv vv bv us K0 K7 c0 c1 n0 n1 hy h hj _ _ _ _ _ _ _ _ _ _ _ _ _ _ _ _ _ _ _ _ _ _ _ _ _ _ _ _ _ _ _ _ _ _ _ _ _ _ _ _ _ _ _ _ _ _ _ _ _ _ _ _ _ _ _ _ _ _ _ _ _ _ _ _ _ _ _ _ _ _ _ _ _ _ _ _ _ _ _ _ _ _ _ _ _ _ _ _ _ _ _ _ _ _ _ _ _ _ _ _ _ _ _ _ _ _ _ _ _ _ _ _ _ _ _ _ _ _ _ _ _ _ _ _ _ _ _ _ _ _ _ _ _ _ _ _ _ _ _ _ _ _ _ _ _ _ _ _ _ _ _ _ _ _ _ _ _ (fun w2 n' e' y' bv' v13 v34 v35 v36 v37 v38 v39 v40 v41 v42 v43 v44 v45 v46 v47 v48 v49 v50 v51 v52 v53 v54 v55 v56 v57 v58 v59 v60 v61 v62 v63 v64 v65 v66 v67 v68 v69 v70 v71 v72 v73 v74 v75 v76 v77 v78 v79 v80 v81 v82 v83 v84 v85 v86 v87 v88 v89 v90 v91 v92 v93 v94 v95 v96 v97 v98 v99 v100 v101 v102 v103 v104 v105 v106 v107 v108 v109 v110 v111 v112 v113 v114 v115 v116 v117 v118 v119 v120 v121 v122 v123 v124 v125 v126 v127 v128 v129 v130 v131 v132 v133 v134 v135 v136 v137 v138 v139 v140 v141 v142 v143 v144 v145 v146 v147 v148 v149 v150 v151 v152 v153 v154 v155 v156 h2 he hin hfe _ => ?_)
    exact sp_end w w2 px pm pn pw lo hi wh ix tn n' e' y' rv vv bv' us hV h2 he hin hfe _ _ _ _ _ _ _ _ _ _ _ _ _ _ _ _ _ _ _ _ _ _ _ _ _ _ _ _ _ _ _ _ _ _ _ _ _ _ _ _ _ _ _ _ _ _ _ _ _ _ _ _ _ _ _ _ _ _ _ _ _ _ _ _ _ _ _ _ _ _ _ _ _ _ _ _ _ _ _ _ _ _ _ _ _ _ _ _ _ _ _ _ _ _ _ _ _ _ _ _ _ _ _ _ _ _ _ _ _ _ _ _ _ _ _ _ _ _ _ _ _ _ _ _ _ _ _ _ _ _ _ _ _ _ _ _ _ _ _ _ _ _ _ _ _ _ _ _ _ _ _ _ _ _ _ _ _ _ _ _ _ _
  · refine sp_5 _ _ (fun _ _ _ _ _ h => h) (k % 8) c wh ix tn y w w1 px pm pn pw lo hi rv vv bv us K0 K7 c0 c1 n0 n1 hy h hj _ _ _ _ _ _ _ _ _ _ _ _ _ _ _ _ _ _ _ _ _ _ _ _ _ _ _ _ _ _ _ _ _ _ _ _ _ _ _ _ _ _ _ _ _ _ _ _ _ _ _ _ _ _ _ _ _ _ _ _ _ _ _ _ _ _ _ _ _ _ _ _ _ _ _ _ _ _ _ _ _ _ _ _ _ _ _ _ _ _ _ _ _ _ _ _ _ _ _ _ _ _ _ _ _ _ _ _ _ _ _ _ _ _ _ _ _ _ _ _ _ _ _ _ _ _ _ _ _ _ _ _ _ _ _ _ _ _ _ _ _ _ _ _ _ _ _ _ _ _ _ _ _ _ _ _ _ (fun w2 n' e' y'  v13 v34 v35 v36 v37 v38 v39 v40 v41 v42 v43 v44 v45 v46 v47 v48 v49 v50 v51 v52 v53 v54 v55 v56 v57 v58 v59 v60 v61 v62 v63 v64 v65 v66 v67 v68 v69 v70 v71 v72 v73 v74 v75 v76 v77 v78 v79 v80 v81 v82 v83 v84 v85 v86 v87 v88 v89 v90 v91 v92 v93 v94 v95 v96 v97 v98 v99 v100 v101 v102 v103 v104 v105 v106 v107 v108 v109 v110 v111 v112 v113 v114 v115 v116 v117 v118 v119 v120 v121 v122 v123 v124 v125 v126 v127 v128 v129 v130 v131 v132 v133 v134 v135 v136 v137 v138 v139 v140 v141 v142 v143 v144 v145 v146 v147 v148 v149 v150 v151 v152 v153 v154 v155 v156 h2 he hin hfe _ => ?_)
    exact sp_end w w2 px pm pn pw lo hi wh ix tn n' e' y' rv vv bv us hV h2 he hin hfe _ _ _ _ _ _ _ _ _ _ _ _ _ _ _ _ _ _ _ _ _ _ _ _ _ _ _ _ _ _ _ _ _ _ _ _ _ _ _ _ _ _ _ _ _ _ _ _ _ _ _ _ _ _ _ _ _ _ _ _ _ _ _ _ _ _ _ _ _ _ _ _ _ _ _ _ _ _ _ _ _ _ _ _ _ _ _ _ _ _ _ _ _ _ _ _ _ _ _ _ _ _ _ _ _ _ _ _ _ _ _ _ _ _ _ _ _ _ _ _ _ _ _ _ _ _ _ _ _ _ _ _ _ _ _ _ _ _ _ _ _ _ _ _ _ _ _ _ _ _ _ _ _ _ _ _ _ _ _ _ _ _
end Go.Proofs.YtpmmnjeomdjakaaDoor

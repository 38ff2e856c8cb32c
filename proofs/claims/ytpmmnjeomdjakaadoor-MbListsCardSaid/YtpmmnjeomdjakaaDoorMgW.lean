/- MbLists, whole. -/
import Derived.Test.YtpmmnjeomdjakaaDoorMgU
namespace Go.Proofs.YtpmmnjeomdjakaaDoor
open Go.RowKit
set_option linter.unusedVariables false
set_option linter.unusedSimpArgs false

set_option maxRecDepth 1000000 in
set_option maxHeartbeats 8000000 in
theorem mblists_any (k c tn : Int) (w : World) (hV : MbV w) (k0 : 0 ≤ k) (k1 : k ≤ 255) (c0 : 0 ≤ c) (c1 : c ≤ 255) (n0 : -9223372036854775808 ≤ tn) (n1 : tn ≤ 9223372036854775807) :
    Calls Tryd.prog 7 #[.int .u8 k, .int .u8 c, .int .i64 tn] w fun e w' => e = .returned (.bool true) ∧ Only [] w w' := by
  go_enter Tryd.func7, Tryd.ntmps7
  generalize hq : (Code.seq _ _) = cc
  have hcc : cc = endWith 4 liB (dropSeq 4 liB) := by rw [← hq]; kernel_rfl
  rw [hcc]
  clear hq hcc
  refine li_begin _ _ k c tn w hV k0 k1 c0 c1 _ _ _ _ _ _ _ _ _ _ _ _ _ _ _ _ _ _ _ _ _ _ _ _ _ _ _ _ _ _ _ _ _ _ _ _ _ _ _ _ _ _ _ _ _ _ _ _ _ _ _ _ _ _ _ _ _ _ _ _ _ _ _ _ _ _ _ _ _ _ _ _ _ _ _ _ _ _ _ _ _ _ _ _ _ _ _ _ _ _ _ _ _ _ _ _ _ _ _ _ _ _ _ _ _ _ _ _ _ _ _ _ _ _ _ _ _ _ _ _ _ _ _ _ _ _ _ _ _ _ _ _ _ _ _ _ _ _ _ _ _ _ _ _ _ _ _ _ _ _ _ _ _ _ _ _ _ _ _ _ _ _ _ _ _ _ _ _ _ _ _ _ _ _ _ _ _ _ _ _ _ _ _ _ _ (fun P rv vv bv L la n lc w1 pm v20 v21 v22 v23 v24 v25 v26 v27 v28 v29 v30 v31 v32 v33 v34 v35 v36 v37 v38 v39 v40 v41 v42 v43 v44 v45 v46 v47 v48 v49 v50 hP lp hn h => ?_)
  have K0 : 0 ≤ k % 8 := by omega
  have K7 : k % 8 ≤ 7 := by omega
  have hf : MFew P := by rw [hP]; exact pl_few _ _
  have hi : MIn P := by rw [hP]; exact pl_in _ _ K0 K7 c0 c1
  have V1 := hV.only0 h.o
  rw [show dropSeq 4 liB = endWith 1 (dropSeq 4 liB) (dropSeq 5 liB) from by kernel_rfl]
  refine li_loop _ _ (fun _ _ _ _ _ h => h) P pm n lc la rv vv bv L w w1 V1 lp hi hf hn h _ _ _ _ _ _ _ _ _ _ _ _ _ _ _ _ _ _ _ _ _ _ _ _ _ _ _ _ _ _ _ _ _ _ _ _ _ _ _ _ _ _ _ _ _ _ _ _ _ _ _ _ _ _ _ _ _ _ _ _ _ _ _ _ _ _ _ _ _ _ _ _ _ _ _ _ _ _ _ _ _ _ _ _ _ _ _ _ _ _ _ _ _ _ _ _ _ _ _ _ _ _ _ _ _ _ _ _ _ _ _ _ _ _ _ _ _ _ _ _ _ _ _ _ _ _ _ _ _ _ _ _ _ _ _ _ _ _ _ _ _ _ _ _ _ _ _ _ _ _ _ _ _ _ _ _ _ _ _ _ _ _ _ _ _ _ _ _ _ _ _ _ _ _ _ _ _ _ _ _ _ _ _ _ _ _ (fun w2 v6 v9 v10 v11 v12 v13 v14 v51 v52 v53 v54 v55 v56 v57 v58 v59 v60 v61 v62 v63 v64 v65 v66 v67 v68 v69 v70 v71 v72 v73 v74 v75 v76 v77 v78 v79 v80 v81 v82 v83 v84 v85 v86 v87 v88 v89 v90 v91 v92 v93 v94 v95 v96 v97 v98 v99 v100 v101 v102 v103 v104 v105 v106 v107 v108 v109 v110 v111 v112 v113 v114 v115 v116 v117 v118 o2 => ?_)
  rw [show dropSeq 5 liB = endWith 4 (dropSeq 5 liB) (dropSeq 9 liB) from by kernel_rfl]
  refine li_more _ _ (k % 8) c P pm rv vv bv (.slice la n lc) L w w2 (V1.only0 o2) K0 K7 c0 c1 hP lp (h.step o2) _ _ _ _ _ _ _ _ _ _ _ _ _ _ _ _ _ _ _ _ _ _ _ _ _ _ _ _ _ _ _ _ _ _ _ _ _ _ _ _ _ _ _ _ _ _ _ _ _ _ _ _ _ _ _ _ _ _ _ _ _ _ _ _ _ _ _ _ _ _ _ _ _ _ _ _ _ _ _ _ _ _ _ _ _ _ _ _ _ _ _ _ _ _ _ _ _ _ _ _ _ _ _ _ _ _ _ _ _ _ _ _ _ _ _ _ _ _ _ _ _ _ _ _ _ _ _ _ _ _ _ _ _ _ _ _ _ _ _ _ _ _ _ _ _ _ _ _ _ _ _ _ _ _ _ _ _ _ _ _ _ _ _ _ _ _ _ _ _ _ _ _ _ _ _ _ _ _ _ _ _ _ _ _ _ _ _ (fun w3 v6 v15 v119 v120 v121 v122 v123 v124 v125 v126 v127 v128 v129 v130 v131 v132 o3 => ?_)
  exact li_mid (k % 8) c tn P L la n lc pm rv vv bv w w3 ((V1.only0 o2).only0 o3) K0 K7 c0 c1 n0 n1 hP lp hn ((h.step o2).step o3) _ _ _ _ _ _ _ _ _ _ _ _ _ _ _ _ _ _ _ _ _ _ _ _ _ _ _ _ _ _ _ _ _ _ _ _ _ _ _ _ _ _ _ _ _ _ _ _ _ _ _ _ _ _ _ _ _ _ _ _ _ _ _ _ _ _ _ _ _ _ _ _ _ _ _ _ _ _ _ _ _ _ _ _ _ _ _ _ _ _ _ _ _ _ _ _ _ _ _ _ _ _ _ _ _ _ _ _ _ _ _ _ _ _ _ _ _ _ _ _ _ _ _ _ _ _ _ _ _ _ _ _ _ _ _ _ _ _ _ _ _ _ _ _ _ _ _ _ _ _ _ _ _ _ _ _ _ _ _ _ _ _ _ _ _ _ _ _ _ _ _ _ _ _ _ _ _ _ _ _ _ _ _ _ _
end Go.Proofs.YtpmmnjeomdjakaaDoor

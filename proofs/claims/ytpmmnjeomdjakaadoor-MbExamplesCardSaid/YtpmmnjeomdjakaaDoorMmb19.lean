/- awake of chapter 13: two copies. -/
/- awake of chapter 13. -/
/- The laws of chapter 13, for whatever comes in. -/
import Derived.Test.YtpmmnjeomdjakaaDoorMmb18
import Derived.Test.YtpmmnjeomdjakaaDoorMmb6
import Derived.Test.YtpmmnjeomdjakaaDoorMmb17
import Derived.ProofKit
import Derived.OpenShut
import Derived.ChangeSame
import Derived.Below
section
set_option maxRecDepth 20000
namespace Go.Proofs.YtpmmnjeomdjakaaDoor
open Go.RowKit
set_option linter.unusedVariables false
set_option linter.unusedSimpArgs false

theorem step_alloc {P : Program} {ops : Array Oper} {o : Oper} {a : Act} {w : World} {K : Act → World → Prop} {Q : Exit → Act → World → Prop} {E : Prop}
    (hg : Region.wanted o (yielded ops a.tmps) = true) (t : TypeId) (ho : o.op = .alloc t) (v : Value) (w' : World) (hr : (Instr.alloc t true (.tuple #[])).run P w = .ok v w')
    (hK : K (a.put o.dst v) w') : if Region.wanted o (yielded ops a.tmps) = true then Oper.wp P o a w K Q else E := by
  rw [if_pos hg]
  unfold Oper.wp execOp
  simp only [ho]
  simp [hr, Result.andThen]
  exact hK
theorem step_store {P : Program} {ops : Array Oper} {o : Oper} {a : Act} {w : World} {K : Act → World → Prop} {Q : Exit → Act → World → Prop} {E : Prop} (hg : Region.wanted o (yielded ops a.tmps) = true) (t : TypeId) (x y : Operand) (ho : o.op = .store t x y) (k : Nat) (T : TypeId) (A : Array Value) (cs : List Value)
    (hx : a.eval x = .pointer (some ⟨k, 0, none⟩)) (hy : a.eval y = .agg cs.toArray) (hi : (P.info? t).map (·.size) = some cs.length) (hB : Blk w k T A) (hl : cs.length = A.size) (h1 : ∀ v ∈ cs, v.oneCell' = true)
    (h : ∀ w', Blk w' k T cs.toArray → Only [k] w w' → K (a.put o.dst undef) w') : if Region.wanted o (yielded ops a.tmps) = true then Oper.wp P o a w K Q else E := by
  rw [if_pos hg]
  have h2 := h _ (by have := hB.sets cs 0 w A; rw [setsA_full hl] at this; exact this) (only_setCells cs 0 w)
  have hst := run_storeCells_cells (P := P) k 0 cs 0 w (fun j hj => Option.isSome_iff_exists.2 ⟨_, by simp only [Nat.zero_add]; exact hB.cell (Array.getElem?_eq_getElem (by omega))⟩) (fun j hj => hB.frozen _) h1
  unfold Oper.wp execOp
  cases hq : P.info? t with
  | none => simp [hq] at hi
  | some i =>
    have hs : cs.length = i.size := by simp [hq] at hi; omega
    simp only [ho, hx, hy, Instr.storeAt, Instr.sureAddr, Sem.run_bind, Sem.run_pure, Result.andThen_ok]
    simp [storeVar, sizeOf, typeInfo, hq, Value.cells, hs, hst, Result.andThen]
    exact h2
theorem run_allocM (w : World) : (Instr.alloc 28 true (.tuple #[])).run Tryd.prog w = .ok (.pointer (some ⟨w.heap.size, 0, none⟩)) (w.alloc (.cells (mC m0 N0 N0 N0).toArray 28)) := by kernel_rfl
set_option maxRecDepth 1000000 in
set_option maxHeartbeats 8000000 in
theorem aw_d (rest : Code) (Q : Exit → Act → World → Prop) (hQ : ∀ c (a : Act) d v w, Q (.panic c) (a.put (some d) v) w → Q (.panic c) a w) (O X : Nat) (w : World) (hB : Blk w X 28 (mC (oneM 0) (.slice (some ⟨O, 0, none⟩) 1 1) (.slice (some ⟨O + 1, 0, none⟩) 1 1) N0).toArray) (u0 u1 u2 u3 u4 u5 u6 u7 u8 u9 u10 u11 u13 u14 u15 u16 u17 u18 u19 u20 u21 u22 u23 u24 u25 u26 u27 u28 u29 u30 u31 u32 u33 u34 u35 u36 u37 u38 u39 u40 u41 u42 u43 u44 u45 u46 u47 u48 u49 u50 u51 u52 u53 u54 u55 u56 u57 u58 u59 u60 u61 u62 u63 u64 u65 u66 u67 u68 u69 u70 u71 u72 u73 u74 u75 u76 u77 u78 u79 u80 u81 u82 u83 u84 u85 u86 u87 u88 u89 u90 u91 u92 u93 u94 u95 u96 u97 u98 u99 u100 u101 u102 u103 u104 u105 u106 u107 u108 u109 u110 u111 u112 u113 u114 u115 u116 u117 u118 u119 u120 u121 u122 u123 u124 u125 u126 u127 u128 u129 u130 u131 u132 u133 u134 u135 u136 u137 u138 u139 u140 u141 u142 u143 u144 u145 u146 : Value)
    (hr : ∀ (w' : World) (M L : Nat) (v125 v126 : Value), Only [] w w' → Blk w' M 28 (mC (oneM 0) (.slice (some ⟨O, 0, none⟩) 1 1) (.slice (some ⟨O + 1, 0, none⟩) 1 1) N0).toArray → Blk w' L 28 (mC (oneM 0) (.slice (some ⟨O, 0, none⟩) 1 1) (.slice (some ⟨O + 1, 0, none⟩) 1 1) N0).toArray → w.heap.size ≤ M → w.heap.size ≤ L → M ≠ L → rest.wp Tryd.prog Q ⟨#[u0, u1, u2, u3, u4, u5, u6, u7, u8, u9, u10, u11, .pointer (some ⟨X, 0, none⟩), .pointer (some ⟨M, 0, none⟩), .pointer (some ⟨L, 0, none⟩), u15, u16, u17, u18, u19, u20, u21, u22, u23, u24, u25, u26, u27, u28, u29, u30, u31, u32, u33, u34, u35, u36, u37, u38, u39, u40, u41, u42, u43, u44, u45, u46, u47, u48, u49, u50, u51, u52, u53, u54, u55, u56, u57, u58, u59, u60, u61, u62, u63, u64, u65, u66, u67, u68, u69, u70, u71, u72, u73, u74, u75, u76, u77, u78, u79, u80, u81, u82, u83, u84, u85, u86, u87, u88, u89, u90, u91, u92, u93, u94, u95, u96, u97, u98, u99, u100, u101, u102, u103, u104, u105, u106, u107, u108, u109, u110, u111, u112, u113, u114, u115, u116, u117, u118, u119, u120, u121, u122, u123, u124, v125, v126, u127, u128, u129, u130, u131, u132, u133, u134, u135, u136, u137, u138, u139, u140, u141, u142, u143, u144, u145, u146], []⟩ w') :
    (endWith 1 (dropSeq 11 aw13B) rest).wp Tryd.prog Q ⟨#[u0, u1, u2, u3, u4, u5, u6, u7, u8, u9, u10, u11, .pointer (some ⟨X, 0, none⟩), u13, u14, u15, u16, u17, u18, u19, u20, u21, u22, u23, u24, u25, u26, u27, u28, u29, u30, u31, u32, u33, u34, u35, u36, u37, u38, u39, u40, u41, u42, u43, u44, u45, u46, u47, u48, u49, u50, u51, u52, u53, u54, u55, u56, u57, u58, u59, u60, u61, u62, u63, u64, u65, u66, u67, u68, u69, u70, u71, u72, u73, u74, u75, u76, u77, u78, u79, u80, u81, u82, u83, u84, u85, u86, u87, u88, u89, u90, u91, u92, u93, u94, u95, u96, u97, u98, u99, u100, u101, u102, u103, u104, u105, u106, u107, u108, u109, u110, u111, u112, u113, u114, u115, u116, u117, u118, u119, u120, u121, u122, u123, u124, u125, u126, u127, u128, u129, u130, u131, u132, u133, u134, u135, u136, u137, u138, u139, u140, u141, u142, u143, u144, u145, u146], []⟩ w := by
  conv => arg 2; whnf; arg 2; whnf
  have HR := hid hr
  clear hr
  have LD := hid (fun w' (o : Only [] w w') => hB.only o (by simp))
  clear hB
  go_upto_region 14 with fail
  refine wp_region_heldH (fun w' => Only [] w w') 6 (by kernel_rfl) rfl (Only.refl [] w).drew (fun hS => ?_)
  generalize w.drew = wd at *
  refine wpAnyH_read 0 rfl (by kernel_rfl) (by kernel_rfl) (by kernel_rfl) (fun _ _ _ h => hQ _ _ _ _ _ h) hS (yields_load 28 _ (by rfl) rfl ⟨X, 0, none⟩ (mC (oneM 0) (.slice (some ⟨O, 0, none⟩) 1 1) (.slice (some ⟨O + 1, 0, none⟩) 1 1) N0) rfl (fun w' o => (LD.out w' o).mb)) ?_
  (try simp only [Act.put, List.setIfInBounds_toArray, List.set_cons_zero, List.set_cons_succ])
  refine wpAnyH_read 1 rfl (by kernel_rfl) (by kernel_rfl) (by kernel_rfl) (fun _ _ _ h => hQ _ _ _ _ _ h) hS (yields_load 28 _ (by rfl) rfl ⟨X, 0, none⟩ (mC (oneM 0) (.slice (some ⟨O, 0, none⟩) 1 1) (.slice (some ⟨O + 1, 0, none⟩) 1 1) N0) rfl (fun w' o => (LD.out w' o).mb)) ?_
  (try simp only [Act.put, List.setIfInBounds_toArray, List.set_cons_zero, List.set_cons_succ])
  refine wpAnyH_two 2 3 rfl rfl (by kernel_rfl) (fun J hJ => ?_) (fun J hJ => ?_)
  · refine step_alloc (by kernel_rfl) 28 rfl _ _ (run_allocM _) ?_
    refine hJ.out _ _ (hS.alloc _) ?_
    clear hJ J
    (try simp only [Act.put, List.setIfInBounds_toArray, List.set_cons_zero, List.set_cons_succ])
    refine wpAnyH_call 3 rfl (by kernel_rfl) (fun J hJ => ?_)
    refine step_alloc (by kernel_rfl) 28 rfl _ _ (run_allocM _) ?_
    refine hJ.out _ _ ((hS.alloc _).alloc _) ?_
    clear hJ J
    simp only [World.size_alloc]
    (try simp only [Act.put, List.setIfInBounds_toArray, List.set_cons_zero, List.set_cons_succ])
    refine wpAnyH_call 4 rfl (by kernel_rfl) (fun J hJ => ?_)
    refine step_store (by kernel_rfl) 28 (.tmp 13) (.tmp 125) rfl (wd.heap.size) _ _ (mC (oneM 0) (.slice (some ⟨O, 0, none⟩) 1 1) (.slice (some ⟨O + 1, 0, none⟩) 1 1) N0) rfl rfl (info_mb' _ _ _ _) ((Blk.new wd _ _).only ((Only.refl [] _).alloc _) (by simp)) (by simp [mC]) (one_mC _ rfl rfl rfl) (fun w4 hB4 hO4 => ?_)
    have s4 : Only [] w w4 := ((hS.alloc _).alloc _).trans2 hO4 (fun g hg => .inr (by have := hS.size; simp at hg; omega))
    refine hJ.out _ _ s4 ?_
    clear hJ J
    (try simp only [Act.put, List.setIfInBounds_toArray, List.set_cons_zero, List.set_cons_succ])
    refine wpAnyH_call 5 rfl (by kernel_rfl) (fun J hJ => ?_)
    refine step_store (by kernel_rfl) 28 (.tmp 14) (.tmp 126) rfl (wd.heap.size + 1) _ _ (mC (oneM 0) (.slice (some ⟨O, 0, none⟩) 1 1) (.slice (some ⟨O + 1, 0, none⟩) 1 1) N0) rfl rfl (info_mb' _ _ _ _) ((Blk.new2 wd _ _ _).only hO4 (by simp)) (by simp [mC]) (one_mC _ rfl rfl rfl) (fun w5 hB5 hO5 => ?_)
    have s5 : Only [] w w5 := s4.trans2 hO5 (fun g hg => .inr (by have := hS.size; simp at hg; omega))
    refine hJ.out _ _ s5 ?_
    clear hJ J
    (try simp only [Act.put, List.setIfInBounds_toArray, List.set_cons_zero, List.set_cons_succ])
    refine wpAnyH_done (by kernel_rfl) ?_ _
    have MM := hB4.only hO5 (by simp)
    have SZ := hS.size
    go_wp2_with fail
    exact HR.out w5 (wd.heap.size) (wd.heap.size + 1) _ _ s5 MM hB5 (by omega) (by omega) (by omega)
  · refine step_alloc (by kernel_rfl) 28 rfl _ _ (run_allocM _) ?_
    refine hJ.out _ _ (hS.alloc _) ?_
    clear hJ J
    (try simp only [Act.put, List.setIfInBounds_toArray, List.set_cons_zero, List.set_cons_succ])
    refine wpAnyH_call 2 rfl (by kernel_rfl) (fun J hJ => ?_)
    refine step_alloc (by kernel_rfl) 28 rfl _ _ (run_allocM _) ?_
    refine hJ.out _ _ ((hS.alloc _).alloc _) ?_
    clear hJ J
    simp only [World.size_alloc]
    (try simp only [Act.put, List.setIfInBounds_toArray, List.set_cons_zero, List.set_cons_succ])
    refine wpAnyH_call 4 rfl (by kernel_rfl) (fun J hJ => ?_)
    refine step_store (by kernel_rfl) 28 (.tmp 13) (.tmp 125) rfl (wd.heap.size + 1) _ _ (mC (oneM 0) (.slice (some ⟨O, 0, none⟩) 1 1) (.slice (some ⟨O + 1, 0, none⟩) 1 1) N0) rfl rfl (info_mb' _ _ _ _) (Blk.new2 wd _ _ _) (by simp [mC]) (one_mC _ rfl rfl rfl) (fun w4 hB4 hO4 => ?_)
    have s4 : Only [] w w4 := ((hS.alloc _).alloc _).trans2 hO4 (fun g hg => .inr (by have := hS.size; simp at hg; omega))
    refine hJ.out _ _ s4 ?_
    clear hJ J
    (try simp only [Act.put, List.setIfInBounds_toArray, List.set_cons_zero, List.set_cons_succ])
    refine wpAnyH_call 5 rfl (by kernel_rfl) (fun J hJ => ?_)
    refine step_store (by kernel_rfl) 28 (.tmp 14) (.tmp 126) rfl (wd.heap.size) _ _ (mC (oneM 0) (.slice (some ⟨O, 0, none⟩) 1 1) (.slice (some ⟨O + 1, 0, none⟩) 1 1) N0) rfl rfl (info_mb' _ _ _ _) (((Blk.new wd _ _).only ((Only.refl [] _).alloc _) (by simp)).only hO4 (by simp)) (by simp [mC]) (one_mC _ rfl rfl rfl) (fun w5 hB5 hO5 => ?_)
    have s5 : Only [] w w5 := s4.trans2 hO5 (fun g hg => .inr (by have := hS.size; simp at hg; omega))
    refine hJ.out _ _ s5 ?_
    clear hJ J
    (try simp only [Act.put, List.setIfInBounds_toArray, List.set_cons_zero, List.set_cons_succ])
    refine wpAnyH_done (by kernel_rfl) ?_ _
    have MM := hB4.only hO5 (by simp)
    have SZ := hS.size
    go_wp2_with fail
    exact HR.out w5 (wd.heap.size + 1) (wd.heap.size) _ _ s5 MM hB5 (by omega) (by omega) (by omega)
end Go.Proofs.YtpmmnjeomdjakaaDoor

end
section
set_option maxRecDepth 20000
namespace Go.Proofs.YtpmmnjeomdjakaaDoor
open Go.RowKit
set_option linter.unusedVariables false
set_option linter.unusedSimpArgs false

set_option maxRecDepth 1000000 in
set_option maxHeartbeats 8000000 in
theorem awake13_any : Awake13 := by
  intro w hV
  have V := hid (fun w' (o : Only [] w w') => hV.only0 o)
  clear hV
  go_enter Tryd.func14, Tryd.ntmps14
  generalize hq : (Code.seq _ _) = cc
  have hcc : cc = endWith 5 aw13B (dropSeq 5 aw13B) := by rw [← hq]; kernel_rfl
  rw [hcc]
  clear hq hcc
  refine aw_a _ _ (fun _ _ _ _ _ h => h) w (fun w' o => V.out w' o) _ _ _ _ _ _ _ _ _ _ _ _ _ _ _ _ _ _ _ _ _ _ _ _ _ _ _ _ _ _ _ _ _ _ _ _ _ _ _ _ _ _ _ _ _ _ _ _ _ _ _ _ _ _ _ _ _ _ _ _ _ _ _ _ _ _ _ _ _ _ _ _ _ _ _ _ _ _ _ _ _ _ _ _ _ _ _ _ _ _ _ _ _ _ _ _ _ _ _ _ _ _ _ _ _ _ _ _ _ _ _ _ _ _ _ _ _ _ _ _ _ _ _ _ _ _ _ _ _ _ _ _ _ _ _ _ _ _ _ _ _ _ _ _ _ _ _ (fun w1 v0 v1 v2 v3 v4 v15 v16 v17 v18 v19 v20 v21 v22 v23 v24 v25 v26 v27 v28 v29 v30 v31 v32 v33 v34 v35 v36 v37 v38 v39 v40 v41 v42 v43 v44 v45 v46 v47 v48 v49 v50 v51 v52 v53 v54 v55 v56 v57 v58 v59 v60 v61 o1 => ?_)
  rw [show dropSeq 5 aw13B = endWith 4 (dropSeq 5 aw13B) (dropSeq 9 aw13B) from by kernel_rfl]
  refine aw_b _ _ w1 (fun w' o => V.out w' (o1.trans o)) _ _ _ _ _ _ _ _ _ _ _ _ _ _ _ _ _ _ _ _ _ _ _ _ _ _ _ _ _ _ _ _ _ _ _ _ _ _ _ _ _ _ _ _ _ _ _ _ _ _ _ _ _ _ _ _ _ _ _ _ _ _ _ _ _ _ _ _ _ _ _ _ _ _ _ _ _ _ _ _ _ _ _ _ _ _ _ _ _ _ _ _ _ _ _ _ _ _ _ _ _ _ _ _ _ _ _ _ _ _ _ _ _ _ _ _ _ _ _ _ _ _ _ _ _ _ _ _ _ _ _ _ _ _ _ _ _ _ _ _ _ _ _ _ _ _ _ (fun w2 v5 v6 v7 v8 v9 v10 v62 v63 v64 v65 v66 v67 v68 v69 v70 v71 v72 v73 v74 v75 v76 v77 v78 v79 v80 v81 v82 v83 v84 v85 v86 v87 v88 v89 v90 v91 o2 => ?_)
  rw [show dropSeq 9 aw13B = endWith 2 (dropSeq 9 aw13B) (dropSeq 11 aw13B) from by kernel_rfl]
  refine aw_c _ _ w2 (fun w' o => V.out w' ((o1.trans o2).trans o)) _ _ _ _ _ _ _ _ _ _ _ _ _ _ _ _ _ _ _ _ _ _ _ _ _ _ _ _ _ _ _ _ _ _ _ _ _ _ _ _ _ _ _ _ _ _ _ _ _ _ _ _ _ _ _ _ _ _ _ _ _ _ _ _ _ _ _ _ _ _ _ _ _ _ _ _ _ _ _ _ _ _ _ _ _ _ _ _ _ _ _ _ _ _ _ _ _ _ _ _ _ _ _ _ _ _ _ _ _ _ _ _ _ _ _ _ _ _ _ _ _ _ _ _ _ _ _ _ _ _ _ _ _ _ _ _ _ _ _ _ _ _ _ _ _ _ _ (fun W w3 O X v11 v92 v93 v94 v95 v96 v97 v98 v99 v100 v101 v102 v103 v104 v105 v106 v107 v108 v109 v110 v111 v112 v113 v114 v115 v116 v117 v118 v119 v120 v121 v122 v123 v124 oW RM o3 bX => ?_)
  rw [show dropSeq 11 aw13B = endWith 1 (dropSeq 11 aw13B) (dropSeq 12 aw13B) from by kernel_rfl]
  refine aw_d _ _ (fun _ _ _ _ _ h => h) O X w3 bX _ _ _ _ _ _ _ _ _ _ _ _ _ _ _ _ _ _ _ _ _ _ _ _ _ _ _ _ _ _ _ _ _ _ _ _ _ _ _ _ _ _ _ _ _ _ _ _ _ _ _ _ _ _ _ _ _ _ _ _ _ _ _ _ _ _ _ _ _ _ _ _ _ _ _ _ _ _ _ _ _ _ _ _ _ _ _ _ _ _ _ _ _ _ _ _ _ _ _ _ _ _ _ _ _ _ _ _ _ _ _ _ _ _ _ _ _ _ _ _ _ _ _ _ _ _ _ _ _ _ _ _ _ _ _ _ _ _ _ _ _ _ _ _ _ _ (fun w4 M L v125 v126 o4 bM bL gM gL ne => ?_)
  have W4 := hid (show Only [] W w4 from o3.trans o4)
  have WW := hid (show Only [] w W from (o1.trans o2).trans oW)
  have MG := hid (show W.heap.size ≤ M ∧ W.heap.size ≤ L from ⟨Nat.le_trans o3.size gM, Nat.le_trans o3.size gL⟩)
  have RR := hid RM
  have cM := bM.cell (i := 26) (v := .int .i64 0) rfl
  have fM := bM.frozen 26
  have ne' : (L = M) = False := by simp; exact fun h => ne h.symm
  have o5 : Only [M] w4 (w4.setCell ⟨M, 26, none⟩ (.int .i64 1)) := (Only.refl _ _).setCell (.inl (by simp)) _
  have b5 : Blk (w4.setCell ⟨M, 26, none⟩ (.int .i64 1)) M 28 (mC (oneM 1) (.slice (some ⟨O, 0, none⟩) 1 1) (.slice (some ⟨O + 1, 0, none⟩) 1 1) N0).toArray := bM.set 26 _
  have l5 := bL.only o5 (by simp [ne'])
  have cL := l5.cell (i := 24) (v := (.slice (some ⟨O + 1, 0, none⟩) 1 1)) rfl
  have fL := l5.frozen 24
  have o6 : Only [L] (w4.setCell ⟨M, 26, none⟩ (.int .i64 1)) ((w4.setCell ⟨M, 26, none⟩ (.int .i64 1)).setCell ⟨L, 24, none⟩ N0) := (Only.refl _ _).setCell (.inl (by simp)) _
  have l6 : Blk ((w4.setCell ⟨M, 26, none⟩ (.int .i64 1)).setCell ⟨L, 24, none⟩ N0) L 28 (mC lessM (.slice (some ⟨O, 0, none⟩) 1 1) N0 N0).toArray := l5.set 24 _
  have b6 := b5.only o6 (by simp [ne])
  have o46 : Only [] W ((w4.setCell ⟨M, 26, none⟩ (.int .i64 1)).setCell ⟨L, 24, none⟩ N0) := (W4.out.trans2 o5 (fun g hg => .inr (by have := MG.out.1; simp at hg; omega))).trans2 o6 (fun g hg => .inr (by have := MG.out.2; simp at hg; omega))
  have OO := hid o46
  have B6 := hid b6
  have L6 := hid l6
  clear o1 o2 oW RM o3 bX o4 bM bL gM gL ne ne' o5 b5 l5 o6 l6 b6 o46
  conv => arg 2; whnf
  go_upto_region 16 with fail
  generalize (w4.setCell _ _).setCell _ _ = w6 at *
  clear cM fM cL fL
  have VV := hid (fun w' (o : Only [] w6 w') => V.out w' (WW.out.trans (OO.out.trans o)))
  have MC1 := hid (check13_any (oneM 1) (.slice (some ⟨O, 0, none⟩) 1 1) (.slice (some ⟨O + 1, 0, none⟩) 1 1) N0 false 2 w6 (VV.out _ (Only.refl _ _)) (one_in 1 (by decide)) (by have h := RR.out w6 OO.out; exact ⟨h.r, h.v, h.b⟩) (one_few 1))
  rw [show checkI (oneM 1) false 2 = 2 from by decide +kernel] at MC1
  have LC1 := hid (fun w' (o : Only [] w6 w') => check13_any lessM (.slice (some ⟨O, 0, none⟩) 1 1) N0 N0 false 2 w' (VV.out w' o) less_in (by have h := RR.out w' (OO.out.trans o); exact ⟨h.r, holdsG_none _, h.b⟩) less_few)
  rw [show checkI lessM false 2 = 2 from by decide +kernel] at LC1
  go_wp2_with (refine load_atG (by kernel_rfl) 28 (.tmp 13) rfl ⟨M, 0, none⟩ (mC (oneM 1) (.slice (some ⟨O, 0, none⟩) 1 1) (.slice (some ⟨O + 1, 0, none⟩) 1 1) N0) rfl (B6.out).mb ?_; simp only [Act.put, List.setIfInBounds_toArray, List.set_cons_zero, List.set_cons_succ])
  refine (MC1.out).mono ?_
  rintro e x1 ⟨rfl, o_⟩
  have S1 := hid (o_)
  clear o_
  have L7 := hid (L6.out.only S1.out (by simp))
  go_wp2_with (refine load_atG (by kernel_rfl) 28 (.tmp 14) rfl ⟨L, 0, none⟩ (mC lessM (.slice (some ⟨O, 0, none⟩) 1 1) N0 N0) rfl (L7.out).mb ?_; simp only [Act.put, List.setIfInBounds_toArray, List.set_cons_zero, List.set_cons_succ])
  refine (LC1.out _ S1.out).mono ?_
  rintro e x2 ⟨rfl, o_⟩
  have S2 := hid (S1.out.trans o_)
  clear o_
  go_wp2_with (refine wp_buildM (by kernel_rfl) 28 #[(7, .const (.int .u8 48))] rfl #[(7, .int .u8 48)] (by kernel_rfl) (mV (smallM (0, 0, 48)) N0 N0 N0) (bm_c _ _) ?_; simp only [Act.put, List.setIfInBounds_toArray, List.set_cons_zero, List.set_cons_succ])
  refine (check_lit 0 0 48 true 0 3 _ (VV.out _ S2.out) (by decide +kernel)).mono ?_
  rintro e x3 ⟨rfl, o_⟩
  have S3 := hid (S2.out.trans o_)
  clear o_
  go_wp2_with (refine wp_buildM (by kernel_rfl) 28 #[(0, .const (.int .u8 1))] rfl #[(0, .int .u8 1)] (by kernel_rfl) (mV (smallM (1, 0, 0)) N0 N0 N0) (bm_k _ _) ?_; simp only [Act.put, List.setIfInBounds_toArray, List.set_cons_zero, List.set_cons_succ])
  refine (check_lit 1 0 0 true 0 2 _ (VV.out _ S3.out) (by decide +kernel)).mono ?_
  rintro e x4 ⟨rfl, o_⟩
  have S4 := hid (S3.out.trans o_)
  clear o_
  go_wp2_with fail
  go_ret
  exact ⟨rfl, WW.out.trans (OO.out.trans S4.out)⟩
end Go.Proofs.YtpmmnjeomdjakaaDoor

end
section
set_option maxRecDepth 20000
namespace Go.Proofs.YtpmmnjeomdjakaaDoor
open Go.RowKit Go.ChangeShapes Go.WideShapes Go.ChangeAt
set_option linter.unusedVariables false

theorem mbChecks_core {H : Type} {enc : TypeId × Value → H} (W : World) (base : Nat) (hV : MbV W)
    (v0 : Value) (d0 : DataW H) (p0 : List MemPlace) (k0 : Value.okWide Tryd.prog W .any base 28 v0) (h0 : DataW.Trod enc Tryd.prog W 0 (fun _ => true) true 28 v0 d0 p0) (z0 : ∀ n ∈ d0.weights Tryd.prog 28, n ≤ reachBytes)
    (v1 : Value) (d1 : DataW H) (p1 : List MemPlace) (k1 : Value.okWide Tryd.prog W .any base 3 v1) (h1 : DataW.Trod enc Tryd.prog W 0 (fun _ => true) true 3 v1 d1 p1) :
    Calls Tryd.prog 3 #[v0, v1] W fun e w' => e = .returned (.bool true) ∧ Below W.heap.size W w' := by
  obtain ⟨y, rv, vv, bv, rfl, hm, hi, hp, hb⟩ := open_mbS k0 h0 z0
  obtain ⟨a, rfl, rfl, rfl, w1⟩ := open_int Tryd.underlying3 k1 h1
  exact (mbchecks_any awake13_any y rv vv bv a W hV hi hm hb hp).mono fun e w' ⟨he, ho⟩ => ⟨he, ho.below (Nat.le_refl _) (by simp)⟩
theorem mbWider_core {H : Type} {enc : TypeId × Value → H} (W : World) (base : Nat) (hV : MbV W)
    (v0 : Value) (d0 : DataW H) (p0 : List MemPlace) (k0 : Value.okWide Tryd.prog W .any base 28 v0) (h0 : DataW.Trod enc Tryd.prog W 0 (fun _ => true) true 28 v0 d0 p0) (z0 : ∀ n ∈ d0.weights Tryd.prog 28, n ≤ reachBytes)
    (v1 : Value) (d1 : DataW H) (p1 : List MemPlace) (k1 : Value.okWide Tryd.prog W .any base 3 v1) (h1 : DataW.Trod enc Tryd.prog W 0 (fun _ => true) true 3 v1 d1 p1)
    (v2 : Value) (d2 : DataW H) (p2 : List MemPlace) (k2 : Value.okWide Tryd.prog W .any base 3 v2) (h2 : DataW.Trod enc Tryd.prog W 0 (fun _ => true) true 3 v2 d2 p2) :
    Calls Tryd.prog 8 #[v0, v1, v2] W fun e w' => e = .returned (.bool true) ∧ Below W.heap.size W w' := by
  obtain ⟨y, rv, vv, bv, rfl, hm, hi, hp, hb⟩ := open_mbS k0 h0 z0
  obtain ⟨a, rfl, rfl, rfl, w1⟩ := open_int Tryd.underlying3 k1 h1
  obtain ⟨b, rfl, rfl, rfl, w2⟩ := open_int Tryd.underlying3 k2 h2
  exact (mbwider_any awake13_any y rv vv bv a b W hV hi hm hb hp).mono fun e w' ⟨he, ho⟩ => ⟨he, ho.below (Nat.le_refl _) (by simp)⟩
theorem mbEquals_core {H : Type} {enc : TypeId × Value → H} (W : World) (base : Nat) (hV : MbV W)
    (v0 : Value) (d0 : DataW H) (p0 : List MemPlace) (k0 : Value.okWide Tryd.prog W .any base 28 v0) (h0 : DataW.Trod enc Tryd.prog W 0 (fun _ => true) true 28 v0 d0 p0) (z0 : ∀ n ∈ d0.weights Tryd.prog 28, n ≤ reachBytes)
    (v1 : Value) (d1 : DataW H) (p1 : List MemPlace) (k1 : Value.okWide Tryd.prog W .any base 28 v1) (h1 : DataW.Trod enc Tryd.prog W 0 (fun _ => true) true 28 v1 d1 p1) (z1 : ∀ n ∈ d1.weights Tryd.prog 28, n ≤ reachBytes) :
    Calls Tryd.prog 4 #[v0, v1] W fun e w' => e = .returned (.bool true) ∧ Below W.heap.size W w' := by
  obtain ⟨y, r1, x1, b1, rfl, m1, i1, q1, l1⟩ := open_mbS k0 h0 z0
  obtain ⟨z, r2, x2, b2, rfl, m2, i2, q2, l2⟩ := open_mbS k1 h1 z1
  exact (mbequals_any awake13_any y z r1 x1 b1 r2 x2 b2 W hV m1 m2 l1 q1 l2 q2).mono fun e w' ⟨he, ho⟩ => ⟨he, ho.below (Nat.le_refl _) (by simp)⟩
end Go.Proofs.YtpmmnjeomdjakaaDoor

end

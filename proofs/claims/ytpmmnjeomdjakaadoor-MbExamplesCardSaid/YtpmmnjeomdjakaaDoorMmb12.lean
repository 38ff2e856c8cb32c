/- The reference's rest. -/
/- The reference's Check. -/
/- The reference's Check: all that may be wrong. -/
/- The reference's Check. -/
import Derived.Test.YtpmmnjeomdjakaaDoorMmb11
import Derived.Test.YtpmmnjeomdjakaaDoorQheld
section
set_option maxRecDepth 20000
namespace Go.Proofs.YtpmmnjeomdjakaaDoor
open Go.RowKit
set_option linter.unusedVariables false
set_option linter.unusedSimpArgs false

theorem empty_toList : ByteArray.empty.toList = [] := by rw [ByteArray.toList_eq]; rfl
theorem str_empty (a : ByteArray) : a.toList.isEmpty = decide (a = .empty) := by
  by_cases h : a = .empty
  · subst h; rw [empty_toList]; rfl
  · rw [decide_eq_false h]
    cases hl : a.toList with
    | nil => exact absurd (toListB_inj.1 (hl.trans empty_toList.symm)) h
    | cons x l => rfl
set_option maxRecDepth 1000000 in
set_option maxHeartbeats 8000000 in
theorem rrest_any (x : MV) (rv vv bv : Value) (w : World) (hx : MIn x) (hm : MAt w x rv vv bv) (hf : MFew x) :
    Calls Tryd.prog 42 #[mV x rv vv bv] w fun e w' => ∃ sv, e = .returned sv ∧ ColE w w' sv (restE x) := by
  have hmb := hm.b
  obtain ⟨vs, hv, hvl, _⟩ := id hm.b
  obtain ⟨ba, bc, hbv, _⟩ := id hv
  rw [hvl] at hbv
  subst hbv
  obtain ⟨out, hout⟩ : ∃ l, l = restE x := ⟨_, rfl⟩
  rw [← hout]
  have wl := blocksL_len x.kind.toNat x.cbp.toNat
  go_enter Tryd.func42, Tryd.ntmps42
  generalize hq : (Code.seq _ _) = cc
  have hcc : cc = endWith 3 reB (dropSeq 3 reB) := by rw [← hq]; kernel_rfl
  rw [hcc]
  clear hq hcc
  refine re_cbp _ _ x rv vv ba bc w hx _ _ _ _ _ _ _ _ _ _ _ _ _ _ _ _ _ _ _ _ _ _ _ _ _ _ _ _ _ _ _ _ _ _ _ _ _ _ _ _ _ _ _ _ _ _ _ _ _ _ _ _ _ _ _ _ _ _ _ _ _ _ _ _ _ _ _ _ _ _ _ _ _ _ _ _ _ _ _ _ _ _ _ _ _ _ _ _ _ _ _ _ _ _ _ _ _ _ _ _ _ _ _ _ _ _ _ _ _ _ _ _ _ _ _ _ _ _ _ _ _ _ _ _ _ _ _ _ _ _ _ _ _ _ _ _ _ _ _ _ _ _ _ _ _ _ _ _ _ _ _ _ _ _ _ _ (fun Z W1 s2 w2 v2 v9 v10 v11 v12 v13 v14 v15 v16 v17 v18 v19 v20 v21 v22 v23 v24 v25 v26 v27 v28 v29 v30 v31 v32 v33 v34 v35 v36 v37 v38 v39 v40 v41 v42 bX oW h2 => ?_)
  have L := hid (fun w' (o : Only [] W1 w') => bX.only o (by simp))
  rw [show dropSeq 3 reB = endWith 1 (dropSeq 3 reB) (dropSeq 4 reB) from by kernel_rfl]
  refine re_qp _ _ x rv vv ba bc Z _ _ W1 _ (by simp) h2 (fun w' o => L.out w' o) _ _ _ _ _ _ _ _ _ _ _ _ _ _ _ _ _ _ _ _ _ _ _ _ _ _ _ _ _ _ _ _ _ _ _ _ _ _ _ _ _ _ _ _ _ _ _ _ _ _ _ _ _ _ _ _ _ _ _ _ _ _ _ _ _ _ _ _ _ _ _ _ _ _ _ _ _ _ _ _ _ _ _ _ _ _ _ _ _ _ _ _ _ _ _ _ _ _ _ _ _ _ _ _ _ _ _ _ _ _ _ _ _ _ _ _ _ _ _ _ _ _ _ _ _ _ _ _ _ _ _ _ _ _ _ _ _ _ _ _ _ _ _ _ _ _ _ _ _ _ _ _ _ _ _ (fun s3 w3 v43 v44 v45 v46 v47 v48 v49 v50 v51 v52 v53 v54 v55 v56 v57 v58 v59 v60 v61 v62 v63 v64 v65 v66 v67 v68 v69 h3 => ?_)
  rw [show dropSeq 4 reB = endWith 2 (dropSeq 4 reB) (dropSeq 6 reB) from by kernel_rfl]
  refine re_which _ _ x rv vv ba bc Z _ _ W1 _ (by simp) h3 (fun w' o => L.out w' o) hx _ _ _ _ _ _ _ _ _ _ _ _ _ _ _ _ _ _ _ _ _ _ _ _ _ _ _ _ _ _ _ _ _ _ _ _ _ _ _ _ _ _ _ _ _ _ _ _ _ _ _ _ _ _ _ _ _ _ _ _ _ _ _ _ _ _ _ _ _ _ _ _ _ _ _ _ _ _ _ _ _ _ _ _ _ _ _ _ _ _ _ _ _ _ _ _ _ _ _ _ _ _ _ _ _ _ _ _ _ _ _ _ _ _ _ _ _ _ _ _ _ _ _ _ _ _ _ _ _ _ _ _ _ _ _ _ _ _ _ _ _ _ _ _ _ _ _ _ _ _ _ _ _ _ _ (fun s4 w4 w3' wa wc v70 v71 v72 v73 v74 v75 v76 v77 v78 v79 v80 v81 h3' hw nd h4 => ?_)
  rw [show dropSeq 6 reB = endWith 1 (dropSeq 6 reB) (dropSeq 7 reB) from by kernel_rfl]
  have ZS : Z ∉ ownG s3 := fun h => by have := h3.new Z h; have := bX.lt; omega
  refine re_blks _ _ x rv vv ba bc (whichL x) wa wc Z _ _ (ownG s3) w w3' _ (by simp) h4 (fun w' o => (L.out w3' h3'.only).only o ZS) (fun p v w' h o => ((oW.1.trans h3'.only).cell h (by simp) |> fun c => o.cell c (fun hg => by
    have h1 := h3.new p.block hg
    have h2 := World.block_lt_of_cell? _ _ h
    have := oW.1.size
    omega))) (fun w' o => hw.only o (fun a m c e => by cases e; exact nd a rfl)) hmb hf (fun c hc => blocksL_cat _ _ c hc) wl _ _ _ _ _ _ _ _ _ _ _ _ _ _ _ _ _ _ _ _ _ _ _ _ _ _ _ _ _ _ _ _ _ _ _ _ _ _ _ _ _ _ _ _ _ _ _ _ _ _ _ _ _ _ _ _ _ _ _ _ _ _ _ _ _ _ _ _ _ _ _ _ _ _ _ _ _ _ _ _ _ _ _ _ _ _ _ _ _ _ _ _ _ _ _ _ _ _ _ _ _ _ _ _ _ _ _ _ _ _ _ _ _ _ _ _ _ _ _ _ _ _ _ _ _ _ _ _ _ _ _ _ _ _ _ _ _ _ _ _ _ _ _ _ _ _ _ _ _ _ _ _ _ _ (fun s5 w5 v5 v6 v7 v8 v82 v83 v84 v85 v86 v87 v88 v89 v90 v91 v92 v93 v94 v95 v96 v97 v98 v99 v100 v101 v102 v103 v104 v105 v106 v107 v108 v109 v110 v111 v112 v113 v114 v115 v116 v117 v118 v119 v120 v121 v122 v123 v124 v125 v126 v127 v128 v129 v130 v131 v132 v133 v134 v135 v136 v137 v138 h5 => ?_)
  have XE := hid (L.out w3' h3'.only |>.only h5.only ZS)
  have PL := hid (show ([cbpE x] ++ [qpE x] ++ [absE (decide (x.blocks.length = (whichL x).length))] ++ blksE (whichL x) x.blocks).length + 1 ≤ 1000000 from by
    have := blksE_len x.blocks (whichL x) hf.i
    have := hf.b
    simp only [List.length_append, List.length_cons, List.length_nil]
    omega)
  have HO := hid (show out = [cbpE x] ++ [qpE x] ++ [absE (decide (x.blocks.length = (whichL x).length))] ++ blksE (whichL x) x.blocks ++ [pcmE x] from hout)
  have H0 := hid h3'
  have H5 := hid h5
  have OW := hid oW.1
  have c0 := XE.out.cell (i := 0) (v := .int .u8 x.kind) rfl
  have c28 := XE.out.cell (i := 28) (v := .string x.pcm) rfl
  clear h2 h3 h4 h5 bX oW L hx hm hmb hf hout h3' hw nd wl ZS
  generalize [cbpE x] ++ [qpE x] ++ [absE (decide (x.blocks.length = (whichL x).length))] ++ blksE (whichL x) x.blocks = pr at *
  by_cases h1 : x.kind = 2
  · have e1 : (x.kind == 2) = true := by simpa using h1
    have ME := hid (show absE ((x.pcm.size : Int) == 384) = pcmE x from by unfold pcmE; rw [if_pos h1]; rfl)
    clear h1
    conv => arg 2; whnf
    go_wp2_with fail
    refine (absent_any _ _).mono ?_
    rintro e w7 ⟨rfl, rfl⟩
    rw [ME.out]
    obtain ⟨sv2, w2, hrun, hcol⟩ := SolE.one H5.out (pcmE x) PL.out
    have RUN := hid hrun
    have COL := hid hcol
    clear hrun hcol
    have FIN := hid (show ColE w w2 sv2 out from by rw [HO.out]; exact ⟨COL.out.row, fun g hg => Nat.le_trans OW.out.size ((ColS.back H0.out COL.out).new g hg), OW.out.trans (ColS.back H0.out COL.out).only⟩)
    go_wp2_with (at_builtin; refine wp_append_eq (by kernel_rfl) (.tmp 142) (.tmp 148) _ _ rfl _ _ sv2 w2 rfl rfl RUN.out ?_; simp only [Act.put, List.setIfInBounds_toArray, List.set_cons_zero, List.set_cons_succ])
    go_ret
    exact ⟨_, rfl, FIN.out⟩
  · have e1 : (x.kind == 2) = false := by simpa using h1
    have ME := hid (show absE (decide (x.pcm = .empty)) = pcmE x from by unfold pcmE; rw [if_neg h1])
    clear h1
    conv => arg 2; whnf
    go_wp2_with fail
    rw [str_empty]
    refine (absent_any _ _).mono ?_
    rintro e w7 ⟨rfl, rfl⟩
    rw [ME.out]
    obtain ⟨sv2, w2, hrun, hcol⟩ := SolE.one H5.out (pcmE x) PL.out
    have RUN := hid hrun
    have COL := hid hcol
    clear hrun hcol
    have FIN := hid (show ColE w w2 sv2 out from by rw [HO.out]; exact ⟨COL.out.row, fun g hg => Nat.le_trans OW.out.size ((ColS.back H0.out COL.out).new g hg), OW.out.trans (ColS.back H0.out COL.out).only⟩)
    go_wp2_with (at_builtin; refine wp_append_eq (by kernel_rfl) (.tmp 150) (.tmp 155) _ _ rfl _ _ sv2 w2 rfl rfl RUN.out ?_; simp only [Act.put, List.setIfInBounds_toArray, List.set_cons_zero, List.set_cons_succ])
    go_ret
    exact ⟨_, rfl, FIN.out⟩
end Go.Proofs.YtpmmnjeomdjakaaDoor

end
section
set_option maxRecDepth 20000
namespace Go.Proofs.YtpmmnjeomdjakaaDoor
open Go.RowKit
set_option linter.unusedVariables false
set_option linter.unusedSimpArgs false

noncomputable def ckB : Code := Tryd.f12.body.getD .skip
section
variable {α : Type} {C : α → List Value} {n : Nat} {E : TypeId} {S : List Nat} {w0 w1 w w' : World} {sv sv' : Value} {l l' : List α}
/-- A slice behind it. -/
theorem ColS.appS {P : Program} {T : TypeId} {z : Value} {bytes : Nat} (K : CellsN C n) (H : RowType P T E z n bytes) (h : ColS C n E S w0 w sv l) (b : Value) (xs : List α) (hb : HoldsG C n w b xs) (hl : l.length + xs.length ≤ 1000000) :
    ∃ sv2 w2, (Builtin.append_ #[T, T] T #[sv, b]).run P w = .ok sv2 w2 ∧ ColS C n E S w0 w2 sv2 (l ++ xs) := by
  obtain ⟨sv2, w2, hrun, hrow, honly, hown⟩ := append_rowsG K H sv b l xs h.row hb hl
  exact ⟨sv2, w2, hrun, hrow, fun g hg => (hown g hg).elim (h.new g) (fun q => .inr (Nat.le_trans h.only.size q)), h.only.trans2 honly (fun y hy => h.new y hy)⟩
end
/-- Two may come up. -/
theorem wpAnyH_two {P : Program} {ops : Array Oper} {Q : Exit → Act → World → Prop} {S : World → Prop} (i j : Nat) {oi oj : Oper} {r r' : List Oper} {f : Nat} {d : Array Bool} {a : Act} {w : World} (hi : ops.toList.drop i = oi :: r) (hj : ops.toList.drop j = oj :: r') (hr : Region.ready .any ops d = [i, j])
    (h1 : ∀ K' : Act → World → Prop, Hid (∀ a w, S w → wpAnyH P .any ops Q S f (d.setIfInBounds i true) a w → K' a w) → if Region.wanted oi (yielded ops a.tmps) = true then Oper.wp P oi a w K' Q else K' (a.put oi.dst undef) w)
    (h2 : ∀ K' : Act → World → Prop, Hid (∀ a w, S w → wpAnyH P .any ops Q S f (d.setIfInBounds j true) a w → K' a w) → if Region.wanted oj (yielded ops a.tmps) = true then Oper.wp P oj a w K' Q else K' (a.put oj.dst undef) w) : wpAnyH P .any ops Q S (f + 1) d a w := by
  have hi := get_of_drop hi
  have hj := get_of_drop hj
  refine wpAnyH_all hr (by simp) (fun k hk => ?_)
  have : k = i ∨ k = j := by simpa using hk
  rcases this with rfl | rfl
  · exact wpOp_step hi (fun K' hK => h1 K' (hid (fun a w hS hW => hK a w ⟨hS, hW⟩)))
  · exact wpOp_step hj (fun K' hK => h2 K' (hid (fun a w hS hW => hK a w ⟨hS, hW⟩)))
theorem smallE_len (x : MV) : (smallE x).length = 22 := by simp [smallE, P16.l, S4.l]
theorem motionE_len (x : MV) (refs : Int) (h : MFew x) : (motionE x refs).length ≤ 2002 := by
  unfold motionE
  have := h.r
  have := h.v
  split <;> simp <;> omega
theorem restE_len (x : MV) (h : MFew x) : (restE x).length ≤ 502000 := by
  unfold restE
  have := h.b
  have := blksE_len x.blocks (whichL x) h.i
  simp
  omega
set_option maxRecDepth 1000000 in
set_option maxHeartbeats 8000000 in
theorem ck_begin (rest : Code) (Q : Exit → Act → World → Prop)  (x : MV) (rv vv bv : Value) (i : Bool) (refs : Int) (w : World) (hr1 : refsOk i refs = true) (hk1 : kindOk x.kind i = true) (u3 u4 u5 u6 u7 u8 u9 u10 u11 u12 u13 u14 u15 u16 u17 u18 u19 u20 u21 u22 u23 u24 u25 u26 u27 u28 u29 u30 u31 u32 u33 u34 u35 u36 u37 u38 u39 u40 u41 u42 u43 u44 u45 u46 u47 u48 u49 u50 u51 u52 u53 u54 u55 u56 u57 u58 : Value)
    (hr : ∀ (Z : Nat) (w' : World) (v9 v10 v11 v12 v13 v14 v15 v16 v17 v18 v19 v20 v21 v22 v23 v24 v25 v26 v27 v28 v29 v30 v31 v32 v33 v34 : Value), Blk w' Z 28 (mC x rv vv bv).toArray → Only [] w w' ∧ w.heap.size ≤ Z → rest.wp Tryd.prog Q ⟨#[mV x rv vv bv, .bool i, .int .i64 refs, .pointer (some ⟨Z, 0, none⟩), u4, u5, .int .i64 0, u7, u8, v9, v10, v11, v12, v13, v14, v15, v16, v17, v18, v19, v20, v21, v22, v23, v24, v25, v26, v27, v28, v29, v30, v31, v32, v33, v34, u35, u36, u37, u38, u39, u40, u41, u42, u43, u44, u45, u46, u47, u48, u49, u50, u51, u52, u53, u54, u55, u56, u57, u58], []⟩ w') :
    (endWith 3 ckB rest).wp Tryd.prog Q ⟨#[mV x rv vv bv, .bool i, .int .i64 refs, u3, u4, u5, u6, u7, u8, u9, u10, u11, u12, u13, u14, u15, u16, u17, u18, u19, u20, u21, u22, u23, u24, u25, u26, u27, u28, u29, u30, u31, u32, u33, u34, u35, u36, u37, u38, u39, u40, u41, u42, u43, u44, u45, u46, u47, u48, u49, u50, u51, u52, u53, u54, u55, u56, u57, u58], []⟩ w := by
  conv => arg 2; whnf; arg 2; whnf; arg 2; whnf; arg 2; whnf
  have HR := hid hr
  clear hr
  obtain ⟨W1, hW⟩ : ∃ W, W = w.alloc (.cells (mC x rv vv bv).toArray 28) := ⟨_, rfl⟩
  have BX := hid (show Blk W1 w.heap.size 28 (mC x rv vv bv).toArray from hW ▸ Blk.new w _ _)
  obtain ⟨Z, hZ⟩ : ∃ Z, Z = w.heap.size := ⟨_, rfl⟩
  have oW := hid (show Only [] w W1 ∧ w.heap.size ≤ Z from ⟨hW ▸ ((Only.refl [] w).alloc _), by omega⟩)
  rw [← hZ] at BX
  have c0 := BX.out.cell (i := 0) (v := .int .u8 x.kind) rfl
  have HW := hid hW
  have HZ := hid hZ
  have RI := hid (fun w => rintra_any x.kind w)
  have RW := hid (fun w => rwithin13_any refs 1 32 w)
  clear hW hZ
  unfold mV at HR ⊢
  unfold refsOk at hr1
  unfold kindOk at hk1
  simp only [Bool.and_eq_true, decide_eq_true_eq] at hk1
  have k7 : ¬ (7 : Int) < x.kind := by omega
  cases i
  · simp only [Bool.false_eq_true, if_false] at hr1
    rw [hr1] at RW
    clear hr1 hk1
    go_wp2_with (refine wp_box rfl 28 (.tmp 0) rfl (mC x rv vv bv).toArray rfl HW.out HZ.out ?_; simp only [Act.put, List.setIfInBounds_toArray, List.set_cons_zero, List.set_cons_succ])
    refine (RW.out _).mono ?_
    rintro e w3 ⟨rfl, rfl⟩
    go_wp2_with fail
    exact HR.out Z _ _ _ _ _ _ _ _ _ _ _ _ _ _ _ _ _ _ _ _ _ _ _ _ _ _ _ BX.out oW.out
  · simp only [if_true, decide_eq_true_eq] at hr1
    have r0 : (refs != 0) = false := by simpa using hr1
    have hi2 : intraI x.kind = true := by simpa using hk1.2
    rw [hi2] at RI
    clear hr1 hk1 hi2
    go_wp2_with (refine wp_box rfl 28 (.tmp 0) rfl (mC x rv vv bv).toArray rfl HW.out HZ.out ?_; simp only [Act.put, List.setIfInBounds_toArray, List.set_cons_zero, List.set_cons_succ])
    refine (RI.out _).mono ?_
    rintro e w3 ⟨rfl, o3⟩
    have BX3 := hid (BX.out.only o3 (by simp))
    have o3' := hid (show Only [] w w3 ∧ w.heap.size ≤ Z from ⟨oW.out.1.trans o3, oW.out.2⟩)
    clear o3
    go_wp2_with fail
    exact HR.out Z _ _ _ _ _ _ _ _ _ _ _ _ _ _ _ _ _ _ _ _ _ _ _ _ _ _ _ BX3.out o3'.out
end Go.Proofs.YtpmmnjeomdjakaaDoor

end
section
set_option maxRecDepth 20000
namespace Go.Proofs.YtpmmnjeomdjakaaDoor
open Go.RowKit
set_option linter.unusedVariables false
set_option linter.unusedSimpArgs false

set_option maxRecDepth 1000000 in
set_option maxHeartbeats 8000000 in
theorem ck_all (rest : Code) (Q : Exit → Act → World → Prop) (hQ : ∀ c (a : Act) d v w, Q (.panic c) (a.put (some d) v) w → Q (.panic c) a w) (x : MV) (rv vv bv : Value) (i : Bool) (refs : Int) (Z : Nat) (w : World) (hx : MIn x) (hm : MAt w x rv vv bv) (hf : MFew x) (rb : 0 ≤ refs ∧ refs ≤ 1000) (hB : Blk w Z 28 (mC x rv vv bv).toArray) (u4 u5 u6 u7 u8 u9 u10 u11 u12 u13 u14 u15 u16 u17 u18 u19 u20 u21 u22 u23 u24 u25 u26 u27 u28 u29 u30 u31 u32 u33 u34 u35 u36 u37 u38 u39 u40 u41 u42 u43 u44 u45 u46 u47 u48 u49 u50 u51 u52 u53 u54 u55 u56 u57 u58 : Value)
    (hr : ∀ (sv' : Value) (w' : World) (v35 v36 v37 v38 v39 v40 v41 v42 v43 : Value), ColE w w' sv' (allE x refs) → rest.wp Tryd.prog Q ⟨#[mV x rv vv bv, .bool i, .int .i64 refs, .pointer (some ⟨Z, 0, none⟩), u4, u5, u6, sv', u8, u9, u10, u11, u12, u13, u14, u15, u16, u17, u18, u19, u20, u21, u22, u23, u24, u25, u26, u27, u28, u29, u30, u31, u32, u33, u34, v35, v36, v37, v38, v39, v40, v41, v42, v43, u44, u45, u46, u47, u48, u49, u50, u51, u52, u53, u54, u55, u56, u57, u58], []⟩ w') :
    (endWith 1 (dropSeq 3 ckB) rest).wp Tryd.prog Q ⟨#[mV x rv vv bv, .bool i, .int .i64 refs, .pointer (some ⟨Z, 0, none⟩), u4, u5, u6, u7, u8, u9, u10, u11, u12, u13, u14, u15, u16, u17, u18, u19, u20, u21, u22, u23, u24, u25, u26, u27, u28, u29, u30, u31, u32, u33, u34, u35, u36, u37, u38, u39, u40, u41, u42, u43, u44, u45, u46, u47, u48, u49, u50, u51, u52, u53, u54, u55, u56, u57, u58], []⟩ w := by
  conv => arg 2; whnf; arg 2; whnf
  have HR := hid hr
  clear hr
  have L := hid (fun w' (o : Only [] w w') => hB.only o (by simp))
  have M := hid (fun w' (o : Only [] w w') => hm.only0 o)
  have FS := hid (fun w => rsmall_any x rv vv bv w)
  have FM := hid (fun w' (o : Only [] w w') => rmotion_any x rv vv bv refs w' hx (hm.only0 o) rb (by have := hf.r; omega) (by have := hf.v; omega))
  have FR := hid (fun w' (o : Only [] w w') => rrest_any x rv vv bv w' hx (hm.only0 o) hf)
  have l1 := hid (smallE_len x)
  have l2 := hid (motionE_len x refs hf)
  have l3 := hid (restE_len x hf)
  clear hB hm hx hf rb
  go_upto_region 5 with fail
  refine wp_region_heldH (fun w' => Only [] w w') 10 (by kernel_rfl) rfl (Only.refl [] w).drew (fun hS => ?_)
  generalize w.drew = wd at *
  refine wpAnyH_read 0 rfl (by kernel_rfl) (by kernel_rfl) (by kernel_rfl) (fun _ _ _ h => hQ _ _ _ _ _ h) hS (yields_load 28 _ (by rfl) rfl ⟨Z, 0, none⟩ (mC x rv vv bv) rfl (fun w' o => (L.out w' o).mb)) ?_
  (try simp only [Act.put, List.setIfInBounds_toArray, List.set_cons_zero, List.set_cons_succ])
  refine wpAnyH_read 2 rfl (by kernel_rfl) (by kernel_rfl) (by kernel_rfl) (fun _ _ _ h => hQ _ _ _ _ _ h) hS (yields_load 28 _ (by rfl) rfl ⟨Z, 0, none⟩ (mC x rv vv bv) rfl (fun w' o => (L.out w' o).mb)) ?_
  (try simp only [Act.put, List.setIfInBounds_toArray, List.set_cons_zero, List.set_cons_succ])
  refine wpAnyH_read 3 (v := ?va3) rfl (by kernel_rfl) (by kernel_rfl) (by kernel_rfl) (fun _ _ _ h => hQ _ _ _ _ _ h) hS (Or.inl ⟨by rfl, ?ya3⟩) ?ra3
  case ya3 =>
    intro w' hSw
    skip
    go_simp
    (try with_reducible rfl)
  (try simp only [Act.put, List.setIfInBounds_toArray, List.set_cons_zero, List.set_cons_succ])
  refine wpAnyH_read 6 rfl (by kernel_rfl) (by kernel_rfl) (by kernel_rfl) (fun _ _ _ h => hQ _ _ _ _ _ h) hS (yields_load 28 _ (by rfl) rfl ⟨Z, 0, none⟩ (mC x rv vv bv) rfl (fun w' o => (L.out w' o).mb)) ?_
  (try simp only [Act.put, List.setIfInBounds_toArray, List.set_cons_zero, List.set_cons_succ])
  refine wpAnyH_call 1 rfl (by kernel_rfl) (fun J hJ => ?_)
  rw [if_pos (by rfl)]
  go_simp
  refine (FS.out _).mono ?_
  rintro e u1 ⟨sa, rfl, ca⟩
  have s1 := hS.trans ca.only
  refine hJ.out _ _ s1 ?_
  clear hJ J
  (try simp only [Act.put, List.setIfInBounds_toArray, List.set_cons_zero, List.set_cons_succ])
  refine wpAnyH_call 4 rfl (by kernel_rfl) (fun J hJ => ?_)
  rw [if_pos (by rfl)]
  go_simp
  refine (FM.out _ s1).mono ?_
  rintro e u2 ⟨sb, rfl, cb⟩
  have s2 := s1.trans cb.only
  refine hJ.out _ _ s2 ?_
  clear hJ J
  (try simp only [Act.put, List.setIfInBounds_toArray, List.set_cons_zero, List.set_cons_succ])
  have CA : ColE w u2 sa (smallE x) := ⟨ca.row.only cb.only (by simp), fun g hg => Nat.le_trans hS.size (ca.new g hg), s2⟩
  have HM := cb.row.holds erC_ok
  refine wpAnyH_call 5 rfl (by kernel_rfl) (fun J hJ => ?_)
  · obtain ⟨v5, u3, h5, c5⟩ := CA.appS erC_ok er_row sb (motionE x refs) HM (by have := l1.out; have := l2.out; omega)
    refine step_append_eqM rfl (.tmp 36) (.tmp 39) _ _ rfl sa sb rfl rfl v5 u3 h5 ?_
    refine hJ.out _ _ c5.only ?_
    clear hJ J
    (try simp only [Act.put, List.setIfInBounds_toArray, List.set_cons_zero, List.set_cons_succ])
    refine wpAnyH_call 7 rfl (by kernel_rfl) (fun J hJ => ?_)
    rw [if_pos (by rfl)]
    go_simp
    refine (FR.out _ c5.only).mono ?_
    rintro e u4 ⟨sc, rfl, cc⟩
    have s4 := c5.only.trans cc.only
    refine hJ.out _ _ s4 ?_
    clear hJ J
    (try simp only [Act.put, List.setIfInBounds_toArray, List.set_cons_zero, List.set_cons_succ])
    obtain ⟨v8, u5, h8, c8⟩ := (ColG.step c5 cc.only).appS erC_ok er_row sc (restE x) (cc.row.holds erC_ok) (by rw [List.length_append]; have := l1.out; have := l2.out; have := l3.out; omega)
    refine wpAnyH_call 8 rfl (by kernel_rfl) (fun J hJ => ?_)
    refine step_append_eqM rfl (.tmp 40) (.tmp 42) _ _ rfl v5 sc rfl rfl v8 u5 h8 ?_
    refine hJ.out _ _ c8.only ?_
    clear hJ J
    (try simp only [Act.put, List.setIfInBounds_toArray, List.set_cons_zero, List.set_cons_succ])
    refine wpAnyH_read 9 (v := ?va9) rfl (by kernel_rfl) (by kernel_rfl) (by kernel_rfl) (fun _ _ _ h => hQ _ _ _ _ _ h) c8.only (Or.inl ⟨by rfl, ?ya9⟩) ?ra9
    case ya9 =>
      intro w' hSw
      skip
      go_simp
      (try with_reducible rfl)
    (try simp only [Act.put, List.setIfInBounds_toArray, List.set_cons_zero, List.set_cons_succ])
    refine wpAnyH_done (by kernel_rfl) ?_ _
    go_wp2_with fail
    exact HR.out _ _ _ _ _ _ _ _ _ _ _ c8
end Go.Proofs.YtpmmnjeomdjakaaDoor

end
section
set_option maxRecDepth 20000
namespace Go.Proofs.YtpmmnjeomdjakaaDoor
open Go.RowKit
set_option linter.unusedVariables false
set_option linter.unusedSimpArgs false

theorem firstE_drop {l : List Int} {i : Nat} {e : Int} (h : l[i]? = some e) : firstE (l.drop i) = if e = 0 then firstE (l.drop (i + 1)) else e := by
  obtain ⟨hl, he⟩ := List.getElem?_eq_some_iff.1 h
  rw [List.drop_eq_getElem_cons hl, he, firstE]
set_option maxRecDepth 1000000 in
set_option maxHeartbeats 8000000 in
theorem rcheck_any (x : MV) (rv vv bv : Value) (i : Bool) (refs : Int) (w : World) (hx : MIn x) (hm : MAt w x rv vv bv) (hf : MFew x) :
    Calls Tryd.prog 12 #[mV x rv vv bv, .bool i, .int .i64 refs] w fun e w' => e = .returned (.int .i64 (checkI x i refs)) ∧ Only [] w w' := by
  by_cases hr1 : refsOk i refs = true
  · by_cases hk1 : kindOk x.kind i = true
    · have CK : checkI x i refs = firstE (allE x refs) := by unfold checkI; rw [hr1, hk1]; rfl
      obtain ⟨out, hout⟩ : ∃ l, l = allE x refs := ⟨_, rfl⟩
      rw [CK, ← hout]
      have rb : 0 ≤ refs ∧ refs ≤ 1000 := by
        unfold refsOk inI at hr1
        cases i <;> simp at hr1 <;> omega
      have hlen : out.length ≤ 600000 := by
        rw [hout]
        unfold allE
        rw [List.length_append, List.length_append, smallE_len]
        have := motionE_len x refs hf
        have := restE_len x hf
        omega
      go_enter Tryd.func12, Tryd.ntmps12
      generalize hq : (Code.seq _ _) = cc
      have hcc : cc = endWith 3 ckB (dropSeq 3 ckB) := by rw [← hq]; kernel_rfl
      rw [hcc]
      clear hq hcc
      refine ck_begin _ _ x rv vv bv i refs w hr1 hk1 _ _ _ _ _ _ _ _ _ _ _ _ _ _ _ _ _ _ _ _ _ _ _ _ _ _ _ _ _ _ _ _ _ _ _ _ _ _ _ _ _ _ _ _ _ _ _ _ _ _ _ _ _ _ _ _ (fun Z w1 v9 v10 v11 v12 v13 v14 v15 v16 v17 v18 v19 v20 v21 v22 v23 v24 v25 v26 v27 v28 v29 v30 v31 v32 v33 v34 bX oW => ?_)
      rw [show dropSeq 3 ckB = endWith 1 (dropSeq 3 ckB) (dropSeq 4 ckB) from by kernel_rfl]
      refine ck_all _ _ (fun _ _ _ _ _ h => h) x rv vv bv i refs Z w1 hx (hm.only0 oW.1) hf rb bX _ _ _ _ _ _ _ _ _ _ _ _ _ _ _ _ _ _ _ _ _ _ _ _ _ _ _ _ _ _ _ _ _ _ _ _ _ _ _ _ _ _ _ _ _ _ _ _ _ _ _ _ _ _ _ (fun sv w2 v35 v36 v37 v38 v39 v40 v41 v42 v43 h2 => ?_)
      rw [← hout] at h2
      obtain ⟨n, hn⟩ : ∃ n, n = out.length := ⟨_, rfl⟩
      have HN := hid hn
      have H2 := hid (h2.row.holds erC_ok)
      have O2 := hid (oW.1.trans h2.only)
      obtain ⟨sa, sc, rfl, _⟩ := id H2.out
      rw [← hn] at H2 hlen ⊢
      have nb : (n : Int) ≤ 600000 := by omega
      clear hx hm hf rb hr1 hk1 CK hout bX oW h2 hn hlen
      obtain ⟨r, hr⟩ : ∃ r, r = firstE out := ⟨_, rfl⟩
      rw [← hr]
      have R := hid hr
      clear hr
      conv => arg 2; whnf
      go_wp2_with fail
      go_loopg [8] n (fun g t wr => ∃ j : Nat, j + g = n ∧ t = .int .i64 j ∧ r = firstE (out.drop j) ∧ wr = w2)
      case atStart => exact ⟨0, by omega, rfl, R.out, rfl⟩
      case round =>
        obtain ⟨j, hj, rfl, hre, rfl⟩ := hrel
        have RE := hid hre
        have j0 : (0 : Int) ≤ (j : Int) := by omega
        clear hre
        by_cases hg : gk = 0
        · have j1 : ¬ (j : Int) < (n : Int) := by omega
          have RZ := hid (show r = 0 from by rw [RE.out, List.drop_eq_nil_of_le (by have := HN.out; omega)]; rfl)
          clear hj hg
          go_wp2_with fail
          go_ret
          exact ⟨by rw [RZ.out]; rfl, O2.out⟩
        · obtain ⟨gg, rfl⟩ : ∃ gg, gk = gg + 1 := ⟨gk - 1, by omega⟩
          have IN := hid (show j + 1 + gg = n by omega)
          have j1 : (j : Int) < (n : Int) := by omega
          obtain ⟨e, he⟩ : ∃ e, out[j]? = some e := ⟨_, List.getElem?_eq_getElem (by have := HN.out; omega)⟩
          obtain ⟨b, o, rfl, hc⟩ := H2.out.at he
          have ce := hc 0 (.int .i64 e) rfl
          rw [Nat.mul_one, Nat.add_zero] at ce
          have FD := hid (firstE_drop he)
          clear hj hg he hc
          by_cases h0 : e = 0
          · have d0 : (e != 0) = false := by simpa using h0
            have RN := hid (show r = firstE (out.drop (j + 1)) from by rw [RE.out, FD.out, if_pos h0])
            clear h0
            go_wp2_with fail
            go_roundg gg
            case measure => omega
            case rel => exact ⟨j + 1, IN.out, by go_num, RN.out, rfl⟩
          · have d0 : (e != 0) = true := by simpa using h0
            have RN := hid (show r = e from by rw [RE.out, FD.out, if_neg h0])
            clear h0
            go_wp2_with fail
            go_ret
            exact ⟨by rw [RN.out]; rfl, O2.out⟩
    · have hk1 : kindOk x.kind i = false := by simpa using hk1
      have CK : checkI x i refs = 9 := by unfold checkI; rw [hr1, hk1]; rfl
      rw [CK]
      obtain ⟨W1, hW⟩ : ∃ W, W = w.alloc (.cells (mC x rv vv bv).toArray 28) := ⟨_, rfl⟩
      have BX := hid (show Blk W1 w.heap.size 28 (mC x rv vv bv).toArray from hW ▸ Blk.new w _ _)
      obtain ⟨Z, hZ⟩ : ∃ Z, Z = w.heap.size := ⟨_, rfl⟩
      have oW := hid (show Only [] w W1 ∧ w.heap.size ≤ Z from ⟨hW ▸ ((Only.refl [] w).alloc _), by omega⟩)
      rw [← hZ] at BX
      have c0 := BX.out.cell (i := 0) (v := .int .u8 x.kind) rfl
      have HW := hid hW
      have HZ := hid hZ
      have RI := hid (fun w => rintra_any x.kind w)
      have RW := hid (fun w => rwithin13_any refs 1 32 w)
      clear hW hZ
      clear CK hm hf hx
      unfold mV
      unfold refsOk at hr1
      unfold kindOk at hk1
      by_cases h7 : (7 : Int) < x.kind
      · clear hk1
        cases i
        · simp only [Bool.false_eq_true, if_false] at hr1
          rw [hr1] at RW
          clear hr1
          go_enter Tryd.func12, Tryd.ntmps12
          go_wp2_with (refine wp_box rfl 28 (.tmp 0) rfl (mC x rv vv bv).toArray rfl HW.out HZ.out ?_; simp only [Act.put, List.setIfInBounds_toArray, List.set_cons_zero, List.set_cons_succ])
          refine (RW.out _).mono ?_
          rintro e w3 ⟨rfl, rfl⟩
          go_wp2_with fail
          go_ret
          exact ⟨rfl, oW.out.1⟩
        · simp only [if_true, decide_eq_true_eq] at hr1
          have r0 : (refs != 0) = false := by simpa using hr1
          clear hr1
          go_enter Tryd.func12, Tryd.ntmps12
          go_wp2_with (refine wp_box rfl 28 (.tmp 0) rfl (mC x rv vv bv).toArray rfl HW.out HZ.out ?_; simp only [Act.put, List.setIfInBounds_toArray, List.set_cons_zero, List.set_cons_succ])
          go_ret
          exact ⟨rfl, oW.out.1⟩
      · have h7' : x.kind ≤ 7 := by omega
        rw [decide_eq_true h7', Bool.true_and] at hk1
        clear h7'
        cases i
        · simp at hk1
        · simp only [Bool.not_true, Bool.false_or] at hk1
          simp only [if_true, decide_eq_true_eq] at hr1
          have r0 : (refs != 0) = false := by simpa using hr1
          rw [hk1] at RI
          clear hr1 hk1
          go_enter Tryd.func12, Tryd.ntmps12
          go_wp2_with (refine wp_box rfl 28 (.tmp 0) rfl (mC x rv vv bv).toArray rfl HW.out HZ.out ?_; simp only [Act.put, List.setIfInBounds_toArray, List.set_cons_zero, List.set_cons_succ])
          refine (RI.out _).mono ?_
          rintro e w3 ⟨rfl, o3⟩
          have O3 := hid (oW.out.1.trans o3)
          clear o3 c0
          go_wp2_with fail
          go_ret
          exact ⟨rfl, O3.out⟩
  · have hr1 : refsOk i refs = false := by simpa using hr1
    have CK : checkI x i refs = 2 := by unfold checkI; rw [hr1]; rfl
    rw [CK]
    obtain ⟨W1, hW⟩ : ∃ W, W = w.alloc (.cells (mC x rv vv bv).toArray 28) := ⟨_, rfl⟩
    have BX := hid (show Blk W1 w.heap.size 28 (mC x rv vv bv).toArray from hW ▸ Blk.new w _ _)
    obtain ⟨Z, hZ⟩ : ∃ Z, Z = w.heap.size := ⟨_, rfl⟩
    have oW := hid (show Only [] w W1 ∧ w.heap.size ≤ Z from ⟨hW ▸ ((Only.refl [] w).alloc _), by omega⟩)
    rw [← hZ] at BX
    have c0 := BX.out.cell (i := 0) (v := .int .u8 x.kind) rfl
    have HW := hid hW
    have HZ := hid hZ
    have RI := hid (fun w => rintra_any x.kind w)
    have RW := hid (fun w => rwithin13_any refs 1 32 w)
    clear hW hZ
    clear CK hm hf hx
    unfold mV
    unfold refsOk at hr1
    cases i
    · simp only [Bool.false_eq_true, if_false] at hr1
      rw [hr1] at RW
      clear hr1
      go_enter Tryd.func12, Tryd.ntmps12
      go_wp2_with (refine wp_box rfl 28 (.tmp 0) rfl (mC x rv vv bv).toArray rfl HW.out HZ.out ?_; simp only [Act.put, List.setIfInBounds_toArray, List.set_cons_zero, List.set_cons_succ])
      refine (RW.out _).mono ?_
      rintro e w3 ⟨rfl, rfl⟩
      go_wp2_with fail
      go_ret
      exact ⟨rfl, oW.out.1⟩
    · simp only [if_true, decide_eq_false_iff_not] at hr1
      have r0 : (refs != 0) = true := by simpa using hr1
      clear hr1
      go_enter Tryd.func12, Tryd.ntmps12
      go_wp2_with (refine wp_box rfl 28 (.tmp 0) rfl (mC x rv vv bv).toArray rfl HW.out HZ.out ?_; simp only [Act.put, List.setIfInBounds_toArray, List.set_cons_zero, List.set_cons_succ])
      go_ret
      exact ⟨rfl, oW.out.1⟩
end Go.Proofs.YtpmmnjeomdjakaaDoor

end

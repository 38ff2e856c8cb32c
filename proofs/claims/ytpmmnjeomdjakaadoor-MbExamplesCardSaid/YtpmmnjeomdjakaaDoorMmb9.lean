/- The reference's small. -/
/- The reference's Blocks. -/
/- The kit's CopyInts of long slices, CopyBlocks. -/
import Derived.Test.YtpmmnjeomdjakaaDoorMmb8
import Derived.Test.YtpmmnjeomdjakaaDoorMmb6
section
set_option maxRecDepth 20000
namespace Go.Proofs.YtpmmnjeomdjakaaDoor
open Go.RowKit
set_option linter.unusedVariables false
set_option linter.unusedSimpArgs false

noncomputable def smB : Code := Tryd.f40.body.getD .skip
theorem prC_l (p : P16) : prC p = p.l.map (Value.int .u8) := rfl
theorem sbC_l (p : S4) : sbC p = p.l.map (Value.int .u8) := rfl
theorem mC_prl (x : MV) (rv vv bv : Value) {i : Nat} {p : Int} (h : x.pr.l[i]? = some p) : (mC x rv vv bv).toArray[3 + i]? = some (.int .u8 p) := by
  have := mC_pr x rv vv bv i (.int .u8 p) (by rw [prC_l]; simp [h])
  simpa using this
theorem mC_sbl (x : MV) (rv vv bv : Value) {i : Nat} {p : Int} (h : x.sb.l[i]? = some p) : (mC x rv vv bv).toArray[19 + i]? = some (.int .u8 p) := by
  have := mC_sb x rv vv bv i (.int .u8 p) (by rw [sbC_l]; simp [h])
  simpa using this
theorem take_map {α β : Type} (f : α → β) {l : List α} {i : Nat} {p : α} (h : l[i]? = some p) : (l.take (i + 1)).map f = (l.take i).map f ++ [f p] := by
  obtain ⟨hl, hp⟩ := List.getElem?_eq_some_iff.1 h
  rw [List.take_succ_eq_append_getElem hl, hp, List.map_append]
  rfl
set_option maxRecDepth 1000000 in
set_option maxHeartbeats 8000000 in
theorem sm_mode (rest : Code) (Q : Exit → Act → World → Prop)  (x : MV) (rv vv bv : Value) (w : World) (u1 u2 u3 u4 u5 u6 u7 u8 u9 u10 u11 u12 u13 u14 u15 u16 u17 u18 u19 u20 u21 u22 u23 u24 u25 u26 u27 u28 u29 u30 u31 u32 u33 u34 u35 u36 u37 u38 u39 u40 u41 u42 u43 u44 u45 u46 u47 u48 u49 u50 u51 u52 u53 u54 u55 u56 u57 u58 u59 u60 u61 u62 u63 u64 u65 u66 u67 u68 u69 u70 u71 u72 u73 u74 u75 u76 u77 u78 u79 u80 u81 u82 u83 u84 u85 u86 u87 u88 u89 u90 u91 u92 u93 u94 u95 : Value)
    (hr : ∀ (Z : Nat) (W1 : World) (sv' : Value) (w' : World) (v2 v6 v7 v8 v9 v10 v11 v12 v13 v14 v15 v16 v17 v18 v19 v20 v21 v22 : Value), Blk W1 Z 28 (mC x rv vv bv).toArray → Only [] w W1 ∧ w.heap.size ≤ Z → ColE W1 w' sv' [modeE x] → rest.wp Tryd.prog Q ⟨#[mV x rv vv bv, .pointer (some ⟨Z, 0, none⟩), v2, sv', u4, u5, v6, v7, v8, v9, v10, v11, v12, v13, v14, v15, v16, v17, v18, v19, v20, v21, v22, u23, u24, u25, u26, u27, u28, u29, u30, u31, u32, u33, u34, u35, u36, u37, u38, u39, u40, u41, u42, u43, u44, u45, u46, u47, u48, u49, u50, u51, u52, u53, u54, u55, u56, u57, u58, u59, u60, u61, u62, u63, u64, u65, u66, u67, u68, u69, u70, u71, u72, u73, u74, u75, u76, u77, u78, u79, u80, u81, u82, u83, u84, u85, u86, u87, u88, u89, u90, u91, u92, u93, u94, u95], []⟩ w') :
    (endWith 3 smB rest).wp Tryd.prog Q ⟨#[mV x rv vv bv, u1, u2, u3, u4, u5, u6, u7, u8, u9, u10, u11, u12, u13, u14, u15, u16, u17, u18, u19, u20, u21, u22, u23, u24, u25, u26, u27, u28, u29, u30, u31, u32, u33, u34, u35, u36, u37, u38, u39, u40, u41, u42, u43, u44, u45, u46, u47, u48, u49, u50, u51, u52, u53, u54, u55, u56, u57, u58, u59, u60, u61, u62, u63, u64, u65, u66, u67, u68, u69, u70, u71, u72, u73, u74, u75, u76, u77, u78, u79, u80, u81, u82, u83, u84, u85, u86, u87, u88, u89, u90, u91, u92, u93, u94, u95], []⟩ w := by
  conv => arg 2; whnf; arg 2; whnf; arg 2; whnf; arg 2; whnf
  have HR := hid hr
  clear hr
  obtain ⟨W1, hW⟩ : ∃ W, W = w.alloc (.cells (mC x rv vv bv).toArray 28) := ⟨_, rfl⟩
  have BX := hid (show Blk W1 w.heap.size 28 (mC x rv vv bv).toArray from hW ▸ Blk.new w _ _)
  obtain ⟨Z, hZ⟩ : ∃ Z, Z = w.heap.size := ⟨_, rfl⟩
  have oW := hid (show Only [] w W1 ∧ w.heap.size ≤ Z from ⟨hW ▸ ((Only.refl [] w).alloc _), by omega⟩)
  rw [← hZ] at BX
  have c0 := BX.out.cell (i := 0) (v := .int .u8 x.kind) rfl
  have c1 := BX.out.cell (i := 1) (v := .int .u8 x.mode) rfl
  have HW := hid hW
  have HZ := hid hZ
  have HS := hid (ColG.nil W1 : ColE W1 W1 (.slice none 0 0) [])
  clear hW hZ
  unfold mV at HR ⊢
  by_cases h1 : x.kind = 1
  · have e1 : (x.kind == 1) = true := by simpa using h1
    have ME := hid (show modeE x = rngE (decide (x.mode ≤ 3)) from by unfold modeE; rw [if_pos h1])
    clear h1
    go_wp2_with (refine wp_box rfl 28 (.tmp 0) rfl (mC x rv vv bv).toArray rfl HW.out HZ.out ?_; simp only [Act.put, List.setIfInBounds_toArray, List.set_cons_zero, List.set_cons_succ])
    refine (ranged_any _ _).mono ?_
    rintro e w3 ⟨rfl, rfl⟩
    obtain ⟨sv2, w2, hrun, hcol⟩ := ColE.one HS.out (rngE (decide (x.mode ≤ 3))) (by simp)
    have RUN := hid hrun
    have COL := hid hcol
    clear hrun hcol
    go_wp2_with (at_builtin; refine wp_append_eq (by kernel_rfl) (.tmp 9) (.tmp 14) _ _ rfl _ _ sv2 w2 rfl rfl RUN.out ?_; simp only [Act.put, List.setIfInBounds_toArray, List.set_cons_zero, List.set_cons_succ])
    exact HR.out Z _ _ _ _ _ _ _ _ _ _ _ _ _ _ _ _ _ _ _ _ _ BX.out oW.out (by rw [ME.out]; exact COL.out)
  · have e1 : (x.kind == 1) = false := by simpa using h1
    have ME := hid (show modeE x = absE (x.mode == 0) from by unfold modeE; rw [if_neg h1]; rfl)
    clear h1
    go_wp2_with (refine wp_box rfl 28 (.tmp 0) rfl (mC x rv vv bv).toArray rfl HW.out HZ.out ?_; simp only [Act.put, List.setIfInBounds_toArray, List.set_cons_zero, List.set_cons_succ])
    refine (absent_any _ _).mono ?_
    rintro e w3 ⟨rfl, rfl⟩
    obtain ⟨sv2, w2, hrun, hcol⟩ := ColE.one HS.out (absE (x.mode == 0)) (by simp)
    have RUN := hid hrun
    have COL := hid hcol
    clear hrun hcol
    go_wp2_with (at_builtin; refine wp_append_eq (by kernel_rfl) (.tmp 16) (.tmp 21) _ _ rfl _ _ sv2 w2 rfl rfl RUN.out ?_; simp only [Act.put, List.setIfInBounds_toArray, List.set_cons_zero, List.set_cons_succ])
    exact HR.out Z _ _ _ _ _ _ _ _ _ _ _ _ _ _ _ _ _ _ _ _ _ BX.out oW.out (by rw [ME.out]; exact COL.out)
set_option maxRecDepth 1000000 in
set_option maxHeartbeats 8000000 in
theorem sm_chroma (rest : Code) (Q : Exit → Act → World → Prop)  (x : MV) (rv vv bv : Value) (Z : Nat) (pre : List Int) (sv : Value) (W1 w : World) (hp : pre.length ≤ 1000) (hs : ColE W1 w sv pre) (LD : ∀ w', Only [] W1 w' → Blk w' Z 28 (mC x rv vv bv).toArray) (u0 u2 u4 u5 u6 u7 u8 u9 u10 u11 u12 u13 u14 u15 u16 u17 u18 u19 u20 u21 u22 u23 u24 u25 u26 u27 u28 u29 u30 u31 u32 u33 u34 u35 u36 u37 u38 u39 u40 u41 u42 u43 u44 u45 u46 u47 u48 u49 u50 u51 u52 u53 u54 u55 u56 u57 u58 u59 u60 u61 u62 u63 u64 u65 u66 u67 u68 u69 u70 u71 u72 u73 u74 u75 u76 u77 u78 u79 u80 u81 u82 u83 u84 u85 u86 u87 u88 u89 u90 u91 u92 u93 u94 u95 : Value)
    (hr : ∀ (sv' : Value) (w' : World) (v23 v24 v25 v26 v27 v28 v29 v30 v31 v32 v33 v34 v35 v36 v37 v38 v39 v40 v41 v42 v43 v44 : Value), ColE W1 w' sv' (pre ++ [chromaE x]) → rest.wp Tryd.prog Q ⟨#[u0, .pointer (some ⟨Z, 0, none⟩), u2, sv', u4, u5, u6, u7, u8, u9, u10, u11, u12, u13, u14, u15, u16, u17, u18, u19, u20, u21, u22, v23, v24, v25, v26, v27, v28, v29, v30, v31, v32, v33, v34, v35, v36, v37, v38, v39, v40, v41, v42, v43, v44, u45, u46, u47, u48, u49, u50, u51, u52, u53, u54, u55, u56, u57, u58, u59, u60, u61, u62, u63, u64, u65, u66, u67, u68, u69, u70, u71, u72, u73, u74, u75, u76, u77, u78, u79, u80, u81, u82, u83, u84, u85, u86, u87, u88, u89, u90, u91, u92, u93, u94, u95], []⟩ w') :
    (endWith 1 (dropSeq 3 smB) rest).wp Tryd.prog Q ⟨#[u0, .pointer (some ⟨Z, 0, none⟩), u2, sv, u4, u5, u6, u7, u8, u9, u10, u11, u12, u13, u14, u15, u16, u17, u18, u19, u20, u21, u22, u23, u24, u25, u26, u27, u28, u29, u30, u31, u32, u33, u34, u35, u36, u37, u38, u39, u40, u41, u42, u43, u44, u45, u46, u47, u48, u49, u50, u51, u52, u53, u54, u55, u56, u57, u58, u59, u60, u61, u62, u63, u64, u65, u66, u67, u68, u69, u70, u71, u72, u73, u74, u75, u76, u77, u78, u79, u80, u81, u82, u83, u84, u85, u86, u87, u88, u89, u90, u91, u92, u93, u94, u95], []⟩ w := by
  conv => arg 2; whnf; arg 2; whnf
  have HR := hid hr
  clear hr
  have BX := hid (LD w hs.only)
  have HS := hid hs
  have c0 := BX.out.cell (i := 0) (v := .int .u8 x.kind) rfl
  have c2 := BX.out.cell (i := 2) (v := .int .u8 x.chroma) rfl
  have PL := hid (show pre.length + 1 ≤ 1000000 by omega)
  clear hs LD hp
  have hk : ((x.kind = 0 ∨ x.kind = 1) ∧ ((x.kind == 0) = true ∨ ((x.kind == 0) = false ∧ (x.kind == 1) = true))) ∨ (¬ (x.kind = 0 ∨ x.kind = 1) ∧ (x.kind == 0) = false ∧ (x.kind == 1) = false) := by
    by_cases a : x.kind = 0
    · left; simp [a]
    · by_cases b : x.kind = 1
      · left; simp [b]
      · right; simp [a, b]
  rcases hk with ⟨h1, h2⟩ | ⟨h1, e0, e1⟩
  · have ME := hid (show chromaE x = rngE (decide (x.chroma ≤ 3)) from by unfold chromaE; rw [if_pos h1])
    clear h1
    rcases h2 with e0 | ⟨e0, e1⟩
    all_goals
      go_wp2_with fail
      refine (ranged_any _ _).mono ?_
      rintro e w3 ⟨rfl, rfl⟩
      obtain ⟨sv2, w2, hrun, hcol⟩ := ColE.one HS.out (rngE (decide (x.chroma ≤ 3))) PL.out
      have RUN := hid hrun
      have COL := hid hcol
      clear hrun hcol
      go_wp2_with (at_builtin; refine wp_append_eq (by kernel_rfl) (.tmp 31) (.tmp 36) _ _ rfl _ _ sv2 w2 rfl rfl RUN.out ?_; simp only [Act.put, List.setIfInBounds_toArray, List.set_cons_zero, List.set_cons_succ])
      exact HR.out _ _ _ _ _ _ _ _ _ _ _ _ _ _ _ _ _ _ _ _ _ _ _ _ (by rw [ME.out]; exact COL.out)
  · have ME := hid (show chromaE x = absE (x.chroma == 0) from by unfold chromaE; rw [if_neg h1]; rfl)
    clear h1
    go_wp2_with fail
    refine (absent_any _ _).mono ?_
    rintro e w3 ⟨rfl, rfl⟩
    obtain ⟨sv2, w2, hrun, hcol⟩ := ColE.one HS.out (absE (x.chroma == 0)) PL.out
    have RUN := hid hrun
    have COL := hid hcol
    clear hrun hcol
    go_wp2_with (at_builtin; refine wp_append_eq (by kernel_rfl) (.tmp 38) (.tmp 43) _ _ rfl _ _ sv2 w2 rfl rfl RUN.out ?_; simp only [Act.put, List.setIfInBounds_toArray, List.set_cons_zero, List.set_cons_succ])
    exact HR.out _ _ _ _ _ _ _ _ _ _ _ _ _ _ _ _ _ _ _ _ _ _ _ _ (by rw [ME.out]; exact COL.out)
set_option maxRecDepth 1000000 in
set_option maxHeartbeats 8000000 in
theorem sm_preds (rest : Code) (Q : Exit → Act → World → Prop)  (x : MV) (rv vv bv : Value) (Z : Nat) (pre : List Int) (sv : Value) (W1 w : World) (hp : pre.length ≤ 1000) (hs : ColE W1 w sv pre) (LD : ∀ w', Only [] W1 w' → Blk w' Z 28 (mC x rv vv bv).toArray) (u0 u2 u4 u5 u6 u7 u8 u9 u10 u11 u12 u13 u14 u15 u16 u17 u18 u19 u20 u21 u22 u23 u24 u25 u26 u27 u28 u29 u30 u31 u32 u33 u34 u35 u36 u37 u38 u39 u40 u41 u42 u43 u44 u45 u46 u47 u48 u49 u50 u51 u52 u53 u54 u55 u56 u57 u58 u59 u60 u61 u62 u63 u64 u65 u66 u67 u68 u69 u70 u71 u72 u73 u74 u75 u76 u77 u78 u79 u80 u81 u82 u83 u84 u85 u86 u87 u88 u89 u90 u91 u92 u93 u94 u95 : Value)
    (hr : ∀ (sv' : Value) (w' : World) (v4 v45 v46 v47 v48 v49 v50 v51 v52 v53 v54 v55 v56 v57 v58 v59 v60 v61 v62 v63 v64 v65 v66 v67 v68 v69 : Value), ColE W1 w' sv' (pre ++ x.pr.l.map (predE x.kind)) → rest.wp Tryd.prog Q ⟨#[u0, .pointer (some ⟨Z, 0, none⟩), u2, sv', v4, u5, u6, u7, u8, u9, u10, u11, u12, u13, u14, u15, u16, u17, u18, u19, u20, u21, u22, u23, u24, u25, u26, u27, u28, u29, u30, u31, u32, u33, u34, u35, u36, u37, u38, u39, u40, u41, u42, u43, u44, v45, v46, v47, v48, v49, v50, v51, v52, v53, v54, v55, v56, v57, v58, v59, v60, v61, v62, v63, v64, v65, v66, v67, v68, v69, u70, u71, u72, u73, u74, u75, u76, u77, u78, u79, u80, u81, u82, u83, u84, u85, u86, u87, u88, u89, u90, u91, u92, u93, u94, u95], []⟩ w') :
    (endWith 1 (dropSeq 4 smB) rest).wp Tryd.prog Q ⟨#[u0, .pointer (some ⟨Z, 0, none⟩), u2, sv, u4, u5, u6, u7, u8, u9, u10, u11, u12, u13, u14, u15, u16, u17, u18, u19, u20, u21, u22, u23, u24, u25, u26, u27, u28, u29, u30, u31, u32, u33, u34, u35, u36, u37, u38, u39, u40, u41, u42, u43, u44, u45, u46, u47, u48, u49, u50, u51, u52, u53, u54, u55, u56, u57, u58, u59, u60, u61, u62, u63, u64, u65, u66, u67, u68, u69, u70, u71, u72, u73, u74, u75, u76, u77, u78, u79, u80, u81, u82, u83, u84, u85, u86, u87, u88, u89, u90, u91, u92, u93, u94, u95], []⟩ w := by
  conv => arg 2; whnf; arg 2; whnf
  have HR := hid hr
  clear hr
  have L := hid LD
  have HS := hid hs
  have PL := hid hp
  clear hs LD hp
  go_wp2_with fail
  go_loopg [3, 4] 16 (fun g s t wr => ∃ i : Nat, i + g = 16 ∧ t = .int .i64 i ∧ ColE W1 wr s (pre ++ (x.pr.l.take i).map (predE x.kind)))
  case atStart => exact ⟨0, rfl, rfl, by simpa using HS.out⟩
  case round =>
    obtain ⟨i, hi, rfl, hX⟩ := hrel
    have X := hid hX
    clear hX
    obtain ⟨s, hs⟩ : ∃ s, s = u3 := ⟨_, rfl⟩
    rw [← hs] at X ⊢
    clear hs
    by_cases hg : gk = 0
    · have i1 : ¬ (i : Int) < 16 := by omega
      obtain rfl : i = 16 := by omega
      clear hi hg
      go_wp2_with fail
      exact HR.out _ _ _ _ _ _ _ _ _ _ _ _ _ _ _ _ _ _ _ _ _ _ _ _ _ _ _ _ X.out
    · obtain ⟨gg, rfl⟩ : ∃ gg, gk = gg + 1 := ⟨gk - 1, by omega⟩
      have IN := hid (show i + 1 + gg = 16 by omega)
      have i1 : (i : Int) < 16 := by omega
      have i0 : (0 : Int) ≤ (i : Int) := by omega
      obtain ⟨p, hp⟩ : ∃ p, x.pr.l[i]? = some p := ⟨_, List.getElem?_eq_getElem (show i < x.pr.l.length by show i < 16; omega)⟩
      have BX := hid (L.out wr X.out.only)
      have c0 := BX.out.cell (i := 0) (v := .int .u8 x.kind) rfl
      have cp := BX.out.cell (i := 3 + i) (v := .int .u8 p) (mC_prl x rv vv bv hp)
      have TM := hid (take_map (predE x.kind) hp)
      have LL := hid (show (pre ++ (x.pr.l.take i).map (predE x.kind)).length + 1 ≤ 1000000 by rw [List.length_append, List.length_map, List.length_take]; have := PL.out; omega)
      clear hi hg hp
      by_cases h1 : x.kind = 0
      · have e1 : (x.kind == 0) = true := by simpa using h1
        have ME := hid (show predE x.kind p = rngE (decide (p ≤ 8)) from by unfold predE; rw [if_pos h1])
        clear h1
        go_wp2_with fail
        refine (ranged_any _ _).mono ?_
        rintro e w3 ⟨rfl, rfl⟩
        obtain ⟨sv2, w2, hrun, hcol⟩ := ColE.one X.out (rngE (decide (p ≤ 8))) LL.out
        have RUN := hid hrun
        have COL := hid hcol
        clear hrun hcol
        go_wp2_with (at_builtin; refine wp_append_eq (by kernel_rfl) (.tmp 52) (.tmp 59) _ _ rfl _ _ sv2 w2 rfl rfl RUN.out ?_; simp only [Act.put, List.setIfInBounds_toArray, List.set_cons_zero, List.set_cons_succ])
        go_roundg gg
        case measure => omega
        case rel => exact ⟨i + 1, IN.out, by go_num, by rw [TM.out, ME.out, ← List.append_assoc]; exact COL.out⟩
      · have e1 : (x.kind == 0) = false := by simpa using h1
        have ME := hid (show predE x.kind p = absE (p == 0) from by unfold predE; rw [if_neg h1]; rfl)
        clear h1
        go_wp2_with fail
        refine (absent_any _ _).mono ?_
        rintro e w3 ⟨rfl, rfl⟩
        obtain ⟨sv2, w2, hrun, hcol⟩ := ColE.one X.out (absE (p == 0)) LL.out
        have RUN := hid hrun
        have COL := hid hcol
        clear hrun hcol
        go_wp2_with (at_builtin; refine wp_append_eq (by kernel_rfl) (.tmp 61) (.tmp 68) _ _ rfl _ _ sv2 w2 rfl rfl RUN.out ?_; simp only [Act.put, List.setIfInBounds_toArray, List.set_cons_zero, List.set_cons_succ])
        go_roundg gg
        case measure => omega
        case rel => exact ⟨i + 1, IN.out, by go_num, by rw [TM.out, ME.out, ← List.append_assoc]; exact COL.out⟩
set_option maxRecDepth 1000000 in
set_option maxHeartbeats 8000000 in
theorem sm_subs (rest : Code) (Q : Exit → Act → World → Prop)  (x : MV) (rv vv bv : Value) (Z : Nat) (pre : List Int) (sv : Value) (W1 w : World) (hp : pre.length ≤ 1000) (hs : ColE W1 w sv pre) (LD : ∀ w', Only [] W1 w' → Blk w' Z 28 (mC x rv vv bv).toArray) (u0 u2 u4 u5 u6 u7 u8 u9 u10 u11 u12 u13 u14 u15 u16 u17 u18 u19 u20 u21 u22 u23 u24 u25 u26 u27 u28 u29 u30 u31 u32 u33 u34 u35 u36 u37 u38 u39 u40 u41 u42 u43 u44 u45 u46 u47 u48 u49 u50 u51 u52 u53 u54 u55 u56 u57 u58 u59 u60 u61 u62 u63 u64 u65 u66 u67 u68 u69 u70 u71 u72 u73 u74 u75 u76 u77 u78 u79 u80 u81 u82 u83 u84 u85 u86 u87 u88 u89 u90 u91 u92 u93 u94 u95 : Value)
    (hr : ∀ (sv' : Value) (w' : World) (v5 v70 v71 v72 v73 v74 v75 v76 v77 v78 v79 v80 v81 v82 v83 v84 v85 v86 v87 v88 v89 v90 v91 v92 v93 v94 : Value), ColE W1 w' sv' (pre ++ x.sb.l.map (subE x.kind)) → rest.wp Tryd.prog Q ⟨#[u0, .pointer (some ⟨Z, 0, none⟩), u2, sv', u4, v5, u6, u7, u8, u9, u10, u11, u12, u13, u14, u15, u16, u17, u18, u19, u20, u21, u22, u23, u24, u25, u26, u27, u28, u29, u30, u31, u32, u33, u34, u35, u36, u37, u38, u39, u40, u41, u42, u43, u44, u45, u46, u47, u48, u49, u50, u51, u52, u53, u54, u55, u56, u57, u58, u59, u60, u61, u62, u63, u64, u65, u66, u67, u68, u69, v70, v71, v72, v73, v74, v75, v76, v77, v78, v79, v80, v81, v82, v83, v84, v85, v86, v87, v88, v89, v90, v91, v92, v93, v94, u95], []⟩ w') :
    (endWith 1 (dropSeq 5 smB) rest).wp Tryd.prog Q ⟨#[u0, .pointer (some ⟨Z, 0, none⟩), u2, sv, u4, u5, u6, u7, u8, u9, u10, u11, u12, u13, u14, u15, u16, u17, u18, u19, u20, u21, u22, u23, u24, u25, u26, u27, u28, u29, u30, u31, u32, u33, u34, u35, u36, u37, u38, u39, u40, u41, u42, u43, u44, u45, u46, u47, u48, u49, u50, u51, u52, u53, u54, u55, u56, u57, u58, u59, u60, u61, u62, u63, u64, u65, u66, u67, u68, u69, u70, u71, u72, u73, u74, u75, u76, u77, u78, u79, u80, u81, u82, u83, u84, u85, u86, u87, u88, u89, u90, u91, u92, u93, u94, u95], []⟩ w := by
  conv => arg 2; whnf; arg 2; whnf
  have HR := hid hr
  clear hr
  have L := hid LD
  have HS := hid hs
  have PL := hid hp
  clear hs LD hp
  go_wp2_with fail
  go_loopg [3, 5] 4 (fun g s t wr => ∃ i : Nat, i + g = 4 ∧ t = .int .i64 i ∧ ColE W1 wr s (pre ++ (x.sb.l.take i).map (subE x.kind)))
  case atStart => exact ⟨0, rfl, rfl, by simpa using HS.out⟩
  case round =>
    obtain ⟨i, hi, rfl, hX⟩ := hrel
    have X := hid hX
    clear hX
    obtain ⟨s, hs⟩ : ∃ s, s = u3 := ⟨_, rfl⟩
    rw [← hs] at X ⊢
    clear hs
    by_cases hg : gk = 0
    · have i1 : ¬ (i : Int) < 4 := by omega
      obtain rfl : i = 4 := by omega
      clear hi hg
      go_wp2_with fail
      exact HR.out _ _ _ _ _ _ _ _ _ _ _ _ _ _ _ _ _ _ _ _ _ _ _ _ _ _ _ _ X.out
    · obtain ⟨gg, rfl⟩ : ∃ gg, gk = gg + 1 := ⟨gk - 1, by omega⟩
      have IN := hid (show i + 1 + gg = 4 by omega)
      have i1 : (i : Int) < 4 := by omega
      have i0 : (0 : Int) ≤ (i : Int) := by omega
      obtain ⟨p, hp⟩ : ∃ p, x.sb.l[i]? = some p := ⟨_, List.getElem?_eq_getElem (show i < x.sb.l.length by show i < 4; omega)⟩
      have BX := hid (L.out wr X.out.only)
      have c0 := BX.out.cell (i := 0) (v := .int .u8 x.kind) rfl
      have cp := BX.out.cell (i := 19 + i) (v := .int .u8 p) (mC_sbl x rv vv bv hp)
      have TM := hid (take_map (subE x.kind) hp)
      have LL := hid (show (pre ++ (x.sb.l.take i).map (subE x.kind)).length + 1 ≤ 1000000 by rw [List.length_append, List.length_map, List.length_take]; have := PL.out; omega)
      clear hi hg hp
      by_cases h1 : x.kind = 6
      · have e1 : (x.kind == 6) = true := by simpa using h1
        have ME := hid (show subE x.kind p = rngE (decide (p ≤ 3)) from by unfold subE; rw [if_pos h1])
        clear h1
        go_wp2_with fail
        refine (ranged_any _ _).mono ?_
        rintro e w3 ⟨rfl, rfl⟩
        obtain ⟨sv2, w2, hrun, hcol⟩ := ColE.one X.out (rngE (decide (p ≤ 3))) LL.out
        have RUN := hid hrun
        have COL := hid hcol
        clear hrun hcol
        go_wp2_with (at_builtin; refine wp_append_eq (by kernel_rfl) (.tmp 77) (.tmp 84) _ _ rfl _ _ sv2 w2 rfl rfl RUN.out ?_; simp only [Act.put, List.setIfInBounds_toArray, List.set_cons_zero, List.set_cons_succ])
        go_roundg gg
        case measure => omega
        case rel => exact ⟨i + 1, IN.out, by go_num, by rw [TM.out, ME.out, ← List.append_assoc]; exact COL.out⟩
      · have e1 : (x.kind == 6) = false := by simpa using h1
        have ME := hid (show subE x.kind p = absE (p == 0) from by unfold subE; rw [if_neg h1]; rfl)
        clear h1
        go_wp2_with fail
        refine (absent_any _ _).mono ?_
        rintro e w3 ⟨rfl, rfl⟩
        obtain ⟨sv2, w2, hrun, hcol⟩ := ColE.one X.out (absE (p == 0)) LL.out
        have RUN := hid hrun
        have COL := hid hcol
        clear hrun hcol
        go_wp2_with (at_builtin; refine wp_append_eq (by kernel_rfl) (.tmp 86) (.tmp 93) _ _ rfl _ _ sv2 w2 rfl rfl RUN.out ?_; simp only [Act.put, List.setIfInBounds_toArray, List.set_cons_zero, List.set_cons_succ])
        go_roundg gg
        case measure => omega
        case rel => exact ⟨i + 1, IN.out, by go_num, by rw [TM.out, ME.out, ← List.append_assoc]; exact COL.out⟩
set_option maxRecDepth 1000000 in
set_option maxHeartbeats 8000000 in
theorem rsmall_any (x : MV) (rv vv bv : Value) (w : World) : Calls Tryd.prog 40 #[mV x rv vv bv] w fun e w' => ∃ sv, e = .returned sv ∧ ColE w w' sv (smallE x) := by
  go_enter Tryd.func40, Tryd.ntmps40
  generalize hq : (Code.seq _ _) = cc
  have hcc : cc = endWith 3 smB (dropSeq 3 smB) := by rw [← hq]; kernel_rfl
  rw [hcc]
  clear hq hcc
  refine sm_mode _ _ x rv vv bv w _ _ _ _ _ _ _ _ _ _ _ _ _ _ _ _ _ _ _ _ _ _ _ _ _ _ _ _ _ _ _ _ _ _ _ _ _ _ _ _ _ _ _ _ _ _ _ _ _ _ _ _ _ _ _ _ _ _ _ _ _ _ _ _ _ _ _ _ _ _ _ _ _ _ _ _ _ _ _ _ _ _ _ _ _ _ _ _ _ _ _ _ _ _ _ (fun Z W1 s2 w2 v2 v6 v7 v8 v9 v10 v11 v12 v13 v14 v15 v16 v17 v18 v19 v20 v21 v22 bX oW h2 => ?_)
  have L := hid (fun w' (o : Only [] W1 w') => bX.only o (by simp))
  rw [show dropSeq 3 smB = endWith 1 (dropSeq 3 smB) (dropSeq 4 smB) from by kernel_rfl]
  refine sm_chroma _ _ x rv vv bv Z _ _ W1 _ (by simp) h2 (fun w' o => L.out w' o) _ _ _ _ _ _ _ _ _ _ _ _ _ _ _ _ _ _ _ _ _ _ _ _ _ _ _ _ _ _ _ _ _ _ _ _ _ _ _ _ _ _ _ _ _ _ _ _ _ _ _ _ _ _ _ _ _ _ _ _ _ _ _ _ _ _ _ _ _ _ _ _ _ _ _ _ _ _ _ _ _ _ _ _ _ _ _ _ _ _ _ _ _ _ (fun s3 w3 v23 v24 v25 v26 v27 v28 v29 v30 v31 v32 v33 v34 v35 v36 v37 v38 v39 v40 v41 v42 v43 v44 h3 => ?_)
  rw [show dropSeq 4 smB = endWith 1 (dropSeq 4 smB) (dropSeq 5 smB) from by kernel_rfl]
  refine sm_preds _ _ x rv vv bv Z _ _ W1 _ (by simp) h3 (fun w' o => L.out w' o) _ _ _ _ _ _ _ _ _ _ _ _ _ _ _ _ _ _ _ _ _ _ _ _ _ _ _ _ _ _ _ _ _ _ _ _ _ _ _ _ _ _ _ _ _ _ _ _ _ _ _ _ _ _ _ _ _ _ _ _ _ _ _ _ _ _ _ _ _ _ _ _ _ _ _ _ _ _ _ _ _ _ _ _ _ _ _ _ _ _ _ _ _ _ (fun s4 w4 v4 v45 v46 v47 v48 v49 v50 v51 v52 v53 v54 v55 v56 v57 v58 v59 v60 v61 v62 v63 v64 v65 v66 v67 v68 v69 h4 => ?_)
  rw [show dropSeq 5 smB = endWith 1 (dropSeq 5 smB) (dropSeq 6 smB) from by kernel_rfl]
  refine sm_subs _ _ x rv vv bv Z _ _ W1 _ (by simp [P16.l]) h4 (fun w' o => L.out w' o) _ _ _ _ _ _ _ _ _ _ _ _ _ _ _ _ _ _ _ _ _ _ _ _ _ _ _ _ _ _ _ _ _ _ _ _ _ _ _ _ _ _ _ _ _ _ _ _ _ _ _ _ _ _ _ _ _ _ _ _ _ _ _ _ _ _ _ _ _ _ _ _ _ _ _ _ _ _ _ _ _ _ _ _ _ _ _ _ _ _ _ _ _ _ (fun s5 w5 v5 v70 v71 v72 v73 v74 v75 v76 v77 v78 v79 v80 v81 v82 v83 v84 v85 v86 v87 v88 v89 v90 v91 v92 v93 v94 h5 => ?_)
  have H5 := hid (show ColE w w5 s5 (smallE x) from ⟨h5.row, fun g hg => Nat.le_trans oW.1.size (h5.new g hg), oW.1.trans h5.only⟩)
  clear h2 h3 h4 h5 bX oW L
  conv => arg 2; whnf
  go_wp2_with fail
  go_ret
  exact ⟨_, rfl, H5.out⟩
end Go.Proofs.YtpmmnjeomdjakaaDoor

end
section
set_option maxRecDepth 20000
namespace Go.Proofs.YtpmmnjeomdjakaaDoor
open Go.RowKit
set_option linter.unusedVariables false
set_option linter.unusedSimpArgs false

noncomputable def blB : Code := Tryd.f57.body.getD .skip
def bitI : Nat → Int
  | 0 => 1
  | 1 => 2
  | 2 => 4
  | 3 => 8
  | _ => 16
theorem lumaB_len (cat : Int) (c : Nat) : ∀ i, (lumaB cat c i).length ≤ 4 * i := by
  intro i
  induction i with
  | zero => simp [lumaB]
  | succ i ih =>
    rw [lumaB, List.length_append]
    split
    · simp [quarterB]; omega
    · simp; omega
theorem quarterB_take (cat : Int) (i k : Nat) (h : k < 4) : (quarterB cat i).take (k + 1) = (quarterB cat i).take k ++ [(cat, 0, 4 * (i : Int) + (k : Int))] := by
  obtain rfl | rfl | rfl | rfl : k = 0 ∨ k = 1 ∨ k = 2 ∨ k = 3 := by omega
  all_goals simp [quarterB]
theorem take_q_len (cat : Int) (i k : Nat) : ((quarterB cat i).take k).length ≤ 4 := Nat.le_trans (List.length_take_le' k _) (Nat.le_of_eq rfl)
set_option maxRecDepth 1000000 in
set_option maxHeartbeats 8000000 in
theorem bl_luma (rest : Code) (Q : Exit → Act → World → Prop)  (Z c : Nat) (cat : Int) (pre : List Cod) (sv : Value) (W1 w : World) (hc : c < 256) (hp : pre.length ≤ 1) (hs : ColC W1 w sv pre) (LD : ∀ w', Only [] W1 w' → w'.cell? ⟨Z, 25, none⟩ = some (.int .u8 (c : Int))) (u0 u2 u5 u6 u7 u8 u9 u10 u11 u12 u13 u14 u15 u16 u17 u18 u19 u20 u21 u22 u23 u24 u25 u26 u27 u28 u29 u30 u31 u32 u33 u34 u35 u36 u37 u38 u39 u40 u41 u42 u43 u44 u45 u46 u47 u48 u49 u50 u51 u52 u53 u54 u55 u56 u57 u58 u59 u60 u61 u62 u63 u64 u65 u66 u67 u68 u69 u70 u71 u72 u73 u74 u75 : Value)
    (hr : ∀ (sv' : Value) (w' : World) (v5 v6 v7 v20 v21 v22 v23 v24 v25 v26 v27 v28 v29 v30 v31 v32 v33 v34 v35 v36 v37 v38 v39 v40 v41 v42 v43 v44 v45 v46 : Value), ColC W1 w' sv' (pre ++ lumaB cat c 4) → rest.wp Tryd.prog Q ⟨#[u0, .pointer (some ⟨Z, 0, none⟩), u2, sv', .int .u8 cat, v5, v6, v7, u8, u9, u10, u11, u12, u13, u14, u15, u16, u17, u18, u19, v20, v21, v22, v23, v24, v25, v26, v27, v28, v29, v30, v31, v32, v33, v34, v35, v36, v37, v38, v39, v40, v41, v42, v43, v44, v45, v46, u47, u48, u49, u50, u51, u52, u53, u54, u55, u56, u57, u58, u59, u60, u61, u62, u63, u64, u65, u66, u67, u68, u69, u70, u71, u72, u73, u74, u75], []⟩ w') :
    (endWith 2 (dropSeq 5 blB) rest).wp Tryd.prog Q ⟨#[u0, .pointer (some ⟨Z, 0, none⟩), u2, sv, .int .u8 cat, u5, u6, u7, u8, u9, u10, u11, u12, u13, u14, u15, u16, u17, u18, u19, u20, u21, u22, u23, u24, u25, u26, u27, u28, u29, u30, u31, u32, u33, u34, u35, u36, u37, u38, u39, u40, u41, u42, u43, u44, u45, u46, u47, u48, u49, u50, u51, u52, u53, u54, u55, u56, u57, u58, u59, u60, u61, u62, u63, u64, u65, u66, u67, u68, u69, u70, u71, u72, u73, u74, u75], []⟩ w := by
  conv => arg 2; whnf; arg 2; whnf; arg 2; whnf
  have HR := hid hr
  clear hr
  have L := hid LD
  have HS := hid hs
  have c0 : (0 : Int) ≤ (c : Int) := by omega
  have c1 : (c : Int) ≤ 255 := by omega
  clear LD hs hc
  go_wp2_with fail
  go_loopg [3, 5, 6] 4 (fun g s b t wr => ∃ i : Nat, i + g = 4 ∧ t = .int .i64 i ∧ b = .int .u8 (bitI i) ∧ ColC W1 wr s (pre ++ lumaB cat c i))
  case atStart => exact ⟨0, rfl, rfl, rfl, by simpa [lumaB] using HS.out⟩
  case round =>
    obtain ⟨i, hi, rfl, rfl, hX⟩ := hrel
    have X := hid hX
    clear hX
    obtain ⟨s, hs⟩ : ∃ s, s = u3 := ⟨_, rfl⟩
    rw [← hs] at X ⊢
    clear hs
    by_cases hg : gk = 0
    · obtain rfl : i = 4 := by omega
      clear hi hg
      go_wp2_with fail
      exact HR.out _ _ _ _ _ _ _ _ _ _ _ _ _ _ _ _ _ _ _ _ _ _ _ _ _ _ _ _ _ _ _ _ X.out
    · obtain ⟨gg, rfl⟩ : ∃ gg, gk = gg + 1 := ⟨gk - 1, by omega⟩
      have IN := hid (show i + 1 + gg = 4 by omega)
      have cr := L.out wr X.out.only
      by_cases hb : c / 2 ^ i % 2 = 1
      · have LS := hid (show lumaB cat c (i + 1) = lumaB cat c i ++ quarterB cat i from by rw [lumaB, if_pos hb])
        obtain rfl | rfl | rfl | rfl : i = 0 ∨ i = 1 ∨ i = 2 ∨ i = 3 := by omega
        · simp only [bitI]
          have q1 : (c : Int) % 2 = 1 := by simp only [Nat.reducePow] at hb; omega
          obtain ⟨l0, hl0⟩ : ∃ l, l = pre ++ lumaB cat c 0 := ⟨_, rfl⟩
          rw [← hl0] at X
          have E0 := hid hl0
          have L0 := hid (show l0.length ≤ 13 from by rw [hl0, List.length_append]; have := lumaB_len cat c 0; omega)
          clear hb hl0 hi hg hp
          go_wp2_with fail
          go_loopg [3, 7] 4 (fun g s t w' => ∃ k : Nat, k + g = 4 ∧ t = .int .i64 k ∧ ColC W1 w' s (l0 ++ (quarterB cat 0).take k))
          case atStart => exact ⟨0, rfl, rfl, by simpa using X.out⟩
          case round =>
            obtain ⟨k, hk, rfl, hY⟩ := hrel
            have Y := hid hY
            clear hY
            obtain ⟨s2, hs2⟩ : ∃ s, s = u3 := ⟨_, rfl⟩
            rw [← hs2] at Y ⊢
            clear hs2
            by_cases hg : gk = 0
            · have k1 : ¬ (k : Int) < 4 := by omega
              obtain rfl : k = 4 := by omega
              clear hk hg
              go_wp2_with fail
              go_roundg gg
              case measure => omega
              case rel => exact ⟨1, IN.out, by go_num, rfl, by rw [show lumaB cat c 1 = lumaB cat c 0 ++ quarterB cat 0 from LS.out, ← List.append_assoc, ← E0.out]; exact Y.out⟩
            · obtain ⟨g2, rfl⟩ : ∃ g2, gk = g2 + 1 := ⟨gk - 1, by omega⟩
              have KN := hid (show k + 1 + g2 = 4 by omega)
              have k1 : (k : Int) < 4 := by omega
              have k0 : (0 : Int) ≤ (k : Int) := by omega
              have c25 := L.out _ Y.out.only
              have QT := hid (quarterB_take cat 0 k (by omega))
              obtain ⟨sv2, w2, hrun, hcol⟩ := Y.out.one ((cat, 0, (k : Int)) : Cod) (by rw [List.length_append]; have := L0.out; have := take_q_len cat 0 k; omega)
              have RUN := hid hrun
              have COL := hid hcol
              clear hrun hcol hk hg
              go_wp2_with (at_builtin; refine wp_append_eq (by kernel_rfl) (.tmp 36) (.tmp 43) _ _ rfl _ _ sv2 w2 rfl rfl RUN.out ?_; simp only [Act.put, List.setIfInBounds_toArray, List.set_cons_zero, List.set_cons_succ])
              go_roundg g2
              case measure => omega
              case rel => exact ⟨k + 1, KN.out, by go_num, by rw [QT.out, ← List.append_assoc]; have := COL.out; simpa using this⟩
        · simp only [bitI]
          have q1 : (c : Int) / 2 % 2 = 1 := by simp only [Nat.reducePow] at hb; omega
          obtain ⟨l0, hl0⟩ : ∃ l, l = pre ++ lumaB cat c 1 := ⟨_, rfl⟩
          rw [← hl0] at X
          have E0 := hid hl0
          have L0 := hid (show l0.length ≤ 13 from by rw [hl0, List.length_append]; have := lumaB_len cat c 1; omega)
          clear hb hl0 hi hg hp
          go_wp2_with fail
          go_loopg [3, 7] 4 (fun g s t w' => ∃ k : Nat, k + g = 4 ∧ t = .int .i64 k ∧ ColC W1 w' s (l0 ++ (quarterB cat 1).take k))
          case atStart => exact ⟨0, rfl, rfl, by simpa using X.out⟩
          case round =>
            obtain ⟨k, hk, rfl, hY⟩ := hrel
            have Y := hid hY
            clear hY
            obtain ⟨s2, hs2⟩ : ∃ s, s = u3 := ⟨_, rfl⟩
            rw [← hs2] at Y ⊢
            clear hs2
            by_cases hg : gk = 0
            · have k1 : ¬ (k : Int) < 4 := by omega
              obtain rfl : k = 4 := by omega
              clear hk hg
              go_wp2_with fail
              go_roundg gg
              case measure => omega
              case rel => exact ⟨2, IN.out, by go_num, rfl, by rw [show lumaB cat c 2 = lumaB cat c 1 ++ quarterB cat 1 from LS.out, ← List.append_assoc, ← E0.out]; exact Y.out⟩
            · obtain ⟨g2, rfl⟩ : ∃ g2, gk = g2 + 1 := ⟨gk - 1, by omega⟩
              have KN := hid (show k + 1 + g2 = 4 by omega)
              have k1 : (k : Int) < 4 := by omega
              have k0 : (0 : Int) ≤ (k : Int) := by omega
              have c25 := L.out _ Y.out.only
              have QT := hid (quarterB_take cat 1 k (by omega))
              obtain ⟨sv2, w2, hrun, hcol⟩ := Y.out.one ((cat, 0, 4 + (k : Int)) : Cod) (by rw [List.length_append]; have := L0.out; have := take_q_len cat 1 k; omega)
              have RUN := hid hrun
              have COL := hid hcol
              clear hrun hcol hk hg
              go_wp2_with (at_builtin; refine wp_append_eq (by kernel_rfl) (.tmp 36) (.tmp 43) _ _ rfl _ _ sv2 w2 rfl rfl RUN.out ?_; simp only [Act.put, List.setIfInBounds_toArray, List.set_cons_zero, List.set_cons_succ])
              go_roundg g2
              case measure => omega
              case rel => exact ⟨k + 1, KN.out, by go_num, by rw [QT.out, ← List.append_assoc]; have := COL.out; simpa using this⟩
        · simp only [bitI]
          have q1 : (c : Int) / 4 % 2 = 1 := by simp only [Nat.reducePow] at hb; omega
          obtain ⟨l0, hl0⟩ : ∃ l, l = pre ++ lumaB cat c 2 := ⟨_, rfl⟩
          rw [← hl0] at X
          have E0 := hid hl0
          have L0 := hid (show l0.length ≤ 13 from by rw [hl0, List.length_append]; have := lumaB_len cat c 2; omega)
          clear hb hl0 hi hg hp
          go_wp2_with fail
          go_loopg [3, 7] 4 (fun g s t w' => ∃ k : Nat, k + g = 4 ∧ t = .int .i64 k ∧ ColC W1 w' s (l0 ++ (quarterB cat 2).take k))
          case atStart => exact ⟨0, rfl, rfl, by simpa using X.out⟩
          case round =>
            obtain ⟨k, hk, rfl, hY⟩ := hrel
            have Y := hid hY
            clear hY
            obtain ⟨s2, hs2⟩ : ∃ s, s = u3 := ⟨_, rfl⟩
            rw [← hs2] at Y ⊢
            clear hs2
            by_cases hg : gk = 0
            · have k1 : ¬ (k : Int) < 4 := by omega
              obtain rfl : k = 4 := by omega
              clear hk hg
              go_wp2_with fail
              go_roundg gg
              case measure => omega
              case rel => exact ⟨3, IN.out, by go_num, rfl, by rw [show lumaB cat c 3 = lumaB cat c 2 ++ quarterB cat 2 from LS.out, ← List.append_assoc, ← E0.out]; exact Y.out⟩
            · obtain ⟨g2, rfl⟩ : ∃ g2, gk = g2 + 1 := ⟨gk - 1, by omega⟩
              have KN := hid (show k + 1 + g2 = 4 by omega)
              have k1 : (k : Int) < 4 := by omega
              have k0 : (0 : Int) ≤ (k : Int) := by omega
              have c25 := L.out _ Y.out.only
              have QT := hid (quarterB_take cat 2 k (by omega))
              obtain ⟨sv2, w2, hrun, hcol⟩ := Y.out.one ((cat, 0, 8 + (k : Int)) : Cod) (by rw [List.length_append]; have := L0.out; have := take_q_len cat 2 k; omega)
              have RUN := hid hrun
              have COL := hid hcol
              clear hrun hcol hk hg
              go_wp2_with (at_builtin; refine wp_append_eq (by kernel_rfl) (.tmp 36) (.tmp 43) _ _ rfl _ _ sv2 w2 rfl rfl RUN.out ?_; simp only [Act.put, List.setIfInBounds_toArray, List.set_cons_zero, List.set_cons_succ])
              go_roundg g2
              case measure => omega
              case rel => exact ⟨k + 1, KN.out, by go_num, by rw [QT.out, ← List.append_assoc]; have := COL.out; simpa using this⟩
        · simp only [bitI]
          have q1 : (c : Int) / 8 % 2 = 1 := by simp only [Nat.reducePow] at hb; omega
          obtain ⟨l0, hl0⟩ : ∃ l, l = pre ++ lumaB cat c 3 := ⟨_, rfl⟩
          rw [← hl0] at X
          have E0 := hid hl0
          have L0 := hid (show l0.length ≤ 13 from by rw [hl0, List.length_append]; have := lumaB_len cat c 3; omega)
          clear hb hl0 hi hg hp
          go_wp2_with fail
          go_loopg [3, 7] 4 (fun g s t w' => ∃ k : Nat, k + g = 4 ∧ t = .int .i64 k ∧ ColC W1 w' s (l0 ++ (quarterB cat 3).take k))
          case atStart => exact ⟨0, rfl, rfl, by simpa using X.out⟩
          case round =>
            obtain ⟨k, hk, rfl, hY⟩ := hrel
            have Y := hid hY
            clear hY
            obtain ⟨s2, hs2⟩ : ∃ s, s = u3 := ⟨_, rfl⟩
            rw [← hs2] at Y ⊢
            clear hs2
            by_cases hg : gk = 0
            · have k1 : ¬ (k : Int) < 4 := by omega
              obtain rfl : k = 4 := by omega
              clear hk hg
              go_wp2_with fail
              go_roundg gg
              case measure => omega
              case rel => exact ⟨4, IN.out, by go_num, rfl, by rw [show lumaB cat c 4 = lumaB cat c 3 ++ quarterB cat 3 from LS.out, ← List.append_assoc, ← E0.out]; exact Y.out⟩
            · obtain ⟨g2, rfl⟩ : ∃ g2, gk = g2 + 1 := ⟨gk - 1, by omega⟩
              have KN := hid (show k + 1 + g2 = 4 by omega)
              have k1 : (k : Int) < 4 := by omega
              have k0 : (0 : Int) ≤ (k : Int) := by omega
              have c25 := L.out _ Y.out.only
              have QT := hid (quarterB_take cat 3 k (by omega))
              obtain ⟨sv2, w2, hrun, hcol⟩ := Y.out.one ((cat, 0, 12 + (k : Int)) : Cod) (by rw [List.length_append]; have := L0.out; have := take_q_len cat 3 k; omega)
              have RUN := hid hrun
              have COL := hid hcol
              clear hrun hcol hk hg
              go_wp2_with (at_builtin; refine wp_append_eq (by kernel_rfl) (.tmp 36) (.tmp 43) _ _ rfl _ _ sv2 w2 rfl rfl RUN.out ?_; simp only [Act.put, List.setIfInBounds_toArray, List.set_cons_zero, List.set_cons_succ])
              go_roundg g2
              case measure => omega
              case rel => exact ⟨k + 1, KN.out, by go_num, by rw [QT.out, ← List.append_assoc]; have := COL.out; simpa using this⟩

      · have LS := hid (show lumaB cat c (i + 1) = lumaB cat c i from by rw [lumaB, if_neg hb, List.append_nil])
        obtain rfl | rfl | rfl | rfl : i = 0 ∨ i = 1 ∨ i = 2 ∨ i = 3 := by omega
        · simp only [bitI]
          have q1 : ((c : Int) % 2 == 1) = false := by simp only [Nat.reducePow] at hb; rw [beq_eq_false_iff_ne]; omega
          clear hb hi hg hp
          go_wp2_with fail
          go_loopg [3, 7] 1 (fun g s' t w' => t = .int .i64 0 ∧ ColC W1 w' s' (pre ++ lumaB cat c 0))
          case atStart => exact ⟨rfl, X.out⟩
          case round =>
            obtain ⟨rfl, hY⟩ := hrel
            have Y := hid hY
            clear hY
            obtain ⟨s2, hs2⟩ : ∃ s, s = u3 := ⟨_, rfl⟩
            rw [← hs2] at Y ⊢
            clear hs2
            have c25 := L.out _ Y.out.only
            go_wp2_with fail
            go_roundg gg
            case measure => omega
            case rel => exact ⟨1, IN.out, by go_num, rfl, by rw [show lumaB cat c 1 = lumaB cat c 0 from LS.out]; exact Y.out⟩
        · simp only [bitI]
          have q1 : ((c : Int) / 2 % 2 == 1) = false := by simp only [Nat.reducePow] at hb; rw [beq_eq_false_iff_ne]; omega
          clear hb hi hg hp
          go_wp2_with fail
          go_loopg [3, 7] 1 (fun g s' t w' => t = .int .i64 0 ∧ ColC W1 w' s' (pre ++ lumaB cat c 1))
          case atStart => exact ⟨rfl, X.out⟩
          case round =>
            obtain ⟨rfl, hY⟩ := hrel
            have Y := hid hY
            clear hY
            obtain ⟨s2, hs2⟩ : ∃ s, s = u3 := ⟨_, rfl⟩
            rw [← hs2] at Y ⊢
            clear hs2
            have c25 := L.out _ Y.out.only
            go_wp2_with fail
            go_roundg gg
            case measure => omega
            case rel => exact ⟨2, IN.out, by go_num, rfl, by rw [show lumaB cat c 2 = lumaB cat c 1 from LS.out]; exact Y.out⟩
        · simp only [bitI]
          have q1 : ((c : Int) / 4 % 2 == 1) = false := by simp only [Nat.reducePow] at hb; rw [beq_eq_false_iff_ne]; omega
          clear hb hi hg hp
          go_wp2_with fail
          go_loopg [3, 7] 1 (fun g s' t w' => t = .int .i64 0 ∧ ColC W1 w' s' (pre ++ lumaB cat c 2))
          case atStart => exact ⟨rfl, X.out⟩
          case round =>
            obtain ⟨rfl, hY⟩ := hrel
            have Y := hid hY
            clear hY
            obtain ⟨s2, hs2⟩ : ∃ s, s = u3 := ⟨_, rfl⟩
            rw [← hs2] at Y ⊢
            clear hs2
            have c25 := L.out _ Y.out.only
            go_wp2_with fail
            go_roundg gg
            case measure => omega
            case rel => exact ⟨3, IN.out, by go_num, rfl, by rw [show lumaB cat c 3 = lumaB cat c 2 from LS.out]; exact Y.out⟩
        · simp only [bitI]
          have q1 : ((c : Int) / 8 % 2 == 1) = false := by simp only [Nat.reducePow] at hb; rw [beq_eq_false_iff_ne]; omega
          clear hb hi hg hp
          go_wp2_with fail
          go_loopg [3, 7] 1 (fun g s' t w' => t = .int .i64 0 ∧ ColC W1 w' s' (pre ++ lumaB cat c 3))
          case atStart => exact ⟨rfl, X.out⟩
          case round =>
            obtain ⟨rfl, hY⟩ := hrel
            have Y := hid hY
            clear hY
            obtain ⟨s2, hs2⟩ : ∃ s, s = u3 := ⟨_, rfl⟩
            rw [← hs2] at Y ⊢
            clear hs2
            have c25 := L.out _ Y.out.only
            go_wp2_with fail
            go_roundg gg
            case measure => omega
            case rel => exact ⟨4, IN.out, by go_num, rfl, by rw [show lumaB cat c 4 = lumaB cat c 3 from LS.out]; exact Y.out⟩

set_option maxRecDepth 1000000 in
set_option maxHeartbeats 8000000 in
theorem bl_dc (rest : Code) (Q : Exit → Act → World → Prop)  (Z c : Nat) (pre : List Cod) (sv : Value) (W1 w : World) (hc : c < 256) (hp : pre.length ≤ 20) (hs : ColC W1 w sv pre) (LD : ∀ w', Only [] W1 w' → w'.cell? ⟨Z, 25, none⟩ = some (.int .u8 (c : Int))) (u0 u2 u4 u5 u6 u7 u8 u9 u10 u11 u12 u13 u14 u15 u16 u17 u18 u19 u20 u21 u22 u23 u24 u25 u26 u27 u28 u29 u30 u31 u32 u33 u34 u35 u36 u37 u38 u39 u40 u41 u42 u43 u44 u45 u46 u47 u48 u49 u50 u51 u52 u53 u54 u55 u56 u57 u58 u59 u60 u61 u62 u63 u64 u65 u66 u67 u68 u69 u70 u71 u72 u73 u74 u75 : Value)
    (hr : ∀ (sv' : Value) (w' : World) (v47 v48 v49 v50 v51 v52 v53 v54 v55 : Value), ColC W1 w' sv' (pre ++ (if c / 16 = 0 then [] else dcB)) → rest.wp Tryd.prog Q ⟨#[u0, .pointer (some ⟨Z, 0, none⟩), u2, sv', u4, u5, u6, u7, u8, u9, u10, u11, u12, u13, u14, u15, u16, u17, u18, u19, u20, u21, u22, u23, u24, u25, u26, u27, u28, u29, u30, u31, u32, u33, u34, u35, u36, u37, u38, u39, u40, u41, u42, u43, u44, u45, u46, v47, v48, v49, v50, v51, v52, v53, v54, v55, u56, u57, u58, u59, u60, u61, u62, u63, u64, u65, u66, u67, u68, u69, u70, u71, u72, u73, u74, u75], []⟩ w') :
    (endWith 1 (dropSeq 7 blB) rest).wp Tryd.prog Q ⟨#[u0, .pointer (some ⟨Z, 0, none⟩), u2, sv, u4, u5, u6, u7, u8, u9, u10, u11, u12, u13, u14, u15, u16, u17, u18, u19, u20, u21, u22, u23, u24, u25, u26, u27, u28, u29, u30, u31, u32, u33, u34, u35, u36, u37, u38, u39, u40, u41, u42, u43, u44, u45, u46, u47, u48, u49, u50, u51, u52, u53, u54, u55, u56, u57, u58, u59, u60, u61, u62, u63, u64, u65, u66, u67, u68, u69, u70, u71, u72, u73, u74, u75], []⟩ w := by
  conv => arg 2; whnf; arg 2; whnf
  have HR := hid hr
  clear hr
  have c25 := LD w hs.only
  have c0 : (0 : Int) ≤ (c : Int) := by omega
  have c1 : (c : Int) ≤ 255 := by omega
  by_cases hz : c / 16 = 0
  · rw [if_pos hz] at HR
    have q1 : ((c : Int) / 16 != 0) = false := by simp; omega
    have HS := hid hs
    clear hz LD hs hc
    go_wp2_with fail
    exact HR.out _ _ _ _ _ _ _ _ _ _ _ (by rw [List.append_nil]; exact HS.out)
  · rw [if_neg hz] at HR
    have q1 : ((c : Int) / 16 != 0) = true := by simp; omega
    obtain ⟨sv2, w2, hrun, hcol⟩ := hs.two (3, 0, 0) (3, 1, 0) (by omega)
    have RUN := hid hrun
    have COL := hid hcol
    clear hz LD hs hrun hcol hc
    go_wp2_with (at_builtin; refine wp_append_eq (by kernel_rfl) (.tmp 51) (.tmp 54) _ _ rfl _ _ sv2 w2 rfl rfl RUN.out ?_; simp only [Act.put, List.setIfInBounds_toArray, List.set_cons_zero, List.set_cons_succ])
    exact HR.out _ _ _ _ _ _ _ _ _ _ _ COL.out
set_option maxRecDepth 1000000 in
set_option maxHeartbeats 8000000 in
theorem bl_ac (rest : Code) (Q : Exit → Act → World → Prop)  (Z c : Nat) (pre : List Cod) (sv : Value) (W1 w : World) (hc : c < 256) (hp : pre.length ≤ 20) (hs : ColC W1 w sv pre) (LD : ∀ w', Only [] W1 w' → w'.cell? ⟨Z, 25, none⟩ = some (.int .u8 (c : Int))) (u0 u2 u4 u5 u6 u7 u8 u9 u10 u11 u12 u13 u14 u15 u16 u17 u18 u19 u20 u21 u22 u23 u24 u25 u26 u27 u28 u29 u30 u31 u32 u33 u34 u35 u36 u37 u38 u39 u40 u41 u42 u43 u44 u45 u46 u47 u48 u49 u50 u51 u52 u53 u54 u55 u56 u57 u58 u59 u60 u61 u62 u63 u64 u65 u66 u67 u68 u69 u70 u71 u72 u73 u74 u75 : Value)
    (hr : ∀ (sv' : Value) (w' : World) (v8 v56 v57 v58 v59 v60 v61 v62 v63 v64 v65 v66 v67 v68 v69 v70 v71 v72 v73 v74 : Value), ColC W1 w' sv' (pre ++ (if c / 16 = 2 then acB else [])) → rest.wp Tryd.prog Q ⟨#[u0, .pointer (some ⟨Z, 0, none⟩), u2, sv', u4, u5, u6, u7, v8, u9, u10, u11, u12, u13, u14, u15, u16, u17, u18, u19, u20, u21, u22, u23, u24, u25, u26, u27, u28, u29, u30, u31, u32, u33, u34, u35, u36, u37, u38, u39, u40, u41, u42, u43, u44, u45, u46, u47, u48, u49, u50, u51, u52, u53, u54, u55, v56, v57, v58, v59, v60, v61, v62, v63, v64, v65, v66, v67, v68, v69, v70, v71, v72, v73, v74, u75], []⟩ w') :
    (endWith 1 (dropSeq 8 blB) rest).wp Tryd.prog Q ⟨#[u0, .pointer (some ⟨Z, 0, none⟩), u2, sv, u4, u5, u6, u7, u8, u9, u10, u11, u12, u13, u14, u15, u16, u17, u18, u19, u20, u21, u22, u23, u24, u25, u26, u27, u28, u29, u30, u31, u32, u33, u34, u35, u36, u37, u38, u39, u40, u41, u42, u43, u44, u45, u46, u47, u48, u49, u50, u51, u52, u53, u54, u55, u56, u57, u58, u59, u60, u61, u62, u63, u64, u65, u66, u67, u68, u69, u70, u71, u72, u73, u74, u75], []⟩ w := by
  conv => arg 2; whnf; arg 2; whnf
  have HR := hid hr
  clear hr
  have L := hid LD
  have HS := hid hs
  have c0 : (0 : Int) ≤ (c : Int) := by omega
  have c1 : (c : Int) ≤ 255 := by omega
  by_cases hz : c / 16 = 2
  · rw [if_pos hz] at HR
    have q1 : ((c : Int) / 16 == 2) = true := by simp; omega
    have PL := hid hp
    clear hz LD hs hc
    go_wp2_with fail
    go_loopg [3, 8] 8 (fun g s t w' => ∃ k : Nat, k + g = 8 ∧ t = .int .i64 k ∧ ColC W1 w' s (pre ++ acB.take k))
    case atStart => exact ⟨0, rfl, rfl, by simpa using HS.out⟩
    case round =>
      obtain ⟨k, hk, rfl, hY⟩ := hrel
      have Y := hid hY
      clear hY
      obtain ⟨s2, hs2⟩ : ∃ s, s = u3 := ⟨_, rfl⟩
      rw [← hs2] at Y ⊢
      clear hs2
      by_cases hg : gk = 0
      · have k1 : ¬ (k : Int) < 8 := by omega
        obtain rfl : k = 8 := by omega
        clear hk hg
        go_wp2_with fail
        exact HR.out _ _ _ _ _ _ _ _ _ _ _ _ _ _ _ _ _ _ _ _ _ _ Y.out
      · obtain ⟨g2, rfl⟩ : ∃ g2, gk = g2 + 1 := ⟨gk - 1, by omega⟩
        have KN := hid (show k + 1 + g2 = 8 by omega)
        have k1 : (k : Int) < 8 := by omega
        have k0 : (0 : Int) ≤ (k : Int) := by omega
        have c25 := L.out _ Y.out.only
        have QT := hid (show acB.take (k + 1) = acB.take k ++ [(4, (k : Int) / 4, (k : Int) % 4)] from by
          obtain rfl | rfl | rfl | rfl | rfl | rfl | rfl | rfl : k = 0 ∨ k = 1 ∨ k = 2 ∨ k = 3 ∨ k = 4 ∨ k = 5 ∨ k = 6 ∨ k = 7 := by omega
          all_goals rfl)
        obtain ⟨sv2, w2, hrun, hcol⟩ := Y.out.one ((4, (k : Int) / 4, (k : Int) % 4) : Cod) (by rw [List.length_append]; have := PL.out; have : (acB.take k).length ≤ 8 := Nat.le_trans (List.length_take_le' k _) (Nat.le_of_eq rfl); omega)
        have RUN := hid hrun
        have COL := hid hcol
        clear hrun hcol hk hg
        go_wp2_with (at_builtin; refine wp_append_eq (by kernel_rfl) (.tmp 66) (.tmp 73) _ _ rfl _ _ sv2 w2 rfl rfl RUN.out ?_; simp only [Act.put, List.setIfInBounds_toArray, List.set_cons_zero, List.set_cons_succ])
        go_roundg g2
        case measure => omega
        case rel => exact ⟨k + 1, KN.out, by go_num, by rw [QT.out, ← List.append_assoc]; exact COL.out⟩
  · rw [if_neg hz] at HR
    have q1 : ((c : Int) / 16 == 2) = false := by simp; omega
    clear hz LD hs hc hp
    go_wp2_with fail
    go_loopg [3, 8] 1 (fun g s t w' => t = .int .i64 0 ∧ ColC W1 w' s pre)
    case atStart => exact ⟨rfl, HS.out⟩
    case round =>
      obtain ⟨rfl, hY⟩ := hrel
      have Y := hid hY
      clear hY
      obtain ⟨s2, hs2⟩ : ∃ s, s = u3 := ⟨_, rfl⟩
      rw [← hs2] at Y ⊢
      clear hs2
      have c25 := L.out _ Y.out.only
      go_wp2_with fail
      exact HR.out _ _ _ _ _ _ _ _ _ _ _ _ _ _ _ _ _ _ _ _ _ _ (by rw [List.append_nil]; exact Y.out)
set_option maxRecDepth 1000000 in
set_option maxHeartbeats 8000000 in
theorem bl_begin (rest : Code) (Q : Exit → Act → World → Prop)  (x : MV) (rv vv bv : Value) (k : Nat) (w : World) (hk : x.kind = k) (hcd : codedI (k : Int) = true) (u1 u2 u3 u4 u5 u6 u7 u8 u9 u10 u11 u12 u13 u14 u15 u16 u17 u18 u19 u20 u21 u22 u23 u24 u25 u26 u27 u28 u29 u30 u31 u32 u33 u34 u35 u36 u37 u38 u39 u40 u41 u42 u43 u44 u45 u46 u47 u48 u49 u50 u51 u52 u53 u54 u55 u56 u57 u58 u59 u60 u61 u62 u63 u64 u65 u66 u67 u68 u69 u70 u71 u72 u73 u74 u75 : Value)
    (hr : ∀ (Z : Nat) (W1 : World) (sv' : Value) (w' : World) (v2 v9 v10 v11 v12 v13 v14 v15 v16 v17 v18 v19 : Value), Blk W1 Z 28 (mC x rv vv bv).toArray → Only [] w W1 ∧ w.heap.size ≤ Z → ColC W1 w' sv' (firstB k) → rest.wp Tryd.prog Q ⟨#[mV x rv vv bv, .pointer (some ⟨Z, 0, none⟩), v2, sv', .int .u8 (catB k), u5, u6, u7, u8, v9, v10, v11, v12, v13, v14, v15, v16, v17, v18, v19, u20, u21, u22, u23, u24, u25, u26, u27, u28, u29, u30, u31, u32, u33, u34, u35, u36, u37, u38, u39, u40, u41, u42, u43, u44, u45, u46, u47, u48, u49, u50, u51, u52, u53, u54, u55, u56, u57, u58, u59, u60, u61, u62, u63, u64, u65, u66, u67, u68, u69, u70, u71, u72, u73, u74, u75], []⟩ w') :
    (endWith 5 blB rest).wp Tryd.prog Q ⟨#[mV x rv vv bv, u1, u2, u3, u4, u5, u6, u7, u8, u9, u10, u11, u12, u13, u14, u15, u16, u17, u18, u19, u20, u21, u22, u23, u24, u25, u26, u27, u28, u29, u30, u31, u32, u33, u34, u35, u36, u37, u38, u39, u40, u41, u42, u43, u44, u45, u46, u47, u48, u49, u50, u51, u52, u53, u54, u55, u56, u57, u58, u59, u60, u61, u62, u63, u64, u65, u66, u67, u68, u69, u70, u71, u72, u73, u74, u75], []⟩ w := by
  conv => arg 2; whnf; arg 2; whnf; arg 2; whnf; arg 2; whnf; arg 2; whnf; arg 2; whnf
  have HR := hid hr
  clear hr
  obtain ⟨W1, hW⟩ : ∃ W, W = w.alloc (.cells (mC x rv vv bv).toArray 28) := ⟨_, rfl⟩
  have BX := hid (show Blk W1 w.heap.size 28 (mC x rv vv bv).toArray from hW ▸ Blk.new w _ _)
  obtain ⟨Z, hZ⟩ : ∃ Z, Z = w.heap.size := ⟨_, rfl⟩
  have oW := hid (show Only [] w W1 ∧ w.heap.size ≤ Z from ⟨hW ▸ ((Only.refl [] w).alloc _), by omega⟩)
  rw [← hZ] at BX
  have c00 : W1.cell? ⟨Z, 0, none⟩ = some (.int .u8 (k : Int)) := by rw [← hk]; exact BX.out.cell (i := 0) rfl
  have CD := hid (fun w => rcoded_any (k : Int) w)
  rw [hcd] at CD
  have HW := hid hW
  have HZ := hid hZ
  have k0 : (0 : Int) ≤ (k : Int) := by omega
  clear hk hW hZ hcd
  unfold mV at HR ⊢
  by_cases h1 : k = 1
  · subst h1
    obtain ⟨sv2, w2, hrun, hcol⟩ := ColC.one (ColG.nil W1) (0, 0, 0) (by simp)
    have RUN := hid hrun
    have HS := hid (show ColC W1 w2 sv2 (firstB 1) from hcol)
    clear hrun hcol
    go_wp2_with (refine wp_box rfl 28 (.tmp 0) rfl (mC x rv vv bv).toArray rfl HW.out HZ.out ?_; simp only [Act.put, List.setIfInBounds_toArray, List.set_cons_zero, List.set_cons_succ])
    refine (CD.out W1).mono ?_
    rintro e w3 ⟨rfl, rfl⟩
    go_wp2_with (at_builtin; refine wp_append_eq (by kernel_rfl) (.tmp 16) (.tmp 18) _ _ rfl _ _ sv2 w2 rfl rfl RUN.out ?_; simp only [Act.put, List.setIfInBounds_toArray, List.set_cons_zero, List.set_cons_succ])
    exact HR.out Z _ _ _ _ _ _ _ _ _ _ _ _ _ _ _ BX.out oW.out HS.out
  · have q1 : ((k : Int) == 1) = false := by simp; omega
    have HS := hid (show ColC W1 W1 (.slice none 0 0) (firstB k) from by unfold firstB; rw [if_neg h1]; exact ColG.nil W1)
    have CT := hid (show (2 : Int) = catB k from by unfold catB; rw [if_neg h1])
    clear h1
    rw [← CT.out] at HR
    go_wp2_with (refine wp_box rfl 28 (.tmp 0) rfl (mC x rv vv bv).toArray rfl HW.out HZ.out ?_; simp only [Act.put, List.setIfInBounds_toArray, List.set_cons_zero, List.set_cons_succ])
    refine (CD.out W1).mono ?_
    rintro e w3 ⟨rfl, rfl⟩
    go_wp2_with fail
    exact HR.out Z _ _ _ _ _ _ _ _ _ _ _ _ _ _ _ BX.out oW.out HS.out
set_option maxRecDepth 1000000 in
set_option maxHeartbeats 8000000 in
theorem rblocks_any (x : MV) (rv vv bv : Value) (w : World) (hx : MIn x) : Calls Tryd.prog 57 #[mV x rv vv bv] w fun e w' => ∃ sv, e = .returned sv ∧ ColC w w' sv (whichL x) := by
  obtain ⟨k, hk⟩ := Int.eq_ofNat_of_zero_le hx.k0
  obtain ⟨c, hc⟩ := Int.eq_ofNat_of_zero_le hx.c0
  have WL : whichL x = blocksL k c := by unfold whichL; rw [hk, hc]; rfl
  have cb : c < 256 := by have := hx.c1; omega
  cases hcd : codedI (k : Int)
  · have BL : whichL x = [] := by rw [WL]; unfold blocksL; rw [hcd]; rfl
    obtain ⟨W1, hW⟩ : ∃ W, W = w.alloc (.cells (mC x rv vv bv).toArray 28) := ⟨_, rfl⟩
    have oW := hid (show Only [] w W1 from hW ▸ ((Only.refl [] w).alloc _))
    have BX := hid (show Blk W1 w.heap.size 28 (mC x rv vv bv).toArray from hW ▸ Blk.new w _ _)
    obtain ⟨Z, hZ⟩ : ∃ Z, Z = w.heap.size := ⟨_, rfl⟩
    rw [← hZ] at BX
    have c00 : W1.cell? ⟨Z, 0, none⟩ = some (.int .u8 (k : Int)) := by rw [← hk]; exact BX.out.cell (i := 0) rfl
    have CD := hid (fun w => rcoded_any (k : Int) w)
    rw [hcd] at CD
    have HW := hid hW
    have HZ := hid hZ
    rw [BL]
    clear hx hk hc hW hZ hcd WL BL cb
    unfold mV
    go_enter Tryd.func57, Tryd.ntmps57
    go_wp2_with (refine wp_box rfl 28 (.tmp 0) rfl (mC x rv vv bv).toArray rfl HW.out HZ.out ?_; simp only [Act.put, List.setIfInBounds_toArray, List.set_cons_zero, List.set_cons_succ])
    refine (CD.out W1).mono ?_
    rintro e w2 ⟨rfl, rfl⟩
    go_wp2_with fail
    go_ret
    exact ⟨_, rfl, ⟨RowG.nil _, by simp [ownG, Value.ownBlock], oW.out⟩⟩
  · have BL : whichL x = firstB k ++ lumaB (catB k) c 4 ++ (if c / 16 = 0 then [] else dcB) ++ (if c / 16 = 2 then acB else []) := by rw [WL]; unfold blocksL; rw [if_pos hcd]
    obtain ⟨out, hout⟩ : ∃ l, l = firstB k ++ lumaB (catB k) c 4 ++ (if c / 16 = 0 then [] else dcB) ++ (if c / 16 = 2 then acB else []) := ⟨_, rfl⟩
    rw [BL, ← hout]
    have f1 : (firstB k).length ≤ 1 := by unfold firstB; split <;> simp
    have f2 := lumaB_len (catB k) c 4
    have f3 : (if c / 16 = 0 then ([] : List Cod) else dcB).length ≤ 2 := by split <;> simp [dcB]
    go_enter Tryd.func57, Tryd.ntmps57
    generalize hq : (Code.seq _ _) = cc
    have hcc : cc = endWith 5 blB (dropSeq 5 blB) := by rw [← hq]; kernel_rfl
    rw [hcc]
    clear hq hcc
    refine bl_begin _ _ x rv vv bv k w hk hcd _ _ _ _ _ _ _ _ _ _ _ _ _ _ _ _ _ _ _ _ _ _ _ _ _ _ _ _ _ _ _ _ _ _ _ _ _ _ _ _ _ _ _ _ _ _ _ _ _ _ _ _ _ _ _ _ _ _ _ _ _ _ _ _ _ _ _ _ _ _ _ _ _ _ _ (fun Z W1 s2 w2 v2 v9 v10 v11 v12 v13 v14 v15 v16 v17 v18 v19 bX oW h2 => ?_)
    have L := hid (fun w' (o : Only [] W1 w') => show w'.cell? ⟨Z, 25, none⟩ = some (.int .u8 (c : Int)) from by rw [← hc]; exact (bX.only o (by simp)).cell (i := 25) rfl)
    rw [show dropSeq 5 blB = endWith 2 (dropSeq 5 blB) (dropSeq 7 blB) from by kernel_rfl]
    refine bl_luma _ _ Z c (catB k) _ _ W1 _ cb f1 h2 (fun w' o => L.out w' o) _ _ _ _ _ _ _ _ _ _ _ _ _ _ _ _ _ _ _ _ _ _ _ _ _ _ _ _ _ _ _ _ _ _ _ _ _ _ _ _ _ _ _ _ _ _ _ _ _ _ _ _ _ _ _ _ _ _ _ _ _ _ _ _ _ _ _ _ _ _ _ _ _ (fun s3 w3 v5 v6 v7 v20 v21 v22 v23 v24 v25 v26 v27 v28 v29 v30 v31 v32 v33 v34 v35 v36 v37 v38 v39 v40 v41 v42 v43 v44 v45 v46 h3 => ?_)
    rw [show dropSeq 7 blB = endWith 1 (dropSeq 7 blB) (dropSeq 8 blB) from by kernel_rfl]
    refine bl_dc _ _ Z c _ _ W1 _ cb (by rw [List.length_append]; omega) h3 (fun w' o => L.out w' o) _ _ _ _ _ _ _ _ _ _ _ _ _ _ _ _ _ _ _ _ _ _ _ _ _ _ _ _ _ _ _ _ _ _ _ _ _ _ _ _ _ _ _ _ _ _ _ _ _ _ _ _ _ _ _ _ _ _ _ _ _ _ _ _ _ _ _ _ _ _ _ _ _ _ (fun s4 w4 v47 v48 v49 v50 v51 v52 v53 v54 v55 h4 => ?_)
    rw [show dropSeq 8 blB = endWith 1 (dropSeq 8 blB) (dropSeq 9 blB) from by kernel_rfl]
    refine bl_ac _ _ Z c _ _ W1 _ cb (by rw [List.length_append, List.length_append]; omega) h4 (fun w' o => L.out w' o) _ _ _ _ _ _ _ _ _ _ _ _ _ _ _ _ _ _ _ _ _ _ _ _ _ _ _ _ _ _ _ _ _ _ _ _ _ _ _ _ _ _ _ _ _ _ _ _ _ _ _ _ _ _ _ _ _ _ _ _ _ _ _ _ _ _ _ _ _ _ _ _ _ _ (fun s5 w5 v8 v56 v57 v58 v59 v60 v61 v62 v63 v64 v65 v66 v67 v68 v69 v70 v71 v72 v73 v74 h5 => ?_)
    have H5 := hid (show ColC w w5 s5 out from by rw [hout]; exact ⟨h5.row, fun g hg => Nat.le_trans oW.1.size (h5.new g hg), oW.1.trans h5.only⟩)
    clear hx hk hc h2 h3 h4 h5 WL cb hcd BL f1 f2 f3 bX oW L hout
    conv => arg 2; whnf
    go_wp2_with fail
    go_ret
    exact ⟨_, rfl, H5.out⟩
end Go.Proofs.YtpmmnjeomdjakaaDoor

end
section
set_option maxRecDepth 20000
namespace Go.Proofs.YtpmmnjeomdjakaaDoor
open Go.RowKit
set_option linter.unusedVariables false
set_option linter.unusedSimpArgs false

theorem run_append_intsW (w : World) (ty : TypeId) (sv : Value) (l : List Int) (hr : RowI w sv l) (ad : Addr) (c : Nat) (cs : List Int)
    (hcs : ∀ j v, (cs.map (Value.int .i64))[j]? = some v → w.cell? (ad.add j) = some v) (hbig : l.length + cs.length ≤ 17592186043904) :
    ∃ sv' w', (Builtin.append_ #[24, 24] ty #[sv, .slice (some ad) cs.length c]).run Tryd.prog w = .ok sv' w' ∧ RowI w' sv' (l ++ cs) ∧ Only (ownI sv) w w' ∧ (∀ g, g ∈ ownI sv' → g ∈ ownI sv ∨ w.heap.size ≤ g) := by
  obtain ⟨i0, hi0, hz0, hs0, hb0⟩ := info_parts info_int
  have one : ∀ u, u ∈ cs.map (Value.int .i64) → u.oneCell' = true := fun u hu => by obtain ⟨x, _, rfl⟩ := List.mem_map.1 hu; rfl
  obtain ⟨v', w', h1, h2, h3, _, h5⟩ := run_append_own_at (P := Tryd.prog) (w := w) 0 24 ty 3 i0 (.int .i64 0) 1 8 und_ints hi0 hz0 hs0 hb0 rfl (by omega) sv l.length (l.map (.int .i64)) hr ad cs.length c (cs.map (.int .i64)) (by simp) hcs one (by unfold maxLen; omega) (by omega) (Nat.zero_le _)
  refine ⟨v', w', h1, by unfold RowI; rw [List.length_append, List.map_append]; exact h2, grown_onlyI h3, fun g hg => ?_⟩
  unfold ownI at hg ⊢
  rcases h5 with e | e
  · rw [e] at hg; exact .inl hg
  · rw [e] at hg
    simp at hg
    exact .inr (by omega)
theorem append_copyW (w : World) (b : Value) (vs : List Int) (hb : HoldsI .i64 w b vs) (hl : vs.length ≤ 17592186043904) :
    ∃ sv w', (Builtin.append_ #[24, 24] 24 #[.slice none 0 0, b]).run Tryd.prog w = .ok sv w' ∧ RowI w' sv vs ∧ Only [] w w' ∧ ∀ g, g ∈ ownI sv → w.heap.size ≤ g := by
  obtain ⟨a, d, rfl, _, _, HA⟩ := hb
  by_cases h0 : vs = []
  · subst h0
    exact ⟨_, w, append_nothingI w a d, RowI.nil w, Only.refl _ _, by simp [ownI, Value.ownBlock]⟩
  · obtain ⟨b, o, rfl, hc⟩ : ∃ b o, a = some ⟨b, o, none⟩ ∧ ∀ (j : Nat) (x : Int), vs[j]? = some x → w.cell? ⟨b, o + j, none⟩ = some (.int .i64 x) := by
      rcases HA with h | h
      · exact absurd h h0
      · exact h
    obtain ⟨sv, w', h1, h2, h3, h4⟩ := run_append_intsW w 24 _ [] (RowI.nil w) ⟨b, o, none⟩ d vs (fun j v hj => by
      rw [List.getElem?_map] at hj
      obtain ⟨x, hx, rfl⟩ := Option.map_eq_some_iff.1 hj
      rw [addI]
      exact hc j x hx) (by simpa using hl)
    exact ⟨sv, w', h1, by simpa using h2, h3.mono (fun _ _ h => by simp [ownI, Value.ownBlock] at h), fun g hg => (h4 g hg).elim (fun h => by simp [ownI, Value.ownBlock] at h) id⟩
/-- A copy: new memory. -/
theorem copyintsW_any (b : Value) (vs : List Int) (w : World) (hb : HoldsI .i64 w b vs) (hl : vs.length ≤ 17592186043904) :
    Calls Tryd.prog 26 #[b] w fun e w' => ∃ sv, e = .returned sv ∧ RowI w' sv vs ∧ (∀ g, g ∈ ownI sv → w.heap.size ≤ g) ∧ Only [] w w' := by
  obtain ⟨sv, w2, hrun, hrow, honly, hown⟩ := append_copyW w b vs hb hl
  have RUN := hid hrun
  have ROW := hid hrow
  have ON := hid honly
  have OW := hid hown
  clear hrun hrow honly hown hb hl
  go_enter Tryd.func26, Tryd.ntmps26
  go_wp2_with (at_builtin; refine wp_append_eq (by kernel_rfl) (.const (.slice none 0 0)) (.tmp 3) _ _ rfl (.slice none 0 0) _ sv w2 rfl rfl RUN.out ?_; simp only [Act.put, List.setIfInBounds_toArray, List.set_cons_zero, List.set_cons_succ])
  go_ret
  exact ⟨_, rfl, ROW.out, OW.out, ON.out⟩
/-- A slice of slices, all of them new since w0. -/
def OwnB (w0 w : World) (sv : Value) (bs : List (List Int)) : Prop := ∃ vs : List SlV, ColG slC 1 24 w0 w sv vs ∧ vs.length = bs.length ∧ ∀ (j : Nat) (v : SlV) (x : List Int), vs[j]? = some v → bs[j]? = some x → RowI w v.sl x ∧ ∀ g, g ∈ ownI v.sl → w0.heap.size ≤ g ∧ g ∉ ownG sv
theorem OwnB.holds {w0 w : World} {sv : Value} {bs : List (List Int)} (h : OwnB w0 w sv bs) : HoldsB w sv bs := by
  obtain ⟨vs, h1, h2, h3⟩ := h
  exact ⟨vs, h1.row.holds slC_ok, h2, fun j v x hv hx => (h3 j v x hv hx).1.holds⟩
theorem OwnB.only {w0 w : World} {sv : Value} {bs : List (List Int)} (h : OwnB w0 w sv bs) : Only [] w0 w := by
  obtain ⟨vs, h1, _⟩ := h
  exact h1.only
theorem OwnB.step {w0 w w' : World} {sv : Value} {bs : List (List Int)} (h : OwnB w0 w sv bs) (o : Only [] w w') : OwnB w0 w' sv bs := by
  obtain ⟨vs, h1, h2, h3⟩ := h
  exact ⟨vs, h1.step o, h2, fun j v x hv hx => ⟨(h3 j v x hv hx).1.only0 o, (h3 j v x hv hx).2⟩⟩
theorem OwnB.base {u w0 w : World} {sv : Value} {bs : List (List Int)} (h : OwnB w0 w sv bs) (o : Only [] u w0) : OwnB u w sv bs := by
  obtain ⟨vs, h1, h2, h3⟩ := h
  exact ⟨vs, ⟨h1.row, fun g hg => Nat.le_trans o.size (h1.new g hg), o.trans h1.only⟩, h2, fun j v x hv hx => ⟨(h3 j v x hv hx).1, fun g hg => ⟨Nat.le_trans o.size ((h3 j v x hv hx).2 g hg).1, ((h3 j v x hv hx).2 g hg).2⟩⟩⟩
theorem ownB_none (w : World) : OwnB w w (.slice none 0 0) [] := ⟨[], ColG.nil w, rfl, fun j v x hv => by simp at hv⟩
theorem sl_row : RowType Tryd.prog 26 24 (.slice none 0 0) 1 24 := ⟨by kernel_rfl, by kernel_rfl, rfl, by omega⟩
set_option maxHeartbeats 2000000 in
theorem copyblks_any (b : Value) (bs : List (List Int)) (w : World) (hb : HoldsB w b bs) (hl : bs.length ≤ 100000) (hi : ∀ l, l ∈ bs → l.length ≤ 17592186043904) :
    Calls Tryd.prog 27 #[b] w fun e w' => ∃ sv, e = .returned sv ∧ OwnB w w' sv bs := by
  obtain ⟨us, hu, hul, hh⟩ := hb
  have HU := hid hu
  have HH := hid hh
  have UL := hid hul
  have HI := hid hi
  obtain ⟨ba, bc, rfl, _⟩ := id hu
  obtain ⟨n, hn⟩ : ∃ n, n = us.length := ⟨_, rfl⟩
  have HN := hid hn
  rw [← hn] at HU ⊢
  have nb : (n : Int) ≤ 100000 := by omega
  clear hu hh hul hi hl hn
  go_enter Tryd.func27, Tryd.ntmps27
  go_wp2_with fail
  go_loopg [3, 4] n (fun g s t wr => ∃ i : Nat, i + g = n ∧ t = .int .i64 i ∧ OwnB w wr s (bs.take i))
  case atStart => exact ⟨0, by omega, rfl, by simpa using ownB_none w⟩
  case round =>
    obtain ⟨i, hi, rfl, hX⟩ := hrel
    have X := hid hX
    clear hX
    obtain ⟨s, hs⟩ : ∃ s, s = u3 := ⟨_, rfl⟩
    rw [← hs] at X ⊢
    clear hs
    have i0 : (0 : Int) ≤ (i : Int) := by omega
    by_cases hg : gk = 0
    · have i1 : ¬ (i : Int) < (n : Int) := by omega
      have XF := hid (show OwnB w wr s bs from by have := X.out; rw [List.take_of_length_le (by have := HN.out; have := UL.out; omega)] at this; exact this)
      clear hi hg
      go_wp2_with fail
      go_ret
      exact ⟨_, rfl, XF.out⟩
    · obtain ⟨gg, rfl⟩ : ∃ gg, gk = gg + 1 := ⟨gk - 1, by omega⟩
      have IN := hid (show i + 1 + gg = n by omega)
      have i1 : (i : Int) < (n : Int) := by omega
      obtain ⟨u, hu⟩ : ∃ u, us[i]? = some u := ⟨_, List.getElem?_eq_getElem (by have := HN.out; omega)⟩
      obtain ⟨x, hx⟩ : ∃ x, bs[i]? = some x := ⟨_, List.getElem?_eq_getElem (by have := HN.out; have := UL.out; omega)⟩
      obtain ⟨b, o, rfl, hc⟩ := HU.out.at hu
      have cu := X.out.only.cell (hc 0 u.sl rfl) (by simp)
      rw [Nat.mul_one, Nat.add_zero] at cu
      have CP := hid (copyintsW_any u.sl x wr ((HH.out i u x hu hx).only0 X.out.only) (HI.out x (List.mem_of_getElem? hx)))
      have BX := hid hx
      clear hi hg hu hc hx
      go_wp2_with fail
      refine CP.out.mono ?_
      rintro e w3 ⟨ns, rfl, row, nw, o3⟩
      obtain ⟨na, nc, rfl⟩ := row.form
      obtain ⟨vs, h1, h2, h3⟩ := X.out
      have v1 : vs.length + 1 ≤ 1000000 := by rw [h2, List.length_take]; have := IN.out; omega
      obtain ⟨sv2, w2, hrun, hcol⟩ := (ColS.start (h1.step o3)).app1 slC_ok sl_row ((na, x.length, nc) : SlV) v1
      have RUN := hid hrun
      have c2 := ColS.back (h1.step o3) hcol
      have NX := hid (show OwnB w w2 sv2 (bs.take (i + 1)) from by
        obtain ⟨hbl, hbx⟩ := List.getElem?_eq_some_iff.1 BX.out
        refine ⟨vs ++ [(na, x.length, nc)], c2, by rw [List.length_append, h2, List.length_take, List.length_take]; simp; omega, fun j v y hv hy => ?_⟩
        rw [List.take_succ_eq_append_getElem hbl, hbx] at hy
        have far : ∀ g, g ∈ ownG sv2 → g ∈ ownG s ∨ w3.heap.size ≤ g := hcol.new
        by_cases hj : j < vs.length
        · rw [List.getElem?_append_left hj] at hv
          rw [List.getElem?_append_left (by rw [← h2]; exact hj)] at hy
          obtain ⟨r1, r2⟩ := h3 j v y hv hy
          have r3 := r1.only0 o3
          refine ⟨r3.only hcol.only (fun g hg => (r2 g hg).2), fun g hg => ⟨(r2 g hg).1, fun h => ?_⟩⟩
          rcases far g h with h | h
          · exact (r2 g hg).2 h
          · have := r3.lt g hg; omega
        · have hj2 : j = vs.length := by
            have := (List.getElem?_eq_some_iff.1 hv).1
            simp at this
            omega
          subst hj2
          rw [List.getElem?_append_right (Nat.le_refl _), Nat.sub_self] at hv
          rw [List.getElem?_append_right (by rw [← h2]; omega), ← h2, Nat.sub_self] at hy
          simp only [List.getElem?_cons_zero, Option.some.injEq] at hv hy
          subst hv hy
          have ns : ∀ g, g ∈ ownI (SlV.sl (na, x.length, nc)) → g ∉ ownG s := fun g hg hs => by
            have := nw g hg
            have := h1.row.lt g hs
            omega
          refine ⟨row.only hcol.only ns, fun g hg => ⟨Nat.le_trans h1.only.size (nw g hg), fun h => ?_⟩⟩
          rcases far g h with h | h
          · exact ns g hg h
          · have := row.lt g hg; omega)
      clear hrun hcol h1 h2 h3 c2 row nw o3 v1 X CP
      go_wp2_with (at_builtin; refine wp_append_eq (by kernel_rfl) (.tmp 11) (.tmp 17) _ _ rfl _ _ sv2 w2 rfl rfl RUN.out ?_; simp only [Act.put, List.setIfInBounds_toArray, List.set_cons_zero, List.set_cons_succ])
      go_roundg gg
      case measure => omega
      case rel => exact ⟨i + 1, IN.out, by go_num, NX.out⟩
end Go.Proofs.YtpmmnjeomdjakaaDoor

end

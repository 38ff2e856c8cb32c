/- The reference's motion. -/
/- The reference's rest. -/
/- The reference's rest: Cbp. -/
/- The reference's rest: Qp. -/
/- The reference's rest: how many blocks. -/
/- The reference's rest: the blocks. -/
import Derived.Test.YtpmmnjeomdjakaaDoorMmb9
import Derived.Test.YtpmmnjeomdjakaaDoorMmb10
import Derived.StillTailTactics
import Derived.IntWalk
section
set_option maxRecDepth 20000
namespace Go.Proofs.YtpmmnjeomdjakaaDoor
open Go.RowKit
set_option linter.unusedVariables false
set_option linter.unusedSimpArgs false

noncomputable def moB : Code := Tryd.f41.body.getD .skip
theorem rparts_same (k : Int) (w : World) : Calls Tryd.prog 69 #[.int .u8 k] w fun e w' => e = .returned (.int .i64 (partsI k)) ∧ w' = w := by
  unfold partsI
  by_cases h3 : k = 3
  · subst h3
    go_enter Tryd.func69, Tryd.ntmps69
    go_wp2_with fail
    go_ret
    exact ⟨rfl, rfl⟩
  · by_cases h4 : k = 4
    · subst h4
      go_enter Tryd.func69, Tryd.ntmps69
      go_wp2_with fail
      go_ret
      exact ⟨rfl, rfl⟩
    · by_cases h5 : k = 5
      · subst h5
        go_enter Tryd.func69, Tryd.ntmps69
        go_wp2_with fail
        go_ret
        exact ⟨rfl, rfl⟩
      · by_cases h6 : k = 6
        · subst h6
          go_enter Tryd.func69, Tryd.ntmps69
          go_wp2_with fail
          go_ret
          exact ⟨rfl, rfl⟩
        · rw [if_neg h3, if_neg (by omega), if_neg h6]
          have e3 : (k == 3) = false := by simpa using h3
          have e4 : (k == 4) = false := by simpa using h4
          have e5 : (k == 5) = false := by simpa using h5
          have e6 : (k == 6) = false := by simpa using h6
          clear h3 h4 h5 h6
          go_enter Tryd.func69, Tryd.ntmps69
          go_wp2_with fail
          go_ret
          exact ⟨rfl, rfl⟩
theorem sbC_nat (x : MV) (hx : MIn x) : (Value.agg (sbC x.sb).toArray) = subV x.sb.s0.toNat x.sb.s1.toNat x.sb.s2.toNat x.sb.s3.toNat := by
  have h0 := (hx.s x.sb.s0 (by simp [S4.l])).1
  have h1 := (hx.s x.sb.s1 (by simp [S4.l])).1
  have h2 := (hx.s x.sb.s2 (by simp [S4.l])).1
  have h3 := (hx.s x.sb.s3 (by simp [S4.l])).1
  unfold sbC subV
  rw [Int.toNat_of_nonneg h0, Int.toNat_of_nonneg h1, Int.toNat_of_nonneg h2, Int.toNat_of_nonneg h3]
theorem rpieces13_any (x : MV) (w : World) (hx : MIn x) : Calls Tryd.prog 70 #[.int .u8 x.kind, .agg (sbC x.sb).toArray] w fun e w' => e = .returned (.tuple #[.int .i64 (piecesN x.kind.toNat (subN x.sb)).1, .int .i64 (piecesN x.kind.toNat (subN x.sb)).2]) ∧ Only [] w w' := by
  have h := rpieces_any x.kind.toNat x.sb.s0.toNat x.sb.s1.toNat x.sb.s2.toNat x.sb.s3.toNat w
  rw [Int.toNat_of_nonneg hx.k0, ← sbC_nat x hx] at h
  exact h
set_option maxRecDepth 1000000 in
set_option maxHeartbeats 8000000 in
theorem mo_begin (rest : Code) (Q : Exit → Act → World → Prop)  (x : MV) (ra va : Option Addr) (rc vc : Nat) (bv : Value) (refs : Int) (w : World) (hin : interI x.kind = true) (u2 u3 u4 u5 u6 u7 u8 u9 u10 u11 u12 u13 u14 u15 u16 u17 u18 u19 u20 u21 u22 u23 u24 u25 u26 u27 u28 u29 u30 u31 u32 u33 u34 u35 u36 u37 u38 u39 u40 u41 u42 u43 u44 u45 u46 u47 u48 u49 u50 u51 u52 u53 u54 u55 u56 u57 u58 u59 u60 u61 u62 u63 u64 u65 u66 u67 u68 u69 u70 u71 u72 u73 u74 u75 u76 u77 u78 u79 u80 u81 u82 u83 u84 u85 u86 u87 u88 u89 u90 u91 u92 u93 u94 u95 u96 u97 : Value)
    (hr : ∀ (Z : Nat) (W1 : World) (sv' : Value) (w' : World) (v4 v10 v11 v12 v13 v14 v15 v16 v17 v18 v19 v20 v21 v22 v23 v24 v25 v26 v27 v28 v29 v30 v31 v32 v33 : Value), Blk W1 Z 28 (mC x (.slice ra x.refs.length rc) (.slice va x.mvds.length vc) bv).toArray → Only [] w W1 ∧ w.heap.size ≤ Z → ColE W1 w' sv' [absE (decide ((x.refs.length : Int) = partsI x.kind))] → rest.wp Tryd.prog Q ⟨#[mV x (.slice ra x.refs.length rc) (.slice va x.mvds.length vc) bv, .int .i64 refs, .pointer (some ⟨Z, 0, none⟩), u3, v4, sv', u6, u7, u8, u9, v10, v11, v12, v13, v14, v15, v16, v17, v18, v19, v20, v21, v22, v23, v24, v25, v26, v27, v28, v29, v30, v31, v32, v33, u34, u35, u36, u37, u38, u39, u40, u41, u42, u43, u44, u45, u46, u47, u48, u49, u50, u51, u52, u53, u54, u55, u56, u57, u58, u59, u60, u61, u62, u63, u64, u65, u66, u67, u68, u69, u70, u71, u72, u73, u74, u75, u76, u77, u78, u79, u80, u81, u82, u83, u84, u85, u86, u87, u88, u89, u90, u91, u92, u93, u94, u95, u96, u97], []⟩ w') :
    (endWith 3 moB rest).wp Tryd.prog Q ⟨#[mV x (.slice ra x.refs.length rc) (.slice va x.mvds.length vc) bv, .int .i64 refs, u2, u3, u4, u5, u6, u7, u8, u9, u10, u11, u12, u13, u14, u15, u16, u17, u18, u19, u20, u21, u22, u23, u24, u25, u26, u27, u28, u29, u30, u31, u32, u33, u34, u35, u36, u37, u38, u39, u40, u41, u42, u43, u44, u45, u46, u47, u48, u49, u50, u51, u52, u53, u54, u55, u56, u57, u58, u59, u60, u61, u62, u63, u64, u65, u66, u67, u68, u69, u70, u71, u72, u73, u74, u75, u76, u77, u78, u79, u80, u81, u82, u83, u84, u85, u86, u87, u88, u89, u90, u91, u92, u93, u94, u95, u96, u97], []⟩ w := by
  conv => arg 2; whnf; arg 2; whnf; arg 2; whnf; arg 2; whnf
  have HR := hid hr
  clear hr
  obtain ⟨W1, hW⟩ : ∃ W, W = w.alloc (.cells (mC x (.slice ra x.refs.length rc) (.slice va x.mvds.length vc) bv).toArray 28) := ⟨_, rfl⟩
  have BX := hid (show Blk W1 w.heap.size 28 (mC x (.slice ra x.refs.length rc) (.slice va x.mvds.length vc) bv).toArray from hW ▸ Blk.new w _ _)
  obtain ⟨Z, hZ⟩ : ∃ Z, Z = w.heap.size := ⟨_, rfl⟩
  have oW := hid (show Only [] w W1 ∧ w.heap.size ≤ Z from ⟨hW ▸ ((Only.refl [] w).alloc _), by omega⟩)
  rw [← hZ] at BX
  have c0 := BX.out.cell (i := 0) (v := .int .u8 x.kind) rfl
  have c23 := BX.out.cell (i := 23) (v := .slice ra x.refs.length rc) rfl
  have c24 := BX.out.cell (i := 24) (v := .slice va x.mvds.length vc) rfl
  have HW := hid hW
  have HZ := hid hZ
  have IT := hid (fun w => rinter_any x.kind w)
  rw [hin] at IT
  clear hW hZ hin
  unfold mV at HR ⊢
  go_wp2_with (refine wp_box rfl 28 (.tmp 0) rfl (mC x (.slice ra x.refs.length rc) (.slice va x.mvds.length vc) bv).toArray rfl HW.out HZ.out ?_; simp only [Act.put, List.setIfInBounds_toArray, List.set_cons_zero, List.set_cons_succ])
  refine (IT.out W1).mono ?_
  rintro e w3 ⟨rfl, rfl⟩
  go_wp2_with fail
  refine wp_region_still_tail 8 (by kernel_rfl) (by kernel_rfl) ?_
  simp only [List.take_succ_cons, List.take_zero, List.drop_succ_cons, List.drop_zero]
  still_step
  still_step
  still_step
  still_step
  still_step
  still_call (rparts_same _ _)
  still_step
  still_call (absent_any _ _)
  refine wpStill_nil ?_
  have HC := hid (colG_lit erC_ok (World.drew w3) 30 [absE ((x.refs.length : Int) == partsI x.kind)] (by simp [maxLen]) ((Only.refl [] w3).drew))
  have BX' := hid (BX.out)
  clear c0 c23 c24
  generalize hd : World.drew w3 = wd at *
  go_wp2_with fail
  exact HR.out Z _ _ _ _ _ _ _ _ _ _ _ _ _ _ _ _ _ _ _ _ _ _ _ _ _ _ _ _ BX.out oW.out HC.out
set_option maxRecDepth 1000000 in
set_option maxHeartbeats 8000000 in
theorem mo_refs (rest : Code) (Q : Exit → Act → World → Prop)  (x : MV) (ra va : Option Addr) (rc vc : Nat) (bv : Value) (Z : Nat) (pre : List Int) (sv : Value) (W0 W1 w : World) (hp : pre.length ≤ 1000) (hl : x.refs.length ≤ 100000) (hs : ColE W1 w sv pre) (LD : ∀ w', Only [] W1 w' → Blk w' Z 28 (mC x (.slice ra x.refs.length rc) (.slice va x.mvds.length vc) bv).toArray) (hR : HoldsI .i64 W0 (.slice ra x.refs.length rc) x.refs) (o0 : Only [] W0 W1) (refs : Int) (rb : 0 ≤ refs ∧ refs ≤ 1000) (u0 u3 u4 u6 u7 u8 u9 u10 u11 u12 u13 u14 u15 u16 u17 u18 u19 u20 u21 u22 u23 u24 u25 u26 u27 u28 u29 u30 u31 u32 u33 u34 u35 u36 u37 u38 u39 u40 u41 u42 u43 u44 u45 u46 u47 u48 u49 u50 u51 u52 u53 u54 u55 u56 u57 u58 u59 u60 u61 u62 u63 u64 u65 u66 u67 u68 u69 u70 u71 u72 u73 u74 u75 u76 u77 u78 u79 u80 u81 u82 u83 u84 u85 u86 u87 u88 u89 u90 u91 u92 u93 u94 u95 u96 u97 : Value)
    (hr : ∀ (sv' : Value) (w' : World) (v6 v34 v35 v36 v37 v38 v39 v40 v41 v42 v43 v44 v45 v46 v47 v48 v49 v50 v51 v52 : Value), ColE W1 w' sv' (pre ++ x.refs.map (refE refs)) → rest.wp Tryd.prog Q ⟨#[u0, .int .i64 refs, .pointer (some ⟨Z, 0, none⟩), u3, u4, sv', v6, u7, u8, u9, u10, u11, u12, u13, u14, u15, u16, u17, u18, u19, u20, u21, u22, u23, u24, u25, u26, u27, u28, u29, u30, u31, u32, u33, v34, v35, v36, v37, v38, v39, v40, v41, v42, v43, v44, v45, v46, v47, v48, v49, v50, v51, v52, u53, u54, u55, u56, u57, u58, u59, u60, u61, u62, u63, u64, u65, u66, u67, u68, u69, u70, u71, u72, u73, u74, u75, u76, u77, u78, u79, u80, u81, u82, u83, u84, u85, u86, u87, u88, u89, u90, u91, u92, u93, u94, u95, u96, u97], []⟩ w') :
    (endWith 1 (dropSeq 3 moB) rest).wp Tryd.prog Q ⟨#[u0, .int .i64 refs, .pointer (some ⟨Z, 0, none⟩), u3, u4, sv, u6, u7, u8, u9, u10, u11, u12, u13, u14, u15, u16, u17, u18, u19, u20, u21, u22, u23, u24, u25, u26, u27, u28, u29, u30, u31, u32, u33, u34, u35, u36, u37, u38, u39, u40, u41, u42, u43, u44, u45, u46, u47, u48, u49, u50, u51, u52, u53, u54, u55, u56, u57, u58, u59, u60, u61, u62, u63, u64, u65, u66, u67, u68, u69, u70, u71, u72, u73, u74, u75, u76, u77, u78, u79, u80, u81, u82, u83, u84, u85, u86, u87, u88, u89, u90, u91, u92, u93, u94, u95, u96, u97], []⟩ w := by
  conv => arg 2; whnf; arg 2; whnf
  have HR := hid hr
  clear hr
  have L := hid LD
  have HS := hid hs
  have PL := hid hp
  have H0 := hid hR
  have OO := hid o0
  obtain ⟨n, hn⟩ : ∃ n, n = x.refs.length := ⟨_, rfl⟩
  have HN := hid hn
  rw [← hn] at L H0 hl
  have nb : (n : Int) ≤ 100000 := by omega
  have RB := hid (show -9223372036854775808 ≤ refs - 1 ∧ refs - 1 ≤ 9223372036854775807 by omega)
  have g1 : IntKind.i64.wrap (refs - 1) = refs - 1 := IntWalk.i64_in _ ⟨by omega, by omega⟩
  clear hs LD hp hR o0 hl hn
  go_wp2_with fail
  go_loopg [5, 6] n (fun g s t wr => ∃ i : Nat, i + g = n ∧ t = .int .i64 i ∧ ColE W1 wr s (pre ++ (x.refs.take i).map (refE refs)))
  case atStart => exact ⟨0, by omega, rfl, by simpa using HS.out⟩
  case round =>
    obtain ⟨i, hi, rfl, hX⟩ := hrel
    have X := hid hX
    clear hX
    obtain ⟨s, hs⟩ : ∃ s, s = u5 := ⟨_, rfl⟩
    rw [← hs] at X ⊢
    clear hs
    have c23 := (L.out wr X.out.only).cell (i := 23) (v := .slice ra n rc) rfl
    have i0 : (0 : Int) ≤ (i : Int) := by omega
    by_cases hg : gk = 0
    · have i1 : ¬ (i : Int) < (n : Int) := by omega
      have ie : i = n := by omega
      have XF := hid (show ColE W1 wr s (pre ++ x.refs.map (refE refs)) from by have := X.out; rw [ie, HN.out, List.take_length] at this; exact this)
      clear hi hg ie
      go_wp2_with fail
      exact HR.out _ _ _ _ _ _ _ _ _ _ _ _ _ _ _ _ _ _ _ _ _ _ XF.out
    · obtain ⟨gg, rfl⟩ : ∃ gg, gk = gg + 1 := ⟨gk - 1, by omega⟩
      have IN := hid (show i + 1 + gg = n by omega)
      have i1 : (i : Int) < (n : Int) := by omega
      obtain ⟨p, hp⟩ : ∃ p, x.refs[i]? = some p := ⟨_, List.getElem?_eq_getElem (by have := HN.out; omega)⟩
      obtain ⟨b, o, rfl, hc⟩ := H0.out.at hp
      have cp := (OO.out.trans X.out.only).cell hc (by simp)
      have TM := hid (take_map (refE refs) hp)
      have LL := hid (show (pre ++ (x.refs.take i).map (refE refs)).length + 1 ≤ 1000000 by rw [List.length_append, List.length_map, List.length_take]; have := PL.out; omega)
      clear hi hg hp hc
      go_wp2_with fail
      refine (rwithin13_any _ _ _ _).mono ?_
      rintro e w3 ⟨rfl, rfl⟩
      go_wp2_with fail
      refine (ranged_any _ _).mono ?_
      rintro e w4 ⟨rfl, rfl⟩
      obtain ⟨sv2, w2, hrun, hcol⟩ := ColE.one X.out (refE refs p) LL.out
      have RUN := hid hrun
      have COL := hid hcol
      clear hrun hcol
      go_wp2_with (at_builtin; refine wp_append_eq (by kernel_rfl) (.tmp 41) (.tmp 51) _ _ rfl _ _ sv2 w2 rfl rfl RUN.out ?_; simp only [Act.put, List.setIfInBounds_toArray, List.set_cons_zero, List.set_cons_succ])
      go_roundg gg
      case measure => omega
      case rel => exact ⟨i + 1, IN.out, by go_num, by rw [TM.out, ← List.append_assoc]; exact COL.out⟩
set_option maxRecDepth 1000000 in
set_option maxHeartbeats 8000000 in
theorem mo_many (rest : Code) (Q : Exit → Act → World → Prop)  (x : MV) (ra va : Option Addr) (rc vc : Nat) (bv : Value) (Z : Nat) (pre : List Int) (sv : Value) (W1 w : World) (hp : pre.length ≤ 200000) (hs : ColE W1 w sv pre) (LD : ∀ w', Only [] W1 w' → Blk w' Z 28 (mC x (.slice ra x.refs.length rc) (.slice va x.mvds.length vc) bv).toArray) (hx : MIn x) (u0 u1 u3 u4 u6 u7 u8 u9 u10 u11 u12 u13 u14 u15 u16 u17 u18 u19 u20 u21 u22 u23 u24 u25 u26 u27 u28 u29 u30 u31 u32 u33 u34 u35 u36 u37 u38 u39 u40 u41 u42 u43 u44 u45 u46 u47 u48 u49 u50 u51 u52 u53 u54 u55 u56 u57 u58 u59 u60 u61 u62 u63 u64 u65 u66 u67 u68 u69 u70 u71 u72 u73 u74 u75 u76 u77 u78 u79 u80 u81 u82 u83 u84 u85 u86 u87 u88 u89 u90 u91 u92 u93 u94 u95 u96 u97 : Value)
    (hr : ∀ (sv' : Value) (w' : World) (v7 v8 v53 v54 v55 v56 v57 v58 v59 v60 v61 v62 v63 v64 v65 v66 v67 v68 v69 : Value), ColE W1 w' sv' (pre ++ [absE (decide ((x.mvds.length : Int) = (piecesN x.kind.toNat (subN x.sb)).1))]) → rest.wp Tryd.prog Q ⟨#[u0, u1, .pointer (some ⟨Z, 0, none⟩), u3, u4, sv', u6, v7, v8, u9, u10, u11, u12, u13, u14, u15, u16, u17, u18, u19, u20, u21, u22, u23, u24, u25, u26, u27, u28, u29, u30, u31, u32, u33, u34, u35, u36, u37, u38, u39, u40, u41, u42, u43, u44, u45, u46, u47, u48, u49, u50, u51, u52, v53, v54, v55, v56, v57, v58, v59, v60, v61, v62, v63, v64, v65, v66, v67, v68, v69, u70, u71, u72, u73, u74, u75, u76, u77, u78, u79, u80, u81, u82, u83, u84, u85, u86, u87, u88, u89, u90, u91, u92, u93, u94, u95, u96, u97], []⟩ w') :
    (endWith 2 (dropSeq 4 moB) rest).wp Tryd.prog Q ⟨#[u0, u1, .pointer (some ⟨Z, 0, none⟩), u3, u4, sv, u6, u7, u8, u9, u10, u11, u12, u13, u14, u15, u16, u17, u18, u19, u20, u21, u22, u23, u24, u25, u26, u27, u28, u29, u30, u31, u32, u33, u34, u35, u36, u37, u38, u39, u40, u41, u42, u43, u44, u45, u46, u47, u48, u49, u50, u51, u52, u53, u54, u55, u56, u57, u58, u59, u60, u61, u62, u63, u64, u65, u66, u67, u68, u69, u70, u71, u72, u73, u74, u75, u76, u77, u78, u79, u80, u81, u82, u83, u84, u85, u86, u87, u88, u89, u90, u91, u92, u93, u94, u95, u96, u97], []⟩ w := by
  conv => arg 2; whnf; arg 2; whnf; arg 2; whnf
  have HR := hid hr
  clear hr
  have L := hid LD
  have HS := hid hs
  have PL := hid (show pre.length + 1 ≤ 1000000 by omega)
  have PP := hid (fun w => rpieces13_any x w hx)
  have BX := hid (LD w hs.only)
  have c0 := BX.out.cell (i := 0) (v := .int .u8 x.kind) rfl
  obtain ⟨pn, hpn⟩ : ∃ p, p = piecesN x.kind.toNat (subN x.sb) := ⟨_, rfl⟩
  rw [← hpn] at PP HR
  obtain ⟨pa, pe⟩ := pn
  clear hs LD hx hpn hp
  go_wp2_with (refine wp_load_cell (by kernel_rfl) 23 (.tmp 56) rfl ⟨Z, 19, none⟩ (.agg (sbC x.sb).toArray) rfl BX.out.sb ?_; simp only [Act.put, List.setIfInBounds_toArray, List.set_cons_zero, List.set_cons_succ])
  refine (PP.out _).mono ?_
  rintro e w3 ⟨rfl, o3⟩
  have H3 := hid (HS.out.step o3)
  have c24 := (BX.out.only o3 (by simp)).cell (i := 24) (v := .slice va x.mvds.length vc) rfl
  clear o3 c0
  go_wp2_with fail
  refine (absent_any _ _).mono ?_
  rintro e w4 ⟨rfl, rfl⟩
  obtain ⟨sv2, w2, hrun, hcol⟩ := ColE.one H3.out (absE ((x.mvds.length : Int) == pa)) PL.out
  have RUN := hid hrun
  have COL := hid hcol
  clear hrun hcol
  go_wp2_with (at_builtin; refine wp_append_eq (by kernel_rfl) (.tmp 61) (.tmp 68) _ _ rfl _ _ sv2 w2 rfl rfl RUN.out ?_; simp only [Act.put, List.setIfInBounds_toArray, List.set_cons_zero, List.set_cons_succ])
  exact HR.out _ _ _ _ _ _ _ _ _ _ _ _ _ _ _ _ _ _ _ _ _ COL.out
set_option maxRecDepth 1000000 in
set_option maxHeartbeats 8000000 in
theorem mo_mvds (rest : Code) (Q : Exit → Act → World → Prop)  (x : MV) (ra va : Option Addr) (rc vc : Nat) (bv : Value) (Z : Nat) (pre : List Int) (sv : Value) (W0 W1 w : World) (hp : pre.length ≤ 200000) (hl : x.mvds.length ≤ 100000) (hs : ColE W1 w sv pre) (LD : ∀ w', Only [] W1 w' → Blk w' Z 28 (mC x (.slice ra x.refs.length rc) (.slice va x.mvds.length vc) bv).toArray) (hR : HoldsG vcC 2 W0 (.slice va x.mvds.length vc) x.mvds) (o0 : Only [] W0 W1) (u0 u1 u3 u4 u6 u7 u8 u9 u10 u11 u12 u13 u14 u15 u16 u17 u18 u19 u20 u21 u22 u23 u24 u25 u26 u27 u28 u29 u30 u31 u32 u33 u34 u35 u36 u37 u38 u39 u40 u41 u42 u43 u44 u45 u46 u47 u48 u49 u50 u51 u52 u53 u54 u55 u56 u57 u58 u59 u60 u61 u62 u63 u64 u65 u66 u67 u68 u69 u70 u71 u72 u73 u74 u75 u76 u77 u78 u79 u80 u81 u82 u83 u84 u85 u86 u87 u88 u89 u90 u91 u92 u93 u94 u95 u96 u97 : Value)
    (hr : ∀ (sv' : Value) (w' : World) (v9 v70 v71 v72 v73 v74 v75 v76 v77 v78 v79 v80 v81 v82 v83 v84 v85 v86 v87 v88 v89 v90 v91 v92 v93 v94 v95 v96 : Value), ColE W1 w' sv' (pre ++ x.mvds.map mvdE) → rest.wp Tryd.prog Q ⟨#[u0, u1, .pointer (some ⟨Z, 0, none⟩), u3, u4, sv', u6, u7, u8, v9, u10, u11, u12, u13, u14, u15, u16, u17, u18, u19, u20, u21, u22, u23, u24, u25, u26, u27, u28, u29, u30, u31, u32, u33, u34, u35, u36, u37, u38, u39, u40, u41, u42, u43, u44, u45, u46, u47, u48, u49, u50, u51, u52, u53, u54, u55, u56, u57, u58, u59, u60, u61, u62, u63, u64, u65, u66, u67, u68, u69, v70, v71, v72, v73, v74, v75, v76, v77, v78, v79, v80, v81, v82, v83, v84, v85, v86, v87, v88, v89, v90, v91, v92, v93, v94, v95, v96, u97], []⟩ w') :
    (endWith 1 (dropSeq 6 moB) rest).wp Tryd.prog Q ⟨#[u0, u1, .pointer (some ⟨Z, 0, none⟩), u3, u4, sv, u6, u7, u8, u9, u10, u11, u12, u13, u14, u15, u16, u17, u18, u19, u20, u21, u22, u23, u24, u25, u26, u27, u28, u29, u30, u31, u32, u33, u34, u35, u36, u37, u38, u39, u40, u41, u42, u43, u44, u45, u46, u47, u48, u49, u50, u51, u52, u53, u54, u55, u56, u57, u58, u59, u60, u61, u62, u63, u64, u65, u66, u67, u68, u69, u70, u71, u72, u73, u74, u75, u76, u77, u78, u79, u80, u81, u82, u83, u84, u85, u86, u87, u88, u89, u90, u91, u92, u93, u94, u95, u96, u97], []⟩ w := by
  conv => arg 2; whnf; arg 2; whnf
  have HR := hid hr
  clear hr
  have L := hid LD
  have HS := hid hs
  have PL := hid hp
  have H0 := hid hR
  have OO := hid o0
  obtain ⟨n, hn⟩ : ∃ n, n = x.mvds.length := ⟨_, rfl⟩
  have HN := hid hn
  rw [← hn] at L H0 hl
  have nb : (n : Int) ≤ 100000 := by omega
  clear hs LD hp hR o0 hl hn
  go_wp2_with fail
  go_loopg [5, 9] n (fun g s t wr => ∃ i : Nat, i + g = n ∧ t = .int .i64 i ∧ ColE W1 wr s (pre ++ (x.mvds.take i).map mvdE))
  case atStart => exact ⟨0, by omega, rfl, by simpa using HS.out⟩
  case round =>
    obtain ⟨i, hi, rfl, hX⟩ := hrel
    have X := hid hX
    clear hX
    obtain ⟨s, hs⟩ : ∃ s, s = u5 := ⟨_, rfl⟩
    rw [← hs] at X ⊢
    clear hs
    have c24 := (L.out wr X.out.only).cell (i := 24) (v := .slice va n vc) rfl
    have i0 : (0 : Int) ≤ (i : Int) := by omega
    by_cases hg : gk = 0
    · have i1 : ¬ (i : Int) < (n : Int) := by omega
      have ie : i = n := by omega
      have XF := hid (show ColE W1 wr s (pre ++ x.mvds.map mvdE) from by have := X.out; rw [ie, HN.out, List.take_length] at this; exact this)
      clear hi hg ie
      go_wp2_with fail
      exact HR.out _ _ _ _ _ _ _ _ _ _ _ _ _ _ _ _ _ _ _ _ _ _ _ _ _ _ _ _ _ _ XF.out
    · obtain ⟨gg, rfl⟩ : ∃ gg, gk = gg + 1 := ⟨gk - 1, by omega⟩
      have IN := hid (show i + 1 + gg = n by omega)
      have i1 : (i : Int) < (n : Int) := by omega
      obtain ⟨p, hp⟩ : ∃ p, x.mvds[i]? = some p := ⟨_, List.getElem?_eq_getElem (by have := HN.out; omega)⟩
      obtain ⟨b, o, rfl, hc⟩ := H0.out.at hp
      have cp := (OO.out.trans X.out.only).cell (hc 0 (.int .i64 p.1) rfl) (by simp)
      have cq := (OO.out.trans X.out.only).cell (hc 1 (.int .i64 p.2) rfl) (by simp)
      rw [Nat.add_zero] at cp
      have TM := hid (take_map mvdE hp)
      have LL := hid (show (pre ++ (x.mvds.take i).map mvdE).length + 1 ≤ 1000000 by rw [List.length_append, List.length_map, List.length_take]; have := PL.out; omega)
      obtain ⟨e, he⟩ : ∃ e, e = mvdE p := ⟨_, rfl⟩
      have ME := hid (show e = rngE (inI p.1 (-8192) 8192 && inI p.2 (-8192) 8192) from he)
      rw [← he] at TM
      clear hi hg hp hc he
      obtain ⟨p1, p2⟩ := p
      dsimp only at cp cq ME
      have W1' := hid (fun w => rwithin13_any p1 (-8192) 8192 w)
      have W2' := hid (fun w => rwithin13_any p2 (-8192) 8192 w)
      generalize inI p1 (-8192) 8192 = b1 at ME W1'
      generalize inI p2 (-8192) 8192 = b2 at ME W2'
      cases b1
      · have ME2 := hid (show rngE false = e from by rw [ME.out]; rfl)
        clear ME
        go_wp2_with fail
        refine (W1'.out _).mono ?_
        rintro e' w3 ⟨rfl, rfl⟩
        go_wp2_with fail
        refine (ranged_any _ _).mono ?_
        rintro e' w4 ⟨rfl, rfl⟩
        rw [ME2.out]
        obtain ⟨sv2, w2, hrun, hcol⟩ := ColE.one X.out (e) LL.out
        have RUN := hid hrun
        have COL := hid hcol
        clear hrun hcol
        go_wp2_with (at_builtin; refine wp_append_eq (by kernel_rfl) (.tmp 77) (.tmp 95) _ _ rfl _ _ sv2 w2 rfl rfl RUN.out ?_; simp only [Act.put, List.setIfInBounds_toArray, List.set_cons_zero, List.set_cons_succ])
        go_roundg gg
        case measure => omega
        case rel => exact ⟨i + 1, IN.out, by go_num, by rw [TM.out, ← List.append_assoc]; exact COL.out⟩
      · have ME2 := hid (show rngE b2 = e from by rw [ME.out]; rfl)
        clear ME
        go_wp2_with fail
        refine (W1'.out _).mono ?_
        rintro e' w3 ⟨rfl, rfl⟩
        go_wp2_with fail
        refine (W2'.out _).mono ?_
        rintro e' w3 ⟨rfl, rfl⟩
        go_wp2_with fail
        refine (ranged_any _ _).mono ?_
        rintro e' w4 ⟨rfl, rfl⟩
        rw [ME2.out]
        obtain ⟨sv2, w2, hrun, hcol⟩ := ColE.one X.out (e) LL.out
        have RUN := hid hrun
        have COL := hid hcol
        clear hrun hcol
        go_wp2_with (at_builtin; refine wp_append_eq (by kernel_rfl) (.tmp 77) (.tmp 95) _ _ rfl _ _ sv2 w2 rfl rfl RUN.out ?_; simp only [Act.put, List.setIfInBounds_toArray, List.set_cons_zero, List.set_cons_succ])
        go_roundg gg
        case measure => omega
        case rel => exact ⟨i + 1, IN.out, by go_num, by rw [TM.out, ← List.append_assoc]; exact COL.out⟩
set_option maxRecDepth 1000000 in
set_option maxHeartbeats 8000000 in
theorem rmotion_any (x : MV) (rv vv bv : Value) (refs : Int) (w : World) (hx : MIn x) (hm : MAt w x rv vv bv) (rb : 0 ≤ refs ∧ refs ≤ 1000) (l1 : x.refs.length ≤ 100000) (l2 : x.mvds.length ≤ 100000) :
    Calls Tryd.prog 41 #[mV x rv vv bv, .int .i64 refs] w fun e w' => ∃ sv, e = .returned sv ∧ ColE w w' sv (motionE x refs) := by
  obtain ⟨ra, rc, hrv, _⟩ := id hm.r
  obtain ⟨va, vc, hvv, _⟩ := id hm.v
  subst hrv hvv
  cases hin : interI x.kind
  · have MO : motionE x refs = [absE ((x.refs.length : Int) == 0), absE ((x.mvds.length : Int) == 0)] := by
      unfold motionE
      rw [hin, if_neg (by decide)]
      congr 2
      · cases x.refs <;> simp [absE]; omega
      · congr 1; cases x.mvds <;> simp [absE]; omega
    rw [MO]
    clear MO hx hm rb l1 l2
    obtain ⟨W1, hW⟩ : ∃ W, W = w.alloc (.cells (mC x (.slice ra x.refs.length rc) (.slice va x.mvds.length vc) bv).toArray 28) := ⟨_, rfl⟩
    have BX := hid (show Blk W1 w.heap.size 28 (mC x (.slice ra x.refs.length rc) (.slice va x.mvds.length vc) bv).toArray from hW ▸ Blk.new w _ _)
    obtain ⟨Z, hZ⟩ : ∃ Z, Z = w.heap.size := ⟨_, rfl⟩
    have oW := hid (show Only [] w W1 ∧ w.heap.size ≤ Z from ⟨hW ▸ ((Only.refl [] w).alloc _), by omega⟩)
    rw [← hZ] at BX
    have c0 := BX.out.cell (i := 0) (v := .int .u8 x.kind) rfl
    have c23 := BX.out.cell (i := 23) (v := .slice ra x.refs.length rc) rfl
    have c24 := BX.out.cell (i := 24) (v := .slice va x.mvds.length vc) rfl
    have HW := hid hW
    have HZ := hid hZ
    have IT := hid (fun w => rinter_any x.kind w)
    rw [hin] at IT
    clear hW hZ hin
    unfold mV
    go_enter Tryd.func41, Tryd.ntmps41
    go_wp2_with (refine wp_box rfl 28 (.tmp 0) rfl (mC x (.slice ra x.refs.length rc) (.slice va x.mvds.length vc) bv).toArray rfl HW.out HZ.out ?_; simp only [Act.put, List.setIfInBounds_toArray, List.set_cons_zero, List.set_cons_succ])
    refine (IT.out W1).mono ?_
    rintro e w3 ⟨rfl, rfl⟩
    go_wp2_with fail
    refine wp_region_still_tail 10 (by kernel_rfl) (by kernel_rfl) ?_
    simp only [List.take_succ_cons, List.take_zero, List.drop_succ_cons, List.drop_zero]
    still_step
    still_step
    still_step
    still_step
    still_call (absent_any _ _)
    still_step
    still_step
    still_step
    still_step
    still_call (absent_any _ _)
    refine wpStill_nil ?_
    have HC := hid (colG_lit erC_ok (World.drew w3) 30 [absE ((x.refs.length : Int) == 0), absE ((x.mvds.length : Int) == 0)] (by simp [maxLen]) (oW.out.1.drew))
    clear c0 c23 c24 oW BX HW
    generalize hd : World.drew w3 = wd at *
    go_wp2_with fail
    go_ret
    exact ⟨_, rfl, HC.out⟩
  · have MO : motionE x refs = [absE (decide ((x.refs.length : Int) = partsI x.kind))] ++ x.refs.map (refE refs) ++ [absE (decide ((x.mvds.length : Int) = (piecesN x.kind.toNat (subN x.sb)).1))] ++ x.mvds.map mvdE := by unfold motionE; rw [if_pos hin]
    obtain ⟨out, hout⟩ : ∃ l, l = [absE (decide ((x.refs.length : Int) = partsI x.kind))] ++ x.refs.map (refE refs) ++ [absE (decide ((x.mvds.length : Int) = (piecesN x.kind.toNat (subN x.sb)).1))] ++ x.mvds.map mvdE := ⟨_, rfl⟩
    rw [MO, ← hout]
    clear MO
    go_enter Tryd.func41, Tryd.ntmps41
    generalize hq : (Code.seq _ _) = cc
    have hcc : cc = endWith 3 moB (dropSeq 3 moB) := by rw [← hq]; kernel_rfl
    rw [hcc]
    clear hq hcc
    refine mo_begin _ _ x ra va rc vc bv refs w hin _ _ _ _ _ _ _ _ _ _ _ _ _ _ _ _ _ _ _ _ _ _ _ _ _ _ _ _ _ _ _ _ _ _ _ _ _ _ _ _ _ _ _ _ _ _ _ _ _ _ _ _ _ _ _ _ _ _ _ _ _ _ _ _ _ _ _ _ _ _ _ _ _ _ _ _ _ _ _ _ _ _ _ _ _ _ _ _ _ _ _ _ _ _ _ _ (fun Z W1 s2 w2 v4 v10 v11 v12 v13 v14 v15 v16 v17 v18 v19 v20 v21 v22 v23 v24 v25 v26 v27 v28 v29 v30 v31 v32 v33 bX oW h2 => ?_)
    have L := hid (fun w' (o : Only [] W1 w') => bX.only o (by simp))
    rw [show dropSeq 3 moB = endWith 1 (dropSeq 3 moB) (dropSeq 4 moB) from by kernel_rfl]
    refine mo_refs _ _ x ra va rc vc bv Z _ _ w W1 _ (by simp) l1 h2 (fun w' o => L.out w' o) hm.r oW.1 refs rb _ _ _ _ _ _ _ _ _ _ _ _ _ _ _ _ _ _ _ _ _ _ _ _ _ _ _ _ _ _ _ _ _ _ _ _ _ _ _ _ _ _ _ _ _ _ _ _ _ _ _ _ _ _ _ _ _ _ _ _ _ _ _ _ _ _ _ _ _ _ _ _ _ _ _ _ _ _ _ _ _ _ _ _ _ _ _ _ _ _ _ _ _ _ _ (fun s3 w3 v6 v34 v35 v36 v37 v38 v39 v40 v41 v42 v43 v44 v45 v46 v47 v48 v49 v50 v51 v52 h3 => ?_)
    rw [show dropSeq 4 moB = endWith 2 (dropSeq 4 moB) (dropSeq 6 moB) from by kernel_rfl]
    refine mo_many _ _ x ra va rc vc bv Z _ _ W1 _ (by simp; omega) h3 (fun w' o => L.out w' o) hx _ _ _ _ _ _ _ _ _ _ _ _ _ _ _ _ _ _ _ _ _ _ _ _ _ _ _ _ _ _ _ _ _ _ _ _ _ _ _ _ _ _ _ _ _ _ _ _ _ _ _ _ _ _ _ _ _ _ _ _ _ _ _ _ _ _ _ _ _ _ _ _ _ _ _ _ _ _ _ _ _ _ _ _ _ _ _ _ _ _ _ _ _ _ _ _ (fun s4 w4 v7 v8 v53 v54 v55 v56 v57 v58 v59 v60 v61 v62 v63 v64 v65 v66 v67 v68 v69 h4 => ?_)
    rw [show dropSeq 6 moB = endWith 1 (dropSeq 6 moB) (dropSeq 7 moB) from by kernel_rfl]
    refine mo_mvds _ _ x ra va rc vc bv Z _ _ w W1 _ (by simp; omega) l2 h4 (fun w' o => L.out w' o) hm.v oW.1 _ _ _ _ _ _ _ _ _ _ _ _ _ _ _ _ _ _ _ _ _ _ _ _ _ _ _ _ _ _ _ _ _ _ _ _ _ _ _ _ _ _ _ _ _ _ _ _ _ _ _ _ _ _ _ _ _ _ _ _ _ _ _ _ _ _ _ _ _ _ _ _ _ _ _ _ _ _ _ _ _ _ _ _ _ _ _ _ _ _ _ _ _ _ _ _ (fun s5 w5 v9 v70 v71 v72 v73 v74 v75 v76 v77 v78 v79 v80 v81 v82 v83 v84 v85 v86 v87 v88 v89 v90 v91 v92 v93 v94 v95 v96 h5 => ?_)
    have H5 := hid (show ColE w w5 s5 out from by rw [hout]; exact ⟨h5.row, fun g hg => Nat.le_trans oW.1.size (h5.new g hg), oW.1.trans h5.only⟩)
    clear h2 h3 h4 h5 bX oW L hx hm rb l1 l2 hin hout
    conv => arg 2; whnf
    go_wp2_with fail
    go_ret
    exact ⟨_, rfl, H5.out⟩
end Go.Proofs.YtpmmnjeomdjakaaDoor

end
section
set_option maxRecDepth 20000
namespace Go.Proofs.YtpmmnjeomdjakaaDoor
open Go.RowKit
set_option linter.unusedVariables false
set_option linter.unusedSimpArgs false

noncomputable def reB : Code := Tryd.f42.body.getD .skip
/-- Its lists are not long. -/
structure MFew (x : MV) : Prop where
  r : x.refs.length ≤ 1000
  v : x.mvds.length ≤ 1000
  b : x.blocks.length ≤ 1000
  i : ∀ l, l ∈ x.blocks → l.length ≤ 500
theorem blksE_take {ws : List Cod} {bs : List (List Int)} {i : Nat} {c : Cod} {b : List Int} (hc : ws[i]? = some c) (hb : bs[i]? = some b) : blksE (ws.take (i + 1)) (bs.take (i + 1)) = blksE (ws.take i) (bs.take i) ++ blkE c b := by
  induction i generalizing ws bs with
  | zero =>
    cases ws with
    | nil => simp at hc
    | cons w ws =>
      cases bs with
      | nil => simp at hb
      | cons d bs =>
        simp only [List.getElem?_cons_zero, Option.some.injEq] at hc hb
        subst hc hb
        simp [blksE]
  | succ i ih =>
    cases ws with
    | nil => simp at hc
    | cons w ws =>
      cases bs with
      | nil => simp at hb
      | cons d bs =>
        simp only [List.getElem?_cons_succ] at hc hb
        rw [List.take_succ_cons, List.take_succ_cons, List.take_succ_cons, List.take_succ_cons, blksE, blksE, ih hc hb, List.append_assoc]
theorem blksE_min : ∀ (ws : List Cod) (bs : List (List Int)), blksE (ws.take (min bs.length ws.length)) (bs.take (min bs.length ws.length)) = blksE ws bs := by
  intro ws
  induction ws with
  | nil => intro bs; simp [blksE]
  | cons w ws ih =>
    intro bs
    cases bs with
    | nil => simp [blksE]
    | cons d bs =>
      rw [show min (d :: bs).length (w :: ws).length = min bs.length ws.length + 1 from by simp only [List.length_cons]; omega, List.take_succ_cons, List.take_succ_cons, blksE, blksE, ih bs]
theorem blksE_len : ∀ (bs : List (List Int)) (ws : List Cod), (∀ l, l ∈ bs → l.length ≤ 500) → (blksE ws bs).length ≤ 501 * bs.length := by
  intro bs
  induction bs with
  | nil => intro ws _; cases ws <;> simp [blksE]
  | cons d bs ih =>
    intro ws h
    cases ws with
    | nil => simp [blksE]
    | cons w ws =>
      have h1 := ih ws (fun l hl => h l (List.mem_cons_of_mem _ hl))
      have h2 := h d (by simp)
      rw [blksE, List.length_append]
      simp only [blkE, List.length_cons, List.length_map]
      omega
theorem lumaB_cat (cat : Int) (cbp : Nat) : ∀ i (c : Cod), c ∈ lumaB cat cbp i → c.1 = cat := by
  intro i
  induction i with
  | zero => intro c h; simp [lumaB] at h
  | succ i ih =>
    intro c h
    rw [lumaB, List.mem_append] at h
    rcases h with h | h
    · exact ih c h
    · split at h
      · simp [quarterB] at h
        rcases h with rfl | rfl | rfl | rfl <;> rfl
      · simp at h
theorem blocksL_cat (k cbp : Nat) (c : Cod) (h : c ∈ blocksL k cbp) : 0 ≤ c.1 ∧ c.1 ≤ 4 := by
  unfold blocksL at h
  split at h
  · simp only [List.mem_append] at h
    rcases h with ((h | h) | h) | h
    · unfold firstB at h
      split at h
      · simp at h; subst h; decide
      · simp at h
    · have := lumaB_cat _ _ _ c h
      unfold catB at this
      split at this <;> omega
    · split at h
      · simp at h
      · simp [dcB] at h; rcases h with rfl | rfl <;> decide
    · split at h
      · simp [acB] at h; rcases h with rfl | rfl | rfl | rfl | rfl | rfl | rfl | rfl <;> decide
      · simp at h
  · simp at h
theorem blocksL_len (k cbp : Nat) : (blocksL k cbp).length ≤ 27 := by
  unfold blocksL
  split
  · have f1 : (firstB k).length ≤ 1 := by unfold firstB; split <;> simp
    have f2 := lumaB_len (catB k) cbp 4
    have f3 : (if cbp / 16 = 0 then ([] : List Cod) else dcB).length ≤ 2 := by split <;> simp [dcB]
    have f4 : (if cbp / 16 = 2 then acB else []).length ≤ 8 := by split <;> simp [acB]
    simp only [List.length_append]
    omega
  · simp
abbrev SolE (S : List Nat) (w0 w : World) (sv : Value) (l : List Int) : Prop := ColS erC 1 30 S w0 w sv l
theorem SolE.one {S : List Nat} {w0 w : World} {sv : Value} {l : List Int} (h : SolE S w0 w sv l) (x : Int) (hl : l.length + 1 ≤ 1000000) : ∃ sv2 w2, (Builtin.append_ #[68, 68] 68 #[sv, .slice (some ⟨w.heap.size, 0, none⟩) 1 1]).run Tryd.prog (w.alloc (.cells #[.int .i64 x] 30)) = .ok sv2 w2 ∧ SolE S w0 w2 sv2 (l ++ [x]) := h.app1 erC_ok er_row x hl
end Go.Proofs.YtpmmnjeomdjakaaDoor

end
section
set_option maxRecDepth 20000
namespace Go.Proofs.YtpmmnjeomdjakaaDoor
open Go.RowKit
set_option linter.unusedVariables false
set_option linter.unusedSimpArgs false

set_option maxRecDepth 1000000 in
set_option maxHeartbeats 8000000 in
theorem re_cbp (rest : Code) (Q : Exit → Act → World → Prop)  (x : MV) (rv vv : Value) (ba : Option Addr) (bc : Nat) (w : World) (hx : MIn x) (u1 u2 u3 u4 u5 u6 u7 u8 u9 u10 u11 u12 u13 u14 u15 u16 u17 u18 u19 u20 u21 u22 u23 u24 u25 u26 u27 u28 u29 u30 u31 u32 u33 u34 u35 u36 u37 u38 u39 u40 u41 u42 u43 u44 u45 u46 u47 u48 u49 u50 u51 u52 u53 u54 u55 u56 u57 u58 u59 u60 u61 u62 u63 u64 u65 u66 u67 u68 u69 u70 u71 u72 u73 u74 u75 u76 u77 u78 u79 u80 u81 u82 u83 u84 u85 u86 u87 u88 u89 u90 u91 u92 u93 u94 u95 u96 u97 u98 u99 u100 u101 u102 u103 u104 u105 u106 u107 u108 u109 u110 u111 u112 u113 u114 u115 u116 u117 u118 u119 u120 u121 u122 u123 u124 u125 u126 u127 u128 u129 u130 u131 u132 u133 u134 u135 u136 u137 u138 u139 u140 u141 u142 u143 u144 u145 u146 u147 u148 u149 u150 u151 u152 u153 u154 u155 u156 : Value)
    (hr : ∀ (Z : Nat) (W1 : World) (sv' : Value) (w' : World) (v2 v9 v10 v11 v12 v13 v14 v15 v16 v17 v18 v19 v20 v21 v22 v23 v24 v25 v26 v27 v28 v29 v30 v31 v32 v33 v34 v35 v36 v37 v38 v39 v40 v41 v42 : Value), Blk W1 Z 28 (mC x rv vv (.slice ba x.blocks.length bc)).toArray → Only [] w W1 ∧ w.heap.size ≤ Z → ColE W1 w' sv' [cbpE x] → rest.wp Tryd.prog Q ⟨#[mV x rv vv (.slice ba x.blocks.length bc), .pointer (some ⟨Z, 0, none⟩), v2, sv', u4, u5, u6, u7, u8, v9, v10, v11, v12, v13, v14, v15, v16, v17, v18, v19, v20, v21, v22, v23, v24, v25, v26, v27, v28, v29, v30, v31, v32, v33, v34, v35, v36, v37, v38, v39, v40, v41, v42, u43, u44, u45, u46, u47, u48, u49, u50, u51, u52, u53, u54, u55, u56, u57, u58, u59, u60, u61, u62, u63, u64, u65, u66, u67, u68, u69, u70, u71, u72, u73, u74, u75, u76, u77, u78, u79, u80, u81, u82, u83, u84, u85, u86, u87, u88, u89, u90, u91, u92, u93, u94, u95, u96, u97, u98, u99, u100, u101, u102, u103, u104, u105, u106, u107, u108, u109, u110, u111, u112, u113, u114, u115, u116, u117, u118, u119, u120, u121, u122, u123, u124, u125, u126, u127, u128, u129, u130, u131, u132, u133, u134, u135, u136, u137, u138, u139, u140, u141, u142, u143, u144, u145, u146, u147, u148, u149, u150, u151, u152, u153, u154, u155, u156], []⟩ w') :
    (endWith 3 reB rest).wp Tryd.prog Q ⟨#[mV x rv vv (.slice ba x.blocks.length bc), u1, u2, u3, u4, u5, u6, u7, u8, u9, u10, u11, u12, u13, u14, u15, u16, u17, u18, u19, u20, u21, u22, u23, u24, u25, u26, u27, u28, u29, u30, u31, u32, u33, u34, u35, u36, u37, u38, u39, u40, u41, u42, u43, u44, u45, u46, u47, u48, u49, u50, u51, u52, u53, u54, u55, u56, u57, u58, u59, u60, u61, u62, u63, u64, u65, u66, u67, u68, u69, u70, u71, u72, u73, u74, u75, u76, u77, u78, u79, u80, u81, u82, u83, u84, u85, u86, u87, u88, u89, u90, u91, u92, u93, u94, u95, u96, u97, u98, u99, u100, u101, u102, u103, u104, u105, u106, u107, u108, u109, u110, u111, u112, u113, u114, u115, u116, u117, u118, u119, u120, u121, u122, u123, u124, u125, u126, u127, u128, u129, u130, u131, u132, u133, u134, u135, u136, u137, u138, u139, u140, u141, u142, u143, u144, u145, u146, u147, u148, u149, u150, u151, u152, u153, u154, u155, u156], []⟩ w := by
  conv => arg 2; whnf; arg 2; whnf; arg 2; whnf; arg 2; whnf
  have HR := hid hr
  clear hr
  obtain ⟨W1, hW⟩ : ∃ W, W = w.alloc (.cells (mC x rv vv (.slice ba x.blocks.length bc)).toArray 28) := ⟨_, rfl⟩
  have BX := hid (show Blk W1 w.heap.size 28 (mC x rv vv (.slice ba x.blocks.length bc)).toArray from hW ▸ Blk.new w _ _)
  obtain ⟨Z, hZ⟩ : ∃ Z, Z = w.heap.size := ⟨_, rfl⟩
  have oW := hid (show Only [] w W1 ∧ w.heap.size ≤ Z from ⟨hW ▸ ((Only.refl [] w).alloc _), by omega⟩)
  rw [← hZ] at BX
  have c0 := BX.out.cell (i := 0) (v := .int .u8 x.kind) rfl
  have c25 := BX.out.cell (i := 25) (v := .int .u8 x.cbp) rfl
  have HW := hid hW
  have HZ := hid hZ
  have CD := hid (fun w => rcoded_any x.kind w)
  have HS := hid (ColG.nil W1 : ColE W1 W1 (.slice none 0 0) [])
  have b0 := hx.c0
  have b1 := hx.c1
  clear hW hZ hx
  unfold mV at HR ⊢
  by_cases hcd : codedI x.kind = true
  · by_cases h1 : x.cbp ≤ 47
    · by_cases h2 : x.kind = 1
      · by_cases h3 : x.cbp % 16 = 0
        · have d1 : decide (x.cbp ≤ 47) = true := decide_eq_true h1
          have d2 : (x.kind != 1) = false := by simp [h2]
          have d3 : (x.cbp % 16 == 0) = true := by simp [h3]
          have ME := hid (show rngE true = cbpE x from by unfold cbpE; rw [if_pos hcd]; simp [rngE, h1, h2, h3])
          rw [hcd] at CD
          clear hcd h1 h2 h3
          go_wp2_with (refine wp_box rfl 28 (.tmp 0) rfl (mC x rv vv (.slice ba x.blocks.length bc)).toArray rfl HW.out HZ.out ?_; simp only [Act.put, List.setIfInBounds_toArray, List.set_cons_zero, List.set_cons_succ])
          refine (CD.out W1).mono ?_
          rintro e w3 ⟨rfl, rfl⟩
          go_wp2_with fail
          refine (ranged_any _ _).mono ?_
          rintro e w4 ⟨rfl, rfl⟩
          rw [ME.out]
          obtain ⟨sv2, w2, hrun, hcol⟩ := ColE.one HS.out (cbpE x) (by simp)
          have RUN := hid hrun
          have COL := hid hcol
          clear hrun hcol
          go_wp2_with (at_builtin; refine wp_append_eq (by kernel_rfl) (.tmp 12) (.tmp 34) _ _ rfl _ _ sv2 w2 rfl rfl RUN.out ?_; simp only [Act.put, List.setIfInBounds_toArray, List.set_cons_zero, List.set_cons_succ])
          exact HR.out Z _ _ _ _ _ _ _ _ _ _ _ _ _ _ _ _ _ _ _ _ _ _ _ _ _ _ _ _ _ _ _ _ _ _ _ _ _ _ BX.out oW.out COL.out
        · by_cases h4 : x.cbp % 16 = 15
          · have d1 : decide (x.cbp ≤ 47) = true := decide_eq_true h1
            have d2 : (x.kind != 1) = false := by simp [h2]
            have d3 : (x.cbp % 16 == 0) = false := by simp [h4]
            have d4 : (x.cbp % 16 == 15) = true := by simp [h4]
            have ME := hid (show rngE true = cbpE x from by unfold cbpE; rw [if_pos hcd]; simp [rngE, h1, h2, h4])
            rw [hcd] at CD
            clear hcd h1 h2 h4
            go_wp2_with (refine wp_box rfl 28 (.tmp 0) rfl (mC x rv vv (.slice ba x.blocks.length bc)).toArray rfl HW.out HZ.out ?_; simp only [Act.put, List.setIfInBounds_toArray, List.set_cons_zero, List.set_cons_succ])
            refine (CD.out W1).mono ?_
            rintro e w3 ⟨rfl, rfl⟩
            go_wp2_with fail
            refine (ranged_any _ _).mono ?_
            rintro e w4 ⟨rfl, rfl⟩
            rw [ME.out]
            obtain ⟨sv2, w2, hrun, hcol⟩ := ColE.one HS.out (cbpE x) (by simp)
            have RUN := hid hrun
            have COL := hid hcol
            clear hrun hcol
            go_wp2_with (at_builtin; refine wp_append_eq (by kernel_rfl) (.tmp 12) (.tmp 34) _ _ rfl _ _ sv2 w2 rfl rfl RUN.out ?_; simp only [Act.put, List.setIfInBounds_toArray, List.set_cons_zero, List.set_cons_succ])
            exact HR.out Z _ _ _ _ _ _ _ _ _ _ _ _ _ _ _ _ _ _ _ _ _ _ _ _ _ _ _ _ _ _ _ _ _ _ _ _ _ _ BX.out oW.out COL.out
          · have d1 : decide (x.cbp ≤ 47) = true := decide_eq_true h1
            have d2 : (x.kind != 1) = false := by simp [h2]
            have d3 : (x.cbp % 16 == 0) = false := by simpa using h3
            have d4 : (x.cbp % 16 == 15) = false := by simpa using h4
            have ME := hid (show rngE false = cbpE x from by unfold cbpE; rw [if_pos hcd]; simp [rngE, h1, h2, h3, h4])
            rw [hcd] at CD
            clear hcd h1 h2 h3 h4
            go_wp2_with (refine wp_box rfl 28 (.tmp 0) rfl (mC x rv vv (.slice ba x.blocks.length bc)).toArray rfl HW.out HZ.out ?_; simp only [Act.put, List.setIfInBounds_toArray, List.set_cons_zero, List.set_cons_succ])
            refine (CD.out W1).mono ?_
            rintro e w3 ⟨rfl, rfl⟩
            go_wp2_with fail
            refine (ranged_any _ _).mono ?_
            rintro e w4 ⟨rfl, rfl⟩
            rw [ME.out]
            obtain ⟨sv2, w2, hrun, hcol⟩ := ColE.one HS.out (cbpE x) (by simp)
            have RUN := hid hrun
            have COL := hid hcol
            clear hrun hcol
            go_wp2_with (at_builtin; refine wp_append_eq (by kernel_rfl) (.tmp 12) (.tmp 34) _ _ rfl _ _ sv2 w2 rfl rfl RUN.out ?_; simp only [Act.put, List.setIfInBounds_toArray, List.set_cons_zero, List.set_cons_succ])
            exact HR.out Z _ _ _ _ _ _ _ _ _ _ _ _ _ _ _ _ _ _ _ _ _ _ _ _ _ _ _ _ _ _ _ _ _ _ _ _ _ _ BX.out oW.out COL.out
      · have d1 : decide (x.cbp ≤ 47) = true := decide_eq_true h1
        have d2 : (x.kind != 1) = true := by simpa using h2
        have ME := hid (show rngE true = cbpE x from by unfold cbpE; rw [if_pos hcd]; simp [rngE, h1, h2])
        rw [hcd] at CD
        clear hcd h1 h2
        go_wp2_with (refine wp_box rfl 28 (.tmp 0) rfl (mC x rv vv (.slice ba x.blocks.length bc)).toArray rfl HW.out HZ.out ?_; simp only [Act.put, List.setIfInBounds_toArray, List.set_cons_zero, List.set_cons_succ])
        refine (CD.out W1).mono ?_
        rintro e w3 ⟨rfl, rfl⟩
        go_wp2_with fail
        refine (ranged_any _ _).mono ?_
        rintro e w4 ⟨rfl, rfl⟩
        rw [ME.out]
        obtain ⟨sv2, w2, hrun, hcol⟩ := ColE.one HS.out (cbpE x) (by simp)
        have RUN := hid hrun
        have COL := hid hcol
        clear hrun hcol
        go_wp2_with (at_builtin; refine wp_append_eq (by kernel_rfl) (.tmp 12) (.tmp 34) _ _ rfl _ _ sv2 w2 rfl rfl RUN.out ?_; simp only [Act.put, List.setIfInBounds_toArray, List.set_cons_zero, List.set_cons_succ])
        exact HR.out Z _ _ _ _ _ _ _ _ _ _ _ _ _ _ _ _ _ _ _ _ _ _ _ _ _ _ _ _ _ _ _ _ _ _ _ _ _ _ BX.out oW.out COL.out
    · have d1 : decide (x.cbp ≤ 47) = false := decide_eq_false h1
      have ME := hid (show rngE false = cbpE x from by unfold cbpE; rw [if_pos hcd]; simp [rngE, h1])
      rw [hcd] at CD
      clear hcd h1
      go_wp2_with (refine wp_box rfl 28 (.tmp 0) rfl (mC x rv vv (.slice ba x.blocks.length bc)).toArray rfl HW.out HZ.out ?_; simp only [Act.put, List.setIfInBounds_toArray, List.set_cons_zero, List.set_cons_succ])
      refine (CD.out W1).mono ?_
      rintro e w3 ⟨rfl, rfl⟩
      go_wp2_with fail
      refine (ranged_any _ _).mono ?_
      rintro e w4 ⟨rfl, rfl⟩
      rw [ME.out]
      obtain ⟨sv2, w2, hrun, hcol⟩ := ColE.one HS.out (cbpE x) (by simp)
      have RUN := hid hrun
      have COL := hid hcol
      clear hrun hcol
      go_wp2_with (at_builtin; refine wp_append_eq (by kernel_rfl) (.tmp 12) (.tmp 34) _ _ rfl _ _ sv2 w2 rfl rfl RUN.out ?_; simp only [Act.put, List.setIfInBounds_toArray, List.set_cons_zero, List.set_cons_succ])
      exact HR.out Z _ _ _ _ _ _ _ _ _ _ _ _ _ _ _ _ _ _ _ _ _ _ _ _ _ _ _ _ _ _ _ _ _ _ _ _ _ _ BX.out oW.out COL.out
  · have hcd : codedI x.kind = false := by simpa using hcd
    have ME := hid (show absE (x.cbp == 0) = cbpE x from by unfold cbpE; rw [hcd]; rfl)
    rw [hcd] at CD
    clear hcd
    go_wp2_with (refine wp_box rfl 28 (.tmp 0) rfl (mC x rv vv (.slice ba x.blocks.length bc)).toArray rfl HW.out HZ.out ?_; simp only [Act.put, List.setIfInBounds_toArray, List.set_cons_zero, List.set_cons_succ])
    refine (CD.out W1).mono ?_
    rintro e w3 ⟨rfl, rfl⟩
    go_wp2_with fail
    refine (absent_any _ _).mono ?_
    rintro e w4 ⟨rfl, rfl⟩
    rw [ME.out]
    obtain ⟨sv2, w2, hrun, hcol⟩ := ColE.one HS.out (cbpE x) (by simp)
    have RUN := hid hrun
    have COL := hid hcol
    clear hrun hcol
    go_wp2_with (at_builtin; refine wp_append_eq (by kernel_rfl) (.tmp 36) (.tmp 41) _ _ rfl _ _ sv2 w2 rfl rfl RUN.out ?_; simp only [Act.put, List.setIfInBounds_toArray, List.set_cons_zero, List.set_cons_succ])
    exact HR.out Z _ _ _ _ _ _ _ _ _ _ _ _ _ _ _ _ _ _ _ _ _ _ _ _ _ _ _ _ _ _ _ _ _ _ _ _ _ _ BX.out oW.out COL.out
end Go.Proofs.YtpmmnjeomdjakaaDoor

end
section
set_option maxRecDepth 20000
namespace Go.Proofs.YtpmmnjeomdjakaaDoor
open Go.RowKit
set_option linter.unusedVariables false
set_option linter.unusedSimpArgs false

set_option maxRecDepth 1000000 in
set_option maxHeartbeats 8000000 in
theorem re_qp (rest : Code) (Q : Exit → Act → World → Prop)  (x : MV) (rv vv : Value) (ba : Option Addr) (bc : Nat) (Z : Nat) (pre : List Int) (sv : Value) (W1 w : World) (hp : pre.length ≤ 600000) (hs : ColE W1 w sv pre) (LD : ∀ w', Only [] W1 w' → Blk w' Z 28 (mC x rv vv (.slice ba x.blocks.length bc)).toArray) (u0 u2 u4 u5 u6 u7 u8 u9 u10 u11 u12 u13 u14 u15 u16 u17 u18 u19 u20 u21 u22 u23 u24 u25 u26 u27 u28 u29 u30 u31 u32 u33 u34 u35 u36 u37 u38 u39 u40 u41 u42 u43 u44 u45 u46 u47 u48 u49 u50 u51 u52 u53 u54 u55 u56 u57 u58 u59 u60 u61 u62 u63 u64 u65 u66 u67 u68 u69 u70 u71 u72 u73 u74 u75 u76 u77 u78 u79 u80 u81 u82 u83 u84 u85 u86 u87 u88 u89 u90 u91 u92 u93 u94 u95 u96 u97 u98 u99 u100 u101 u102 u103 u104 u105 u106 u107 u108 u109 u110 u111 u112 u113 u114 u115 u116 u117 u118 u119 u120 u121 u122 u123 u124 u125 u126 u127 u128 u129 u130 u131 u132 u133 u134 u135 u136 u137 u138 u139 u140 u141 u142 u143 u144 u145 u146 u147 u148 u149 u150 u151 u152 u153 u154 u155 u156 : Value)
    (hr : ∀ (sv' : Value) (w' : World) (v43 v44 v45 v46 v47 v48 v49 v50 v51 v52 v53 v54 v55 v56 v57 v58 v59 v60 v61 v62 v63 v64 v65 v66 v67 v68 v69 : Value), ColE W1 w' sv' (pre ++ [qpE x]) → rest.wp Tryd.prog Q ⟨#[u0, .pointer (some ⟨Z, 0, none⟩), u2, sv', u4, u5, u6, u7, u8, u9, u10, u11, u12, u13, u14, u15, u16, u17, u18, u19, u20, u21, u22, u23, u24, u25, u26, u27, u28, u29, u30, u31, u32, u33, u34, u35, u36, u37, u38, u39, u40, u41, u42, v43, v44, v45, v46, v47, v48, v49, v50, v51, v52, v53, v54, v55, v56, v57, v58, v59, v60, v61, v62, v63, v64, v65, v66, v67, v68, v69, u70, u71, u72, u73, u74, u75, u76, u77, u78, u79, u80, u81, u82, u83, u84, u85, u86, u87, u88, u89, u90, u91, u92, u93, u94, u95, u96, u97, u98, u99, u100, u101, u102, u103, u104, u105, u106, u107, u108, u109, u110, u111, u112, u113, u114, u115, u116, u117, u118, u119, u120, u121, u122, u123, u124, u125, u126, u127, u128, u129, u130, u131, u132, u133, u134, u135, u136, u137, u138, u139, u140, u141, u142, u143, u144, u145, u146, u147, u148, u149, u150, u151, u152, u153, u154, u155, u156], []⟩ w') :
    (endWith 1 (dropSeq 3 reB) rest).wp Tryd.prog Q ⟨#[u0, .pointer (some ⟨Z, 0, none⟩), u2, sv, u4, u5, u6, u7, u8, u9, u10, u11, u12, u13, u14, u15, u16, u17, u18, u19, u20, u21, u22, u23, u24, u25, u26, u27, u28, u29, u30, u31, u32, u33, u34, u35, u36, u37, u38, u39, u40, u41, u42, u43, u44, u45, u46, u47, u48, u49, u50, u51, u52, u53, u54, u55, u56, u57, u58, u59, u60, u61, u62, u63, u64, u65, u66, u67, u68, u69, u70, u71, u72, u73, u74, u75, u76, u77, u78, u79, u80, u81, u82, u83, u84, u85, u86, u87, u88, u89, u90, u91, u92, u93, u94, u95, u96, u97, u98, u99, u100, u101, u102, u103, u104, u105, u106, u107, u108, u109, u110, u111, u112, u113, u114, u115, u116, u117, u118, u119, u120, u121, u122, u123, u124, u125, u126, u127, u128, u129, u130, u131, u132, u133, u134, u135, u136, u137, u138, u139, u140, u141, u142, u143, u144, u145, u146, u147, u148, u149, u150, u151, u152, u153, u154, u155, u156], []⟩ w := by
  conv => arg 2; whnf; arg 2; whnf
  have HR := hid hr
  clear hr
  have HS := hid hs
  have PL := hid (show pre.length + 1 ≤ 1000000 by omega)
  have BX := hid (LD w hs.only)
  have c0 := BX.out.cell (i := 0) (v := .int .u8 x.kind) rfl
  have c25 := BX.out.cell (i := 25) (v := .int .u8 x.cbp) rfl
  have c26 := BX.out.cell (i := 26) (v := .int .i64 x.qp) rfl
  have CD := hid (fun w => rcoded_any x.kind w)
  clear hs LD hp
  by_cases h1 : x.kind = 1
  · have e1 : (x.kind == 1) = true := by simpa using h1
    have ME := hid (show rngE (inI x.qp (-26) 25) = qpE x from by unfold qpE; rw [if_pos (.inl h1)])
    clear h1
    go_wp2_with fail
    refine (rwithin13_any _ _ _ _).mono ?_
    rintro e w3 ⟨rfl, rfl⟩
    go_wp2_with fail
    refine (ranged_any _ _).mono ?_
    rintro e w4 ⟨rfl, rfl⟩
    rw [ME.out]
    obtain ⟨sv2, w2, hrun, hcol⟩ := ColE.one HS.out (qpE x) PL.out
    have RUN := hid hrun
    have COL := hid hcol
    clear hrun hcol
    go_wp2_with (at_builtin; refine wp_append_eq (by kernel_rfl) (.tmp 56) (.tmp 61) _ _ rfl _ _ sv2 w2 rfl rfl RUN.out ?_; simp only [Act.put, List.setIfInBounds_toArray, List.set_cons_zero, List.set_cons_succ])
    exact HR.out _ _ _ _ _ _ _ _ _ _ _ _ _ _ _ _ _ _ _ _ _ _ _ _ _ _ _ _ _ COL.out
  · have e1 : (x.kind == 1) = false := by simpa using h1
    cases hcd : codedI x.kind
    · have ME := hid (show absE (x.qp == 0) = qpE x from by unfold qpE; rw [if_neg (by rintro (h | ⟨h, _⟩); exact h1 h; rw [hcd] at h; exact absurd h (by decide))]; rfl)
      rw [hcd] at CD
      clear h1 hcd
      go_wp2_with fail
      refine (CD.out _).mono ?_
      rintro e w3 ⟨rfl, rfl⟩
      go_wp2_with fail
      refine (absent_any _ _).mono ?_
      rintro e w4 ⟨rfl, rfl⟩
      rw [ME.out]
      obtain ⟨sv2, w2, hrun, hcol⟩ := ColE.one HS.out (qpE x) PL.out
      have RUN := hid hrun
      have COL := hid hcol
      clear hrun hcol
      go_wp2_with (at_builtin; refine wp_append_eq (by kernel_rfl) (.tmp 63) (.tmp 68) _ _ rfl _ _ sv2 w2 rfl rfl RUN.out ?_; simp only [Act.put, List.setIfInBounds_toArray, List.set_cons_zero, List.set_cons_succ])
      exact HR.out _ _ _ _ _ _ _ _ _ _ _ _ _ _ _ _ _ _ _ _ _ _ _ _ _ _ _ _ _ COL.out
    · by_cases h2 : x.cbp = 0
      · have e2 : (x.cbp != 0) = false := by simpa using h2
        have ME := hid (show absE (x.qp == 0) = qpE x from by unfold qpE; rw [if_neg (by rintro (h | ⟨_, h⟩); exact h1 h; exact h h2)]; rfl)
        rw [hcd] at CD
        clear h1 hcd h2
        go_wp2_with fail
        refine (CD.out _).mono ?_
        rintro e w3 ⟨rfl, rfl⟩
        go_wp2_with fail
        refine (absent_any _ _).mono ?_
        rintro e w4 ⟨rfl, rfl⟩
        rw [ME.out]
        obtain ⟨sv2, w2, hrun, hcol⟩ := ColE.one HS.out (qpE x) PL.out
        have RUN := hid hrun
        have COL := hid hcol
        clear hrun hcol
        go_wp2_with (at_builtin; refine wp_append_eq (by kernel_rfl) (.tmp 63) (.tmp 68) _ _ rfl _ _ sv2 w2 rfl rfl RUN.out ?_; simp only [Act.put, List.setIfInBounds_toArray, List.set_cons_zero, List.set_cons_succ])
        exact HR.out _ _ _ _ _ _ _ _ _ _ _ _ _ _ _ _ _ _ _ _ _ _ _ _ _ _ _ _ _ COL.out
      · have e2 : (x.cbp != 0) = true := by simpa using h2
        have ME := hid (show rngE (inI x.qp (-26) 25) = qpE x from by unfold qpE; rw [if_pos (.inr ⟨hcd, h2⟩)])
        rw [hcd] at CD
        clear h1 hcd h2
        go_wp2_with fail
        refine (CD.out _).mono ?_
        rintro e w3 ⟨rfl, rfl⟩
        go_wp2_with fail
        refine (rwithin13_any _ _ _ _).mono ?_
        rintro e w3 ⟨rfl, rfl⟩
        go_wp2_with fail
        refine (ranged_any _ _).mono ?_
        rintro e w4 ⟨rfl, rfl⟩
        rw [ME.out]
        obtain ⟨sv2, w2, hrun, hcol⟩ := ColE.one HS.out (qpE x) PL.out
        have RUN := hid hrun
        have COL := hid hcol
        clear hrun hcol
        go_wp2_with (at_builtin; refine wp_append_eq (by kernel_rfl) (.tmp 56) (.tmp 61) _ _ rfl _ _ sv2 w2 rfl rfl RUN.out ?_; simp only [Act.put, List.setIfInBounds_toArray, List.set_cons_zero, List.set_cons_succ])
        exact HR.out _ _ _ _ _ _ _ _ _ _ _ _ _ _ _ _ _ _ _ _ _ _ _ _ _ _ _ _ _ COL.out
end Go.Proofs.YtpmmnjeomdjakaaDoor

end
section
set_option maxRecDepth 20000
namespace Go.Proofs.YtpmmnjeomdjakaaDoor
open Go.RowKit
set_option linter.unusedVariables false
set_option linter.unusedSimpArgs false

set_option maxRecDepth 1000000 in
set_option maxHeartbeats 8000000 in
theorem re_which (rest : Code) (Q : Exit → Act → World → Prop)  (x : MV) (rv vv : Value) (ba : Option Addr) (bc : Nat) (Z : Nat) (pre : List Int) (sv : Value) (W1 w : World) (hp : pre.length ≤ 600000) (hs : ColE W1 w sv pre) (LD : ∀ w', Only [] W1 w' → Blk w' Z 28 (mC x rv vv (.slice ba x.blocks.length bc)).toArray) (hx : MIn x) (u0 u2 u4 u5 u6 u7 u8 u9 u10 u11 u12 u13 u14 u15 u16 u17 u18 u19 u20 u21 u22 u23 u24 u25 u26 u27 u28 u29 u30 u31 u32 u33 u34 u35 u36 u37 u38 u39 u40 u41 u42 u43 u44 u45 u46 u47 u48 u49 u50 u51 u52 u53 u54 u55 u56 u57 u58 u59 u60 u61 u62 u63 u64 u65 u66 u67 u68 u69 u70 u71 u72 u73 u74 u75 u76 u77 u78 u79 u80 u81 u82 u83 u84 u85 u86 u87 u88 u89 u90 u91 u92 u93 u94 u95 u96 u97 u98 u99 u100 u101 u102 u103 u104 u105 u106 u107 u108 u109 u110 u111 u112 u113 u114 u115 u116 u117 u118 u119 u120 u121 u122 u123 u124 u125 u126 u127 u128 u129 u130 u131 u132 u133 u134 u135 u136 u137 u138 u139 u140 u141 u142 u143 u144 u145 u146 u147 u148 u149 u150 u151 u152 u153 u154 u155 u156 : Value)
    (hr : ∀ (sv' : Value) (w' : World) (w3 : World) (wa : Option Addr) (wc : Nat) (v70 v71 v72 v73 v74 v75 v76 v77 v78 v79 v80 v81 : Value), ColE W1 w3 sv pre → HoldsG cdC 3 w3 (.slice wa (whichL x).length wc) (whichL x) → (∀ a : Addr, wa = some a → a.block ∉ ownG sv) → SolE (ownG sv) w3 w' sv' (pre ++ [absE (decide (x.blocks.length = (whichL x).length))]) → rest.wp Tryd.prog Q ⟨#[u0, .pointer (some ⟨Z, 0, none⟩), u2, sv', .slice wa (whichL x).length wc, u5, u6, u7, u8, u9, u10, u11, u12, u13, u14, u15, u16, u17, u18, u19, u20, u21, u22, u23, u24, u25, u26, u27, u28, u29, u30, u31, u32, u33, u34, u35, u36, u37, u38, u39, u40, u41, u42, u43, u44, u45, u46, u47, u48, u49, u50, u51, u52, u53, u54, u55, u56, u57, u58, u59, u60, u61, u62, u63, u64, u65, u66, u67, u68, u69, v70, v71, v72, v73, v74, v75, v76, v77, v78, v79, v80, v81, u82, u83, u84, u85, u86, u87, u88, u89, u90, u91, u92, u93, u94, u95, u96, u97, u98, u99, u100, u101, u102, u103, u104, u105, u106, u107, u108, u109, u110, u111, u112, u113, u114, u115, u116, u117, u118, u119, u120, u121, u122, u123, u124, u125, u126, u127, u128, u129, u130, u131, u132, u133, u134, u135, u136, u137, u138, u139, u140, u141, u142, u143, u144, u145, u146, u147, u148, u149, u150, u151, u152, u153, u154, u155, u156], []⟩ w') :
    (endWith 2 (dropSeq 4 reB) rest).wp Tryd.prog Q ⟨#[u0, .pointer (some ⟨Z, 0, none⟩), u2, sv, u4, u5, u6, u7, u8, u9, u10, u11, u12, u13, u14, u15, u16, u17, u18, u19, u20, u21, u22, u23, u24, u25, u26, u27, u28, u29, u30, u31, u32, u33, u34, u35, u36, u37, u38, u39, u40, u41, u42, u43, u44, u45, u46, u47, u48, u49, u50, u51, u52, u53, u54, u55, u56, u57, u58, u59, u60, u61, u62, u63, u64, u65, u66, u67, u68, u69, u70, u71, u72, u73, u74, u75, u76, u77, u78, u79, u80, u81, u82, u83, u84, u85, u86, u87, u88, u89, u90, u91, u92, u93, u94, u95, u96, u97, u98, u99, u100, u101, u102, u103, u104, u105, u106, u107, u108, u109, u110, u111, u112, u113, u114, u115, u116, u117, u118, u119, u120, u121, u122, u123, u124, u125, u126, u127, u128, u129, u130, u131, u132, u133, u134, u135, u136, u137, u138, u139, u140, u141, u142, u143, u144, u145, u146, u147, u148, u149, u150, u151, u152, u153, u154, u155, u156], []⟩ w := by
  conv => arg 2; whnf; arg 2; whnf; arg 2; whnf
  have HR := hid hr
  clear hr
  have HS := hid hs
  have PL := hid (show pre.length + 1 ≤ 1000000 by omega)
  have BX := hid (LD w hs.only)
  have RB := hid (rblocks_any x rv vv (.slice ba x.blocks.length bc) w hx)
  clear hs LD hp hx
  go_wp2_with (refine load_atA rfl 28 (.tmp 1) rfl ⟨Z, 0, none⟩ (mC x rv vv (.slice ba x.blocks.length bc)) rfl BX.out.mb ?_; simp only [Act.put, List.setIfInBounds_toArray, List.set_cons_zero, List.set_cons_succ])
  refine RB.out.mono ?_
  rintro e w3 ⟨sw, rfl, hw⟩
  obtain ⟨wa, wc, rfl, _⟩ := id (hw.row.holds cdC_ok)
  have HW := hid (hw.row.holds cdC_ok)
  have ND := hid (show ∀ a : Addr, wa = some a → a.block ∉ ownG sv from fun a e hg => by
    subst e
    have h1 := hw.new a.block (by simp [ownG, Value.ownBlock])
    have h2 := HS.out.row.lt a.block hg
    omega)
  have H3 := hid (HS.out.step hw.only)
  have S3 := hid (ColS.start H3.out)
  have c27 := (BX.out.only hw.only (by simp)).cell (i := 27) (v := .slice ba x.blocks.length bc) rfl
  clear hw
  go_wp2_with fail
  refine (absent_any _ _).mono ?_
  rintro e w4 ⟨rfl, rfl⟩
  obtain ⟨sv2, w2, hrun, hcol⟩ := SolE.one S3.out (absE ((x.blocks.length : Int) == ((whichL x).length : Int))) PL.out
  have RUN := hid hrun
  have COL := hid hcol
  clear hrun hcol
  have ME := hid (show absE ((x.blocks.length : Int) == ((whichL x).length : Int)) = absE (decide (x.blocks.length = (whichL x).length)) from by
    by_cases h : x.blocks.length = (whichL x).length
    · rw [decide_eq_true h, h]; simp
    · rw [decide_eq_false h, show ((x.blocks.length : Int) == ((whichL x).length : Int)) = false from by rw [beq_eq_false_iff_ne]; omega])
  go_wp2_with (at_builtin; refine wp_append_eq (by kernel_rfl) (.tmp 72) (.tmp 80) _ _ rfl _ _ sv2 w2 rfl rfl RUN.out ?_; simp only [Act.put, List.setIfInBounds_toArray, List.set_cons_zero, List.set_cons_succ])
  exact HR.out _ _ w4 wa wc _ _ _ _ _ _ _ _ _ _ _ _ H3.out HW.out ND.out (by rw [← ME.out]; exact COL.out)
end Go.Proofs.YtpmmnjeomdjakaaDoor

end
section
set_option maxRecDepth 20000
namespace Go.Proofs.YtpmmnjeomdjakaaDoor
open Go.RowKit
set_option linter.unusedVariables false
set_option linter.unusedSimpArgs false

set_option maxRecDepth 1000000 in
set_option maxHeartbeats 8000000 in
theorem re_blks (rest : Code) (Q : Exit → Act → World → Prop)  (x : MV) (rv vv : Value) (ba : Option Addr) (bc : Nat) (ws : List Cod) (wa : Option Addr) (wc : Nat) (Z : Nat) (pre : List Int) (sv : Value) (S : List Nat) (W0 w3 w : World) (hp : pre.length ≤ 1000) (hs : SolE S w3 w sv pre) (LD : ∀ w', Only S w3 w' → Blk w' Z 28 (mC x rv vv (.slice ba x.blocks.length bc)).toArray) (KP : ∀ p v w', W0.cell? p = some v → Only S w3 w' → w'.cell? p = some v) (WD : ∀ w', Only S w3 w' → HoldsG cdC 3 w' (.slice wa ws.length wc) ws) (hB : HoldsB W0 (.slice ba x.blocks.length bc) x.blocks) (hf : MFew x) (hwc : ∀ c, c ∈ ws → 0 ≤ c.1 ∧ c.1 ≤ 4) (hwb : ws.length ≤ 27) (u0 u2 u5 u6 u7 u8 u9 u10 u11 u12 u13 u14 u15 u16 u17 u18 u19 u20 u21 u22 u23 u24 u25 u26 u27 u28 u29 u30 u31 u32 u33 u34 u35 u36 u37 u38 u39 u40 u41 u42 u43 u44 u45 u46 u47 u48 u49 u50 u51 u52 u53 u54 u55 u56 u57 u58 u59 u60 u61 u62 u63 u64 u65 u66 u67 u68 u69 u70 u71 u72 u73 u74 u75 u76 u77 u78 u79 u80 u81 u82 u83 u84 u85 u86 u87 u88 u89 u90 u91 u92 u93 u94 u95 u96 u97 u98 u99 u100 u101 u102 u103 u104 u105 u106 u107 u108 u109 u110 u111 u112 u113 u114 u115 u116 u117 u118 u119 u120 u121 u122 u123 u124 u125 u126 u127 u128 u129 u130 u131 u132 u133 u134 u135 u136 u137 u138 u139 u140 u141 u142 u143 u144 u145 u146 u147 u148 u149 u150 u151 u152 u153 u154 u155 u156 : Value)
    (hr : ∀ (sv' : Value) (w' : World) (v5 v6 v7 v8 v82 v83 v84 v85 v86 v87 v88 v89 v90 v91 v92 v93 v94 v95 v96 v97 v98 v99 v100 v101 v102 v103 v104 v105 v106 v107 v108 v109 v110 v111 v112 v113 v114 v115 v116 v117 v118 v119 v120 v121 v122 v123 v124 v125 v126 v127 v128 v129 v130 v131 v132 v133 v134 v135 v136 v137 v138 : Value), SolE S w3 w' sv' (pre ++ blksE ws x.blocks) → rest.wp Tryd.prog Q ⟨#[u0, .pointer (some ⟨Z, 0, none⟩), u2, sv', .slice wa ws.length wc, v5, v6, v7, v8, u9, u10, u11, u12, u13, u14, u15, u16, u17, u18, u19, u20, u21, u22, u23, u24, u25, u26, u27, u28, u29, u30, u31, u32, u33, u34, u35, u36, u37, u38, u39, u40, u41, u42, u43, u44, u45, u46, u47, u48, u49, u50, u51, u52, u53, u54, u55, u56, u57, u58, u59, u60, u61, u62, u63, u64, u65, u66, u67, u68, u69, u70, u71, u72, u73, u74, u75, u76, u77, u78, u79, u80, u81, v82, v83, v84, v85, v86, v87, v88, v89, v90, v91, v92, v93, v94, v95, v96, v97, v98, v99, v100, v101, v102, v103, v104, v105, v106, v107, v108, v109, v110, v111, v112, v113, v114, v115, v116, v117, v118, v119, v120, v121, v122, v123, v124, v125, v126, v127, v128, v129, v130, v131, v132, v133, v134, v135, v136, v137, v138, u139, u140, u141, u142, u143, u144, u145, u146, u147, u148, u149, u150, u151, u152, u153, u154, u155, u156], []⟩ w') :
    (endWith 1 (dropSeq 6 reB) rest).wp Tryd.prog Q ⟨#[u0, .pointer (some ⟨Z, 0, none⟩), u2, sv, .slice wa ws.length wc, u5, u6, u7, u8, u9, u10, u11, u12, u13, u14, u15, u16, u17, u18, u19, u20, u21, u22, u23, u24, u25, u26, u27, u28, u29, u30, u31, u32, u33, u34, u35, u36, u37, u38, u39, u40, u41, u42, u43, u44, u45, u46, u47, u48, u49, u50, u51, u52, u53, u54, u55, u56, u57, u58, u59, u60, u61, u62, u63, u64, u65, u66, u67, u68, u69, u70, u71, u72, u73, u74, u75, u76, u77, u78, u79, u80, u81, u82, u83, u84, u85, u86, u87, u88, u89, u90, u91, u92, u93, u94, u95, u96, u97, u98, u99, u100, u101, u102, u103, u104, u105, u106, u107, u108, u109, u110, u111, u112, u113, u114, u115, u116, u117, u118, u119, u120, u121, u122, u123, u124, u125, u126, u127, u128, u129, u130, u131, u132, u133, u134, u135, u136, u137, u138, u139, u140, u141, u142, u143, u144, u145, u146, u147, u148, u149, u150, u151, u152, u153, u154, u155, u156], []⟩ w := by
  conv => arg 2; whnf; arg 2; whnf
  have HR := hid hr
  clear hr
  have L := hid LD
  have KP' := hid KP
  have WD' := hid WD
  have HS := hid hs
  have PL := hid hp
  have WC := hid hwc
  have FI := hid hf.i
  obtain ⟨vs, hv, hvl, hh⟩ := hB
  have HV := hid hv
  have HH := hid hh
  have VL := hid hvl
  obtain ⟨n, hn⟩ : ∃ n, n = x.blocks.length := ⟨_, rfl⟩
  obtain ⟨wn, hwn⟩ : ∃ n, n = ws.length := ⟨_, rfl⟩
  have HN := hid hn
  have HWN := hid hwn
  have EL := hid (fun i => blksE_len (x.blocks.take i) (ws.take i) (fun l hl => hf.i l (List.mem_of_mem_take hl)))
  obtain ⟨m, hm⟩ : ∃ m, m = min n wn := ⟨_, rfl⟩
  have MN := hid (show m = min x.blocks.length ws.length from by rw [← hn, ← hwn]; exact hm)
  have nb : (n : Int) ≤ 1000 := by have := hf.b; omega
  have mb1 : m ≤ n ∧ m ≤ wn ∧ (m = n ∨ m = wn) := by omega
  have wb : (wn : Int) ≤ 100 := by omega
  rw [← hwn] at HR WD' ⊢
  rw [← hn] at L HV
  clear hs LD hp hv hh hvl hf hwc KP WD hm hn hwn hwb
  go_wp2_with fail
  go_loopg [3, 5] m (fun g s t wr => ∃ i : Nat, i + g = m ∧ t = .int .i64 i ∧ SolE S w3 wr s (pre ++ blksE (ws.take i) (x.blocks.take i)))
  case atStart => exact ⟨0, by omega, rfl, by simpa [blksE] using HS.out⟩
  case round =>
    obtain ⟨i, hi, rfl, hX⟩ := hrel
    have X := hid hX
    clear hX
    obtain ⟨s, hs⟩ : ∃ s, s = u3 := ⟨_, rfl⟩
    rw [← hs] at X ⊢
    clear hs
    have c27 := (L.out wr X.out.only).cell (i := 27) (v := .slice ba n bc) rfl
    have i0 : (0 : Int) ≤ (i : Int) := by omega
    by_cases hg : gk = 0
    · have ie : i = m := by omega
      by_cases hin : (i : Int) < (n : Int)
      · have d2 : ¬ (i : Int) < (wn : Int) := by omega
        have d1 : decide ((i : Int) < (wn : Int)) = false := decide_eq_false d2
        have XF := hid (show SolE S w3 wr s (pre ++ blksE ws x.blocks) from by have := X.out; rw [ie] at this; rw [MN.out] at this; rw [blksE_min] at this; exact this)
        clear hi hg ie
        go_wp2_with fail
        exact HR.out _ _ _ _ _ _ _ _ _ _ _ _ _ _ _ _ _ _ _ _ _ _ _ _ _ _ _ _ _ _ _ _ _ _ _ _ _ _ _ _ _ _ _ _ _ _ _ _ _ _ _ _ _ _ _ _ _ _ _ _ _ _ _ XF.out

      · have d1 : decide ((i : Int) < (n : Int)) = false := decide_eq_false hin
        have XF := hid (show SolE S w3 wr s (pre ++ blksE ws x.blocks) from by have := X.out; rw [ie] at this; rw [MN.out] at this; rw [blksE_min] at this; exact this)
        clear hi hg ie
        go_wp2_with fail
        exact HR.out _ _ _ _ _ _ _ _ _ _ _ _ _ _ _ _ _ _ _ _ _ _ _ _ _ _ _ _ _ _ _ _ _ _ _ _ _ _ _ _ _ _ _ _ _ _ _ _ _ _ _ _ _ _ _ _ _ _ _ _ _ _ _ XF.out

    · obtain ⟨gg, rfl⟩ : ∃ gg, gk = gg + 1 := ⟨gk - 1, by omega⟩
      have IN := hid (show i + 1 + gg = m ∧ i < n ∧ i < wn by omega)
      have i1 : (i : Int) < (n : Int) := by omega
      have i2 : decide ((i : Int) < (wn : Int)) = true := decide_eq_true (by omega)
      have i3 : (i : Int) < (wn : Int) := by omega
      obtain ⟨c, hc⟩ : ∃ c, ws[i]? = some c := ⟨_, List.getElem?_eq_getElem (by have := HWN.out; omega)⟩
      obtain ⟨bl, hbl⟩ : ∃ c, x.blocks[i]? = some c := ⟨_, List.getElem?_eq_getElem (by have := HN.out; omega)⟩
      obtain ⟨u, hu⟩ : ∃ c, vs[i]? = some c := ⟨_, List.getElem?_eq_getElem (by have := HN.out; have := VL.out; omega)⟩
      obtain ⟨bb, bo, rfl, hcu⟩ := HV.out.at hu
      have hI := HH.out i u bl hu hbl
      obtain ⟨ua, uc, hus, _⟩ := id hI
      rw [hus] at hI
      have cu0 := hcu 0 u.sl rfl
      rw [Nat.mul_one, Nat.add_zero, hus] at cu0
      have CU := hid (fun w' o => KP'.out _ _ w' cu0 o)
      have HI := hid hI
      obtain ⟨wb', wo, rfl, hcw⟩ := (WD'.out wr X.out.only).at hc
      have cw := hcw 0 (.int .u8 c.1) rfl
      rw [Nat.add_zero] at cw
      have cu := CU.out wr X.out.only
      have C04 := WC.out c (List.mem_of_getElem? hc)
      have BT := hid (blksE_take hc hbl)
      have FL := hid (FI.out bl (List.mem_of_getElem? hbl))
      have PE := hid (show (pre ++ blksE (ws.take i) (x.blocks.take i)).length ≤ 510000 from by rw [List.length_append]; have := EL.out i; have := PL.out; have : (x.blocks.take i).length ≤ i := List.length_take_le _ _; omega)
      obtain ⟨q, hq⟩ : ∃ q, q = bl.length := ⟨_, rfl⟩
      have HQ := hid hq
      rw [← hq] at HI FL CU cu
      have qb : (q : Int) ≤ 500 := by have := FL.out; omega
      clear hi hg hbl hu hcu hI hus cu0 hcw hc hq mb1
      obtain ⟨pr, hpr⟩ : ∃ p, p = pre ++ blksE (ws.take i) (x.blocks.take i) := ⟨_, rfl⟩
      rw [← hpr] at X PE
      have PRE := hid hpr
      clear hpr
      go_wp2_with fail
      refine (rsize_any _ _ (by omega) (by omega)).mono ?_
      rintro e w5 ⟨rfl, o5⟩
      have X5 := hid (X.out.step o5)
      have c27 := (L.out w5 X5.out.only).cell (i := 27) (v := .slice (some ⟨bb, bo, none⟩) n bc) rfl
      have cu := CU.out w5 X5.out.only
      clear o5 cw
      go_wp2_with fail
      refine (absent_any _ _).mono ?_
      rintro e w4 ⟨rfl, rfl⟩
      obtain ⟨sv2, w2, hrun, hcol⟩ := SolE.one X5.out (absE ((q : Int) == (sizeI c.1).1)) (by have := PE.out; omega)
      have RUN := hid hrun
      have COL := hid hcol
      clear hrun hcol
      go_wp2_with (at_builtin; refine wp_append_eq (by kernel_rfl) (.tmp 104) (.tmp 114) _ _ rfl _ _ sv2 w2 rfl rfl RUN.out ?_; simp only [Act.put, List.setIfInBounds_toArray, List.set_cons_zero, List.set_cons_succ])
      go_loopg [3, 8] q (fun g s t w' => ∃ k : Nat, k + g = q ∧ t = .int .i64 k ∧ SolE S w3 w' s (pr ++ [absE ((q : Int) == (sizeI c.1).1)] ++ (bl.take k).map levE))
      case atStart => exact ⟨0, by omega, rfl, by simpa using COL.out⟩
      case round =>
        obtain ⟨k, hk, rfl, hY⟩ := hrel
        have Y := hid hY
        clear hY
        obtain ⟨s2, hs2⟩ : ∃ s, s = u3 := ⟨_, rfl⟩
        rw [← hs2] at Y ⊢
        clear hs2
        have c27 := (L.out wr Y.out.only).cell (i := 27) (v := .slice (some ⟨bb, bo, none⟩) n bc) rfl
        have cu := CU.out wr Y.out.only
        have k0 : (0 : Int) ≤ (k : Int) := by omega
        by_cases hg : gk = 0
        · have k1 : ¬ (k : Int) < (q : Int) := by omega
          have ke : k = q := by omega
          have YF := hid (show SolE S w3 wr s2 (pre ++ blksE (ws.take (i + 1)) (x.blocks.take (i + 1))) from by
            have := Y.out
            rw [ke, HQ.out, List.take_length] at this
            rw [BT.out, ← List.append_assoc, ← PRE.out]
            rw [List.append_assoc] at this
            exact this)
          clear hk hg ke
          go_wp2_with fail
          go_roundg gg
          case measure => omega
          case rel => exact ⟨i + 1, IN.out.1, by go_num, YF.out⟩
        · obtain ⟨g2, rfl⟩ : ∃ g2, gk = g2 + 1 := ⟨gk - 1, by omega⟩
          have KN := hid (show k + 1 + g2 = q by omega)
          have k1 : (k : Int) < (q : Int) := by omega
          obtain ⟨y, hy⟩ : ∃ y, bl[k]? = some y := ⟨_, List.getElem?_eq_getElem (by have := HQ.out; omega)⟩
          obtain ⟨b, o, rfl, hc⟩ := HI.out.at hy
          have cy := KP'.out _ _ wr hc Y.out.only
          have TM := hid (take_map levE hy)
          have LL := hid (show (pr ++ [absE ((q : Int) == (sizeI c.1).1)] ++ (bl.take k).map levE).length + 1 ≤ 1000000 by rw [List.length_append, List.length_append, List.length_map, List.length_take]; have := PE.out; simp; omega)
          clear hk hg hy hc
          go_wp2_with fail
          refine (rwithin13_any _ _ _ _).mono ?_
          rintro e w6 ⟨rfl, rfl⟩
          go_wp2_with fail
          refine (ranged_any _ _).mono ?_
          rintro e w7 ⟨rfl, rfl⟩
          obtain ⟨sv2, w2, hrun, hcol⟩ := SolE.one Y.out (levE y) LL.out
          have RUN := hid hrun
          have COL := hid hcol
          clear hrun hcol
          go_wp2_with (at_builtin; refine wp_append_eq (by kernel_rfl) (.tmp 126) (.tmp 137) _ _ rfl _ _ sv2 w2 rfl rfl RUN.out ?_; simp only [Act.put, List.setIfInBounds_toArray, List.set_cons_zero, List.set_cons_succ])
          go_roundg g2
          case measure => omega
          case rel => exact ⟨k + 1, KN.out, by go_num, by rw [TM.out, ← List.append_assoc]; exact COL.out⟩
end Go.Proofs.YtpmmnjeomdjakaaDoor

end

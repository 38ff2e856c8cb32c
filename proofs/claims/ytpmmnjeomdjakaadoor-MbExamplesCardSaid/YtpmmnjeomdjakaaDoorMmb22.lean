/- The reference's Block. -/
/- The program's Block lies in MqH. -/
/- MbBlocks: the beginning. -/
/- MbBlocks: the tests, the loop. -/
/- MbBlocks. -/
import Derived.Test.YtpmmnjeomdjakaaDoorMmb17
import Derived.Test.YtpmmnjeomdjakaaDoorMmb18
section
set_option maxRecDepth 20000
namespace Go.Proofs.YtpmmnjeomdjakaaDoor
open Go.RowKit
set_option linter.unusedVariables false
set_option linter.unusedSimpArgs false

theorem findB_hit : ∀ (l : List Cod) (bs : List (List Int)) (i : Nat) (c : Cod) (b : List Int), l[i]? = some c → bs[i]? = some b → findB (l.drop i) (bs.drop i) c = (b, true) := by
  intro l bs i c b h1 h2
  obtain ⟨p1, e1⟩ := List.getElem?_eq_some_iff.1 h1
  obtain ⟨p2, e2⟩ := List.getElem?_eq_some_iff.1 h2
  rw [List.drop_eq_getElem_cons p1, List.drop_eq_getElem_cons p2, e1, e2, findB, if_pos rfl]
theorem findB_miss : ∀ (l : List Cod) (bs : List (List Int)) (i : Nat) (c y : Cod), l[i]? = some y → (y = c → bs.length ≤ i) → findB (l.drop i) (bs.drop i) c = findB (l.drop (i + 1)) (bs.drop (i + 1)) c := by
  intro l bs i c y h1 h2
  obtain ⟨p1, e1⟩ := List.getElem?_eq_some_iff.1 h1
  by_cases hb : bs.length ≤ i
  · rw [List.drop_eq_nil_of_le hb, List.drop_eq_nil_of_le (by omega : bs.length ≤ i + 1), findB_none, findB_none]
  · rw [List.drop_eq_getElem_cons p1, List.drop_eq_getElem_cons (by omega : i < bs.length), e1, findB, if_neg (fun e => hb (h2 e))]
theorem findB_end (l : List Cod) (bs : List (List Int)) (i : Nat) (c : Cod) (h : l.length ≤ i) : findB (l.drop i) (bs.drop i) c = ([], false) := by
  rw [List.drop_eq_nil_of_le h]
  cases bs.drop i <;> rfl
set_option maxRecDepth 100000 in
set_option maxHeartbeats 4000000 in
theorem rblock_any (x : MV) (rv vv bv : Value) (c : Cod) (w : World) (hx : MIn x) (hm : MAt w x rv vv bv) (l3 : x.blocks.length ≤ 1000000) (l4 : ∀ l, l ∈ x.blocks → l.length ≤ 17592186043904) :
    Calls Tryd.prog 60 #[mV x rv vv bv, cdV c] w fun e w' => ∃ sv, e = .returned (.tuple #[sv, .bool (findB (whichL x) x.blocks c).2]) ∧ RowI w' sv (findB (whichL x) x.blocks c).1 ∧ (∀ g, g ∈ ownI sv → w.heap.size ≤ g) ∧ Only [] w w' := by
  obtain ⟨W, hW⟩ : ∃ W, W = (w.alloc (.cells (mC x rv vv bv).toArray 28)).alloc (.cells (cdC c).toArray 40) := ⟨_, rfl⟩
  have oW : Only [] w W := hW ▸ (((Only.refl [] w).alloc _).alloc _)
  have bX : Blk W w.heap.size 28 (mC x rv vv bv).toArray := hW ▸ ((Blk.new w _ _).only ((Only.refl [] _).alloc _) (by simp))
  have bR : Blk W (w.heap.size + 1) 40 (cdC c).toArray := by
    have := Blk.new (w.alloc (.cells (mC x rv vv bv).toArray 28)) 40 (cdC c).toArray
    rw [World.size_alloc] at this
    exact hW ▸ this
  have OW := hid oW
  have BX := hid bX
  have BR := hid bR
  have C := hid (rblocks_any x rv vv bv W hx)
  have HM := hid (hm.only0 oW)
  have L4 := hid l4
  obtain ⟨p, hp⟩ : ∃ p, p = w.heap.size := ⟨_, rfl⟩
  rw [← hp] at BX BR
  have WL := hid (show (whichL x).length ≤ 27 from blocksL_len _ _)
  have HW := hid hW
  clear hW hm l4 oW bX bR hx
  obtain ⟨L, hL⟩ : ∃ L, L = whichL x := ⟨_, rfl⟩
  rw [← hL] at C WL ⊢
  clear hL
  obtain ⟨us, hu, hul, hh⟩ := HM.out.3
  have HU := hid hu
  have HH := hid hh
  obtain ⟨bn, hbn⟩ : ∃ bn, bn = us.length := ⟨_, rfl⟩
  have BN := hid (show bn = us.length ∧ bn = x.blocks.length from ⟨hbn, hbn.trans hul⟩)
  obtain ⟨ba, bc, rfl, _⟩ := id hu
  rw [← hbn] at BX HU C HW
  have nb : (bn : Int) ≤ 1000000 := by omega
  clear hu hul hh HM hbn l3
  obtain ⟨r, hr⟩ : ∃ r, r = findB L x.blocks c := ⟨_, rfl⟩
  rw [← hr]
  have R := hid hr
  clear hr
  unfold mV cdV
  rw [show us.length = bn from BN.out.1.symm]
  go_enter Tryd.func60, Tryd.ntmps60
  go_upto_region 1 with (fail)
  generalize hw : (w.alloc _).alloc _ = W'
  obtain rfl : W = W' := HW.out.trans hw
  rw [← hp]
  clear hw HW hp
  go_wp2_with (refine load_atA rfl 28 _ rfl ⟨p, 0, none⟩ (mC x rv vv (.slice ba bn bc)) rfl BX.out.mb ?_; simp only [Act.put, List.setIfInBounds_toArray, List.set_cons_zero, List.set_cons_succ])
  refine C.out.mono ?_
  rintro e w2 ⟨sv, rfl, c2⟩
  have C2 := hid c2
  obtain ⟨la, lc, rfl, _⟩ := id (c2.row.holds cdC_ok)
  have HL := hid (c2.row.holds cdC_ok)
  obtain ⟨n, hn⟩ : ∃ n, n = L.length := ⟨_, rfl⟩
  have HN := hid hn
  rw [← hn] at HL WL ⊢
  have nn : (n : Int) ≤ 27 := by have := WL.out; omega
  clear c2 hn
  go_wp2_with fail
  go_loopg [7] n (fun g t wr => ∃ i : Nat, i + g = n ∧ t = .int .i64 i ∧ findB (L.drop i) (x.blocks.drop i) c = r ∧ Only [] w2 wr)
  case atStart => exact ⟨0, by omega, rfl, R.out.symm, Only.refl _ _⟩
  case round =>
    obtain ⟨i, hi, rfl, hr, hO⟩ := hrel
    have RI := hid hr
    have O := hid hO
    clear hr hO
    have i0 : (0 : Int) ≤ (i : Int) := by omega
    by_cases hg : gk = 0
    · have i1 : ¬ (i : Int) < (n : Int) := by omega
      have E := RI.out
      rw [findB_end L x.blocks i c (by have := HN.out; omega)] at E
      subst E
      clear hi hg RI
      go_wp2_with fail
      go_ret2
      exact ⟨_, rfl, RowI.nil _, by simp [ownI, Value.ownBlock], OW.out.trans (C2.out.only.trans O.out)⟩
    · obtain ⟨gg, rfl⟩ : ∃ gg, gk = gg + 1 := ⟨gk - 1, by omega⟩
      have IN := hid (show i + 1 + gg = n by omega)
      have i1 : (i : Int) < (n : Int) := by omega
      obtain ⟨y, hy⟩ : ∃ y, L[i]? = some y := ⟨_, List.getElem?_eq_getElem (by have := HN.out; omega)⟩
      obtain ⟨yb, yo, rfl, hc⟩ := HL.out.at hy
      have HY := hid hy
      have y0 := O.out.cell (hc 0 (.int .u8 y.1) rfl) (by simp)
      have y1 := O.out.cell (hc 1 (.int .u8 y.2.1) rfl) (by simp)
      have y2 := O.out.cell (hc 2 (.int .i64 y.2.2) rfl) (by simp)
      rw [Nat.add_zero] at y0
      have BR' := BR.out.only (C2.out.only.trans O.out) (by simp)
      have BX' := BX.out.only (C2.out.only.trans O.out) (by simp)
      have c0 := BR'.cell (i := 0) (v := .int .u8 c.1) rfl
      have c1 := BR'.cell (i := 1) (v := .int .u8 c.2.1) rfl
      have c2 := BR'.cell (i := 2) (v := .int .i64 c.2.2) rfl
      have xb := BX'.cell (i := 27) (v := .slice ba bn bc) rfl
      clear BR' BX'
      have EQ := eql_cod y c
      clear hi hg hy hc
      by_cases e : y = c
      · rw [decide_eq_true e] at EQ
        have EE := hid e
        clear e
        by_cases hb : (i : Int) < (bn : Int)
        · obtain ⟨u, hu⟩ : ∃ u, us[i]? = some u := ⟨_, List.getElem?_eq_getElem (by have := BN.out; omega)⟩
          obtain ⟨b, hbk⟩ : ∃ b, x.blocks[i]? = some b := ⟨_, List.getElem?_eq_getElem (by have := BN.out; omega)⟩
          have E := RI.out
          rw [findB_hit L x.blocks i c b (EE.out ▸ HY.out) hbk] at E
          subst E
          obtain ⟨ub, uo, rfl, hcu⟩ := HU.out.at hu
          have cu := (C2.out.only.trans O.out).cell (hcu 0 u.sl rfl) (by simp)
          rw [Nat.mul_one, Nat.add_zero] at cu
          have CP := hid (fun w' (o : Only [] wr w') => copyintsW_any u.sl b w' ((HH.out i u b hu hbk).only0 ((C2.out.only.trans O.out).trans o)) (L4.out b (List.mem_of_getElem? hbk)))
          clear hu hcu hbk RI
          go_wp2_with fail
          go_quiet (fail)
          go_wp2_with fail
          refine (CP.out _ ((Only.refl [] _).drewN _)).mono ?_
          rintro e w3 ⟨ns, rfl, row, nw, o3⟩
          have ROW := hid row
          have NW := hid nw
          have O3 := hid o3
          clear row nw o3
          go_wp2_with fail
          go_ret2
          exact ⟨_, rfl, ROW.out, fun g hg => Nat.le_trans (OW.out.trans (C2.out.only.trans O.out)).size (NW.out g hg), (OW.out.trans (C2.out.only.trans O.out)).trans (((Only.refl [] _).drewN _).trans O3.out)⟩
        · have NX := hid (show findB (L.drop (i + 1)) (x.blocks.drop (i + 1)) c = r from by rw [← findB_miss L x.blocks i c y HY.out (fun _ => by have := BN.out; omega)]; exact RI.out)
          go_wp2_with fail
          go_quiet (fail)
          go_wp2_with fail
          go_roundg gg
          case measure => omega
          case rel => exact ⟨i + 1, IN.out, by go_num, NX.out, O.out.drewN _⟩
      · have NX := hid (show findB (L.drop (i + 1)) (x.blocks.drop (i + 1)) c = r from by rw [← findB_miss L x.blocks i c y HY.out (fun h => absurd h e)]; exact RI.out)
        rw [decide_eq_false e] at EQ
        clear e
        go_wp2_with fail
        go_quiet (fail)
        go_wp2_with fail
        go_roundg gg
        case measure => omega
        case rel => exact ⟨i + 1, IN.out, by go_num, NX.out, O.out.drewN _⟩
end Go.Proofs.YtpmmnjeomdjakaaDoor

end
section
set_option maxRecDepth 20000

end
section
set_option maxRecDepth 20000
namespace Go.Proofs.YtpmmnjeomdjakaaDoor
open Go.RowKit
set_option linter.unusedVariables false
set_option linter.unusedSimpArgs false

noncomputable def mbB : Code := Tryd.f18.body.getD .skip
set_option maxRecDepth 1000000 in
set_option maxHeartbeats 8000000 in
theorem bk_begin (rest : Code) (Q : Exit → Act → World → Prop)  (x : MV) (rv vv bv : Value) (c : Cod) (cat : Int) (w : World) (hV : MbV w) (hx : MIn x) (hm : MAt w x rv vv bv) (l4 : ∀ l, l ∈ x.blocks → l.length ≤ 17592186043904) (lp : x.pcm.size ≤ maxLen) (c0 : 0 ≤ cat) (c1 : cat ≤ 255) (u3 u4 u5 u6 u7 u8 u9 u10 u11 u12 u13 u14 u15 u16 u17 u18 u19 u20 u21 u22 u23 u24 u25 u26 u27 u28 u29 u30 u31 u32 u33 u34 u35 u36 u37 u38 u39 u40 u41 u42 u43 u44 u45 u46 u47 u48 u49 u50 u51 u52 u53 u54 u55 u56 u57 u58 u59 u60 u61 u62 u63 u64 u65 u66 u67 u68 u69 u70 u71 u72 u73 u74 u75 u76 u77 u78 u79 u80 u81 u82 u83 u84 u85 u86 u87 u88 u89 u90 u91 u92 u93 u94 u95 u96 u97 u98 u99 u100 u101 u102 u103 u104 u105 u106 : Value)
    (hr : ∀ (w' : World) (p pa : Nat) (ra va ba rb vb bb lv wv : Value) (v5 v6 v21 v22 v23 v24 v25 v26 v27 v28 v29 v30 v31 v32 v33 v34 v35 v36 v37 v38 : Value), Only [] w w' → Blk w' p 28 (mC (fewM x) ra va ba).toArray → Blk w' (p + 1) 40 (cdC c).toArray → Blk w' pa 28 (mC (fewM x) rb vb bb).toArray → MAt w' (fewM x) ra va ba → MAt w' (fewM x) rb vb bb → HoldsG cdC 3 w' lv (whichL (fewM x)) → HoldsG cdC 3 w' wv (whichL (fewM x)) → rest.wp Tryd.prog Q ⟨#[mV x rv vv bv, cdV c, .int .u8 cat, .pointer (some ⟨p, 0, none⟩), .pointer (some ⟨p + 1, 0, none⟩), v5, v6, .pointer (some ⟨pa, 0, none⟩), lv, wv, .int .i64 (sizeI cat).1, .int .i64 (sizeI cat).2, .int .i64 (sizeI cat).1, .int .i64 (sizeI cat).2, u14, u15, u16, u17, u18, u19, u20, v21, v22, v23, v24, v25, v26, v27, v28, v29, v30, v31, v32, v33, v34, v35, v36, v37, v38, u39, u40, u41, u42, u43, u44, u45, u46, u47, u48, u49, u50, u51, u52, u53, u54, u55, u56, u57, u58, u59, u60, u61, u62, u63, u64, u65, u66, u67, u68, u69, u70, u71, u72, u73, u74, u75, u76, u77, u78, u79, u80, u81, u82, u83, u84, u85, u86, u87, u88, u89, u90, u91, u92, u93, u94, u95, u96, u97, u98, u99, u100, u101, u102, u103, u104, u105, u106], []⟩ w') :
    (endWith 7 mbB rest).wp Tryd.prog Q ⟨#[mV x rv vv bv, cdV c, .int .u8 cat, u3, u4, u5, u6, u7, u8, u9, u10, u11, u12, u13, u14, u15, u16, u17, u18, u19, u20, u21, u22, u23, u24, u25, u26, u27, u28, u29, u30, u31, u32, u33, u34, u35, u36, u37, u38, u39, u40, u41, u42, u43, u44, u45, u46, u47, u48, u49, u50, u51, u52, u53, u54, u55, u56, u57, u58, u59, u60, u61, u62, u63, u64, u65, u66, u67, u68, u69, u70, u71, u72, u73, u74, u75, u76, u77, u78, u79, u80, u81, u82, u83, u84, u85, u86, u87, u88, u89, u90, u91, u92, u93, u94, u95, u96, u97, u98, u99, u100, u101, u102, u103, u104, u105, u106], []⟩ w := by
  conv => arg 2; whnf; arg 2; whnf; arg 2; whnf; arg 2; whnf; arg 2; whnf; arg 2; whnf; arg 2; whnf; arg 2; whnf
  have HR := hid hr
  clear hr
  obtain ⟨W1, hW1⟩ : ∃ W, W = w.alloc (.cells (mC x rv vv bv).toArray 28) := ⟨_, rfl⟩
  obtain ⟨W, hW⟩ : ∃ W, W = W1.alloc (.cells (cdC c).toArray 40) := ⟨_, rfl⟩
  obtain ⟨p, hp⟩ : ∃ X, X = w.heap.size := ⟨_, rfl⟩
  have hp1 : p + 1 = W1.heap.size := by rw [hW1, hp]; exact (World.size_alloc _ _).symm
  have o1 : Only [] w W1 := hW1 ▸ ((Only.refl [] w).alloc _)
  have o2 : Only [] W1 W := hW ▸ ((Only.refl [] W1).alloc _)
  have BX := hid (show Blk W p 28 (mC x rv vv bv).toArray from by
    have := Blk.new w 28 (mC x rv vv bv).toArray
    rw [← hW1, ← hp] at this
    exact this.only o2 (by simp))
  have BC := hid (show Blk W (p + 1) 40 (cdC c).toArray from by
    have := Blk.new W1 40 (cdC c).toArray
    rwa [← hW, ← hp1] at this)
  have oW := hid (show Only [] w W ∧ p + 1 < W.heap.size ∧ w.heap.size ≤ p from ⟨o1.trans o2, BC.out.lt, by omega⟩)
  have FW := hid (few13_any x rv vv bv W (hm.only0 oW.out.1) l4 lp)
  have V := hid (fun w' (o : Only [] w w') => hV.only0 o)
  have yi := fewM_in hx
  have yf := fewM_few x
  obtain ⟨y, hy⟩ : ∃ y, y = fewM x := ⟨_, rfl⟩
  rw [← hy] at FW yi yf HR
  have YI := hid yi
  have YF := hid yf
  have HW1 := hid hW1
  have HW := hid hW
  have HP := hid hp
  have HP1 := hid hp1
  have CAT := hid (show 0 ≤ cat ∧ cat ≤ 255 from ⟨c0, c1⟩)
  clear hW1 hW hm l4 lp hV hx hy hp hp1 yi yf o1 o2 c0 c1
  unfold mV cdV at HR ⊢
  go_wp2_with (first
    | (refine wp_box rfl 28 (.tmp 0) rfl (mC x rv vv bv).toArray rfl HW1.out HP.out ?_; simp only [Act.put, List.setIfInBounds_toArray, List.set_cons_zero, List.set_cons_succ])
    | (refine wp_box rfl 40 (.tmp 1) rfl (cdC c).toArray rfl HW.out HP1.out ?_; simp only [Act.put, List.setIfInBounds_toArray, List.set_cons_zero, List.set_cons_succ])
    | (refine load_atA rfl 28 (.tmp 3) rfl ⟨p, 0, none⟩ (mC x rv vv bv) rfl BX.out.mb ?_; simp only [Act.put, List.setIfInBounds_toArray, List.set_cons_zero, List.set_cons_succ]))
  refine FW.out.mono ?_
  rintro e w3 ⟨ra, va, ba, rfl, ha, o3⟩
  have b3 := BX.out.only o3 (by simp)
  have c3 := BC.out.only o3 (by simp)
  have O3 := hid (oW.out.1.trans o3)
  have HA' := hid ha
  have one3 := (ha [] w3 (Only.refl _ _) (by simp)).one
  unfold mV
  go_upto_region 2 with (refine store_blk rfl 28 (.tmp 3) (.tmp 22) rfl p 0 _ _ (mC y ra va ba) rfl rfl (info_mb' _ _ _ _) b3 (by simp [mC]) (one_mC y one3.1 one3.2.1 one3.2.2) ?_; intro w4 hB4 hO4)
  rw [setsA_full (by simp [mC])] at hB4
  have P4 := hid (fun w' (o : Only [] w4 w') => hB4.only o (by simp))
  have C4' := hid (fun w' (o : Only [] w4 w') => (c3.only hO4 (by simp)).only o (by simp))
  have S4 := hid (show Only [] w w4 from O3.out.trans2 hO4 (fun g hg => .inr (by have := oW.out.2.2; simp at hg; omega)))
  have M4 := hid (show ∀ w', Only [] w4 w' → MAt w' y ra va ba from fun w' o => HA'.out [p] w' (hO4.trans (o.mono (fun _ _ h => by cases h))) (fun g hg => by have := oW.out.2.1; simp at hg; omega))
  have C4 := hid (copymb_any y ra va ba w4 (M4.out w4 (Only.refl _ _)) (by have := YF.out.r; omega) (by have := YF.out.v; omega) (by have := YF.out.b; omega) (fun l hl => by have := YF.out.i l hl; omega))
  clear hB4 hO4 b3 c3 o3 ha one3
  go_wp2_with (refine load_atA rfl 28 (.tmp 3) rfl ⟨p, 0, none⟩ (mC y ra va ba) rfl (P4.out _ (Only.refl _ _)).mb ?_; simp only [Act.put, List.setIfInBounds_toArray, List.set_cons_zero, List.set_cons_succ])
  refine C4.out.mono ?_
  rintro e w5 ⟨rb, vb, bb, rfl, ho⟩
  have one5 := ho.at.one
  have HO := hid ho
  clear ho
  unfold mV
  go_upto_region 3 with (refine store_blk rfl 28 (.tmp 7) (.tmp 24) rfl w5.heap.size 0 _ _ (mC y rb vb bb) rfl rfl (info_mb' _ _ _ _) (Blk.new w5 _ _) (by simp [mC]) (one_mC y one5.1 one5.2.1 one5.2.2) ?_; intro w6 hB6 hO6)
  rw [setsA_full (by simp [mC])] at hB6
  have o6 : Only [] w5 w6 := ((Only.refl [] w5).alloc _).trans2 hO6 (fun g hg => .inr (by simp at hg; omega))
  obtain ⟨pa, hpa⟩ : ∃ q, q = w5.heap.size := ⟨_, rfl⟩
  rw [← hpa] at hB6 ⊢
  have T6 := hid (show Only [] w4 w6 from HO.out.only.trans o6)
  have P6 := hid (fun w' (o : Only [] w6 w') => hB6.only o (by simp))
  have M6 := hid (show ∀ w', Only [] w6 w' → MAt w' y rb vb bb from fun w' o => HO.out.at.only0 (o6.trans o))
  have B6 := hid (blocks13_any y rb vb bb w6 (V.out w6 (S4.out.trans T6.out)) YI.out)
  clear hB6 hO6 o6 hpa one5 HO
  go_wp2_with (refine load_atA rfl 28 (.tmp 7) rfl ⟨pa, 0, none⟩ (mC y rb vb bb) rfl (P6.out _ (Only.refl _ _)).mb ?_; simp only [Act.put, List.setIfInBounds_toArray, List.set_cons_zero, List.set_cons_succ])
  refine B6.out.mono ?_
  rintro e w7 ⟨lv, rfl, c7⟩
  have C7 := hid c7
  have B7 := hid (rblocks_any y ra va ba w7 YI.out)
  clear c7
  go_wp2_with (refine load_atA rfl 28 (.tmp 3) rfl ⟨p, 0, none⟩ (mC y ra va ba) rfl (P4.out _ (T6.out.trans C7.out.only)).mb ?_; simp only [Act.put, List.setIfInBounds_toArray, List.set_cons_zero, List.set_cons_succ])
  refine B7.out.mono ?_
  rintro e w8 ⟨wv, rfl, c8⟩
  have C8 := hid c8
  have K8 := hid (size13_any cat w8 (V.out w8 (S4.out.trans (T6.out.trans (C7.out.only.trans c8.only)))) CAT.out.1 CAT.out.2)
  have R8 := hid (fun w => rsize_any cat w CAT.out.1 CAT.out.2)
  obtain ⟨s, hs⟩ : ∃ s, s = sizeI cat := ⟨_, rfl⟩
  rw [← hs] at K8 R8 HR
  clear c8 hs
  go_wp2_with fail
  refine K8.out.mono ?_
  rintro e w9 ⟨rfl, o9⟩
  have O9 := hid o9
  clear o9
  go_wp2_with fail
  refine (R8.out w9).mono ?_
  rintro e w10 ⟨rfl, o10⟩
  have O10 := hid (O9.out.trans o10)
  clear o10
  go_wp2_with fail
  have A := hid (show Only [] w6 w10 from C7.out.only.trans (C8.out.only.trans O10.out))
  exact HR.out w10 p pa ra va ba rb vb bb lv wv _ _ _ _ _ _ _ _ _ _ _ _ _ _ _ _ _ _ _ _ (S4.out.trans (T6.out.trans A.out)) (P4.out _ (T6.out.trans A.out)) (C4'.out _ (T6.out.trans A.out)) (P6.out _ A.out) (M4.out _ (T6.out.trans A.out)) (M6.out _ A.out) ((C7.out.row.only (C8.out.only.trans O10.out) (by simp)).holds cdC_ok) ((C8.out.row.only O10.out (by simp)).holds cdC_ok)
end Go.Proofs.YtpmmnjeomdjakaaDoor

end
section
set_option maxRecDepth 20000
namespace Go.Proofs.YtpmmnjeomdjakaaDoor
open Go.RowKit
set_option linter.unusedVariables false
set_option linter.unusedSimpArgs false

set_option maxRecDepth 1000000 in
set_option maxHeartbeats 8000000 in
theorem bk_eq (rest : Code) (Q : Exit → Act → World → Prop)  (L : List Cod) (lv wv : Value) (s1 s2 : Int) (w : World) (hl : HoldsG cdC 3 w lv L) (hw : HoldsG cdC 3 w wv L) (h27 : L.length ≤ 27) (u0 u1 u2 u3 u4 u5 u6 u7 u14 u15 u16 u17 u18 u19 u20 u21 u22 u23 u24 u25 u26 u27 u28 u29 u30 u31 u32 u33 u34 u35 u36 u37 u38 u39 u40 u41 u42 u43 u44 u45 u46 u47 u48 u49 u50 u51 u52 u53 u54 u55 u56 u57 u58 u59 u60 u61 u62 u63 u64 u65 u66 u67 u68 u69 u70 u71 u72 u73 u74 u75 u76 u77 u78 u79 u80 u81 u82 u83 u84 u85 u86 u87 u88 u89 u90 u91 u92 u93 u94 u95 u96 u97 u98 u99 u100 u101 u102 u103 u104 u105 u106 : Value)
    (hr : ∀ (w' : World) (v39 v40 v41 v42 v43 v44 v45 v46 v47 v48 v49 v50 v51 v52 : Value), Only [] w w' → rest.wp Tryd.prog Q ⟨#[u0, u1, u2, u3, u4, u5, u6, u7, lv, wv, .int .i64 s1, .int .i64 s2, .int .i64 s1, .int .i64 s2, u14, u15, u16, u17, u18, u19, u20, u21, u22, u23, u24, u25, u26, u27, u28, u29, u30, u31, u32, u33, u34, u35, u36, u37, u38, v39, v40, v41, v42, v43, v44, v45, v46, v47, v48, v49, v50, v51, v52, u53, u54, u55, u56, u57, u58, u59, u60, u61, u62, u63, u64, u65, u66, u67, u68, u69, u70, u71, u72, u73, u74, u75, u76, u77, u78, u79, u80, u81, u82, u83, u84, u85, u86, u87, u88, u89, u90, u91, u92, u93, u94, u95, u96, u97, u98, u99, u100, u101, u102, u103, u104, u105, u106], []⟩ w') :
    (endWith 1 (dropSeq 7 mbB) rest).wp Tryd.prog Q ⟨#[u0, u1, u2, u3, u4, u5, u6, u7, lv, wv, .int .i64 s1, .int .i64 s2, .int .i64 s1, .int .i64 s2, u14, u15, u16, u17, u18, u19, u20, u21, u22, u23, u24, u25, u26, u27, u28, u29, u30, u31, u32, u33, u34, u35, u36, u37, u38, u39, u40, u41, u42, u43, u44, u45, u46, u47, u48, u49, u50, u51, u52, u53, u54, u55, u56, u57, u58, u59, u60, u61, u62, u63, u64, u65, u66, u67, u68, u69, u70, u71, u72, u73, u74, u75, u76, u77, u78, u79, u80, u81, u82, u83, u84, u85, u86, u87, u88, u89, u90, u91, u92, u93, u94, u95, u96, u97, u98, u99, u100, u101, u102, u103, u104, u105, u106], []⟩ w := by
  conv => arg 2; whnf; arg 2; whnf
  have HR := hid hr
  clear hr
  have E := hid (eqcd_any lv wv L L w hl hw (by omega) (by omega))
  rw [decide_eq_true rfl] at E
  clear hl hw h27
  go_wp2_with fail
  refine E.out.mono ?_
  rintro e w2 ⟨rfl, o2⟩
  have O2 := hid o2
  clear o2
  go_wp2_with fail
  exact HR.out _ _ _ _ _ _ _ _ _ _ _ _ _ _ _ O2.out
theorem findB_len : ∀ (l : List Cod) (bs : List (List Int)) (z : Cod), (∀ b, b ∈ bs → b.length ≤ 500) → (findB l bs z).1.length ≤ 1000
  | x :: l, b :: bs, z, h => by
    rw [findB]
    split
    · have := h b (List.mem_cons_self ..)
      show b.length ≤ 1000
      omega
    · exact findB_len l bs z (fun b hb => h b (List.mem_cons_of_mem _ hb))
  | [], bs, z, h => by cases bs <;> simp [findB]
  | _ :: _, [], z, h => by simp [findB]
set_option maxRecDepth 1000000 in
set_option maxHeartbeats 8000000 in
theorem bk_loop (rest : Code) (Q : Exit → Act → World → Prop)  (y : MV) (c : Cod) (p pa n : Nat) (wa : Option Addr) (wc : Nat) (ra va ba rb vb bb : Value) (w : World) (hV : MbV w) (yi : MIn y) (yf : MFew y) (bM : Blk w p 28 (mC y ra va ba).toArray) (bC : Blk w (p + 1) 40 (cdC c).toArray) (bA : Blk w pa 28 (mC y rb vb bb).toArray) (mM : MAt w y ra va ba) (mA : MAt w y rb vb bb) (hn : n = (whichL y).length) (hw : HoldsG cdC 3 w (.slice wa n wc) (whichL y)) (u0 u1 u2 u5 u6 u8 u10 u11 u12 u13 u14 u15 u16 u17 u18 u19 u20 u21 u22 u23 u24 u25 u26 u27 u28 u29 u30 u31 u32 u33 u34 u35 u36 u37 u38 u39 u40 u41 u42 u43 u44 u45 u46 u47 u48 u49 u50 u51 u52 u53 u54 u55 u56 u57 u58 u59 u60 u61 u62 u63 u64 u65 u66 u67 u68 u69 u70 u71 u72 u73 u74 u75 u76 u77 u78 u79 u80 u81 u82 u83 u84 u85 u86 u87 u88 u89 u90 u91 u92 u93 u94 u95 u96 u97 u98 u99 u100 u101 u102 u103 u104 u105 u106 : Value)
    (hr : ∀ (w' : World) (v6 v14 v15 v16 v17 v18 v19 v20 v53 v54 v55 v56 v57 v58 v59 v60 v61 v62 v63 v64 v65 v66 v67 v68 v69 v70 v71 v72 v73 v74 v75 v76 v77 v78 v79 v80 v81 v82 v83 v84 v85 v86 v87 v88 v89 v90 v91 v92 v93 v94 v95 v96 v97 v98 v99 v100 v101 v102 : Value), Only [] w w' → rest.wp Tryd.prog Q ⟨#[u0, u1, u2, .pointer (some ⟨p, 0, none⟩), .pointer (some ⟨p + 1, 0, none⟩), u5, v6, .pointer (some ⟨pa, 0, none⟩), u8, .slice wa n wc, u10, u11, u12, u13, v14, v15, v16, v17, v18, v19, v20, u21, u22, u23, u24, u25, u26, u27, u28, u29, u30, u31, u32, u33, u34, u35, u36, u37, u38, u39, u40, u41, u42, u43, u44, u45, u46, u47, u48, u49, u50, u51, u52, v53, v54, v55, v56, v57, v58, v59, v60, v61, v62, v63, v64, v65, v66, v67, v68, v69, v70, v71, v72, v73, v74, v75, v76, v77, v78, v79, v80, v81, v82, v83, v84, v85, v86, v87, v88, v89, v90, v91, v92, v93, v94, v95, v96, v97, v98, v99, v100, v101, v102, u103, u104, u105, u106], []⟩ w') :
    (endWith 1 (dropSeq 8 mbB) rest).wp Tryd.prog Q ⟨#[u0, u1, u2, .pointer (some ⟨p, 0, none⟩), .pointer (some ⟨p + 1, 0, none⟩), u5, u6, .pointer (some ⟨pa, 0, none⟩), u8, .slice wa n wc, u10, u11, u12, u13, u14, u15, u16, u17, u18, u19, u20, u21, u22, u23, u24, u25, u26, u27, u28, u29, u30, u31, u32, u33, u34, u35, u36, u37, u38, u39, u40, u41, u42, u43, u44, u45, u46, u47, u48, u49, u50, u51, u52, u53, u54, u55, u56, u57, u58, u59, u60, u61, u62, u63, u64, u65, u66, u67, u68, u69, u70, u71, u72, u73, u74, u75, u76, u77, u78, u79, u80, u81, u82, u83, u84, u85, u86, u87, u88, u89, u90, u91, u92, u93, u94, u95, u96, u97, u98, u99, u100, u101, u102, u103, u104, u105, u106], []⟩ w := by
  conv => arg 2; whnf; arg 2; whnf
  have HR := hid hr
  clear hr
  have PM := hid (fun w' (o : Only [] w w') => bM.only o (by simp))
  have PC := hid (fun w' (o : Only [] w w') => bC.only o (by simp))
  have PA := hid (fun w' (o : Only [] w w') => bA.only o (by simp))
  have BK := hid (fun (z : Cod) w' (o : Only [] w w') => block13_any y rb vb bb z w' (hV.only0 o) yi (mA.only0 o) (by have := yf.b; omega) (fun l hl => by have := yf.i l hl; omega))
  have RK := hid (fun (z : Cod) w' (o : Only [] w w') => rblock_any y ra va ba z w' yi (mM.only0 o) (by have := yf.b; omega) (fun l hl => by have := yf.i l hl; omega))
  have FL := hid (fun (z : Cod) => findB_len (whichL y) y.blocks z yf.i)
  have HWV := hid hw
  have HN := hid hn
  have nn : (n : Int) ≤ 27 := by have := blocksL_len y.kind.toNat y.cbp.toNat; unfold whichL at hn; omega
  clear bM bC bA mM mA yi yf hV hw hn
  go_wp2_with fail
  go_loopg [14] (n + 1) (fun g t wr => ∃ i : Nat, i + g = n + 1 ∧ t = .int .i64 i ∧ Only [] w wr)
  case atStart => exact ⟨0, by omega, rfl, Only.refl _ _⟩
  case round =>
    obtain ⟨i, hi, rfl, hO⟩ := hrel
    have O := hid hO
    have i0 : (0 : Int) ≤ (i : Int) := by omega
    clear hO
    by_cases hg : gk = 0
    · have i1 : ¬ (i : Int) ≤ (n : Int) := by omega
      clear hi hg
      go_wp2_with fail
      exact HR.out _ _ _ _ _ _ _ _ _ _ _ _ _ _ _ _ _ _ _ _ _ _ _ _ _ _ _ _ _ _ _ _ _ _ _ _ _ _ _ _ _ _ _ _ _ _ _ _ _ _ _ _ _ _ _ _ _ _ _ O.out
    · obtain ⟨gg, rfl⟩ : ∃ gg, gk = gg + 1 := ⟨gk - 1, by omega⟩
      have IN := hid (show i + 1 + gg = n + 1 by omega)
      have i1 : (i : Int) ≤ (n : Int) := by omega
      have cc0 := (PC.out _ O.out).cell (i := 0) (v := .int .u8 c.1) rfl
      have cc1 := (PC.out _ O.out).cell (i := 1) (v := .int .u8 c.2.1) rfl
      have cc2 := (PC.out _ O.out).cell (i := 2) (v := .int .i64 c.2.2) rfl
      clear hi hg
      go_upto_region 13 with fail
      generalize hwq : wr.alloc _ = wq
      have hBq : Blk wq wr.heap.size 40 (cdC c).toArray := hwq ▸ Blk.new wr _ _
      have oq : Only [] wr wq := hwq ▸ ((Only.refl [] wr).alloc _)
      obtain ⟨q, hq⟩ : ∃ q, q = wr.heap.size := ⟨_, rfl⟩
      have GQ := hid (show w.heap.size ≤ q from hq ▸ O.out.size)
      rw [← hq] at hBq ⊢
      have BQ := hid hBq
      have OQ := hid (O.out.trans oq)
      clear hBq hwq oq hq cc0 cc1 cc2
      by_cases i2 : (i : Int) < (n : Int)
      · obtain ⟨z, hz⟩ : ∃ z, (whichL y)[i]? = some z := ⟨_, List.getElem?_eq_getElem (by have := HN.out; omega)⟩
        obtain ⟨yb, yo, rfl, hc⟩ := HWV.out.at hz
        have y0 := OQ.out.cell (hc 0 (.int .u8 z.1) rfl) (by simp)
        have y1 := OQ.out.cell (hc 1 (.int .u8 z.2.1) rfl) (by simp)
        have y2 := OQ.out.cell (hc 2 (.int .i64 z.2.2) rfl) (by simp)
        rw [Nat.add_zero] at y0
        clear hz hc
        go_upto_region 15 with (refine store_blk rfl 40 (.tmp 15) (.tmp 67) rfl q 0 _ _ (cdC z) rfl rfl (info_cd _) BQ.out (by simp [cdC]) (fun v hv => cdC_ok.one z v hv) ?_; intro wz hBz hOz)
        rw [setsA_full (by simp [cdC])] at hBz
        have BQ' := hid hBz
        have OQ' := hid (OQ.out.trans2 hOz (fun g hg => .inr (by have := GQ.out; simp at hg; omega)))
        clear hBz hOz BQ OQ y0 y1 y2
        have BQ := hid BQ'.out
        have OQ := hid OQ'.out
        clear BQ' OQ'
        obtain ⟨wq, ewq⟩ : ∃ W, W = wz := ⟨_, rfl⟩
        rw [← ewq] at BQ OQ ⊢
        clear ewq
        have CB := hid (BK.out z wq OQ.out)
        have CR := hid (fun w' (o : Only [] wq w') => RK.out z w' (OQ.out.trans o))
        obtain ⟨bl, hbl⟩ : ∃ b, b = (findB (whichL y) y.blocks z).1 := ⟨_, rfl⟩
        obtain ⟨is, his⟩ : ∃ b, b = (findB (whichL y) y.blocks z).2 := ⟨_, rfl⟩
        have BL := hid (show bl.length ≤ 1000 from hbl ▸ FL.out z)
        rw [← hbl, ← his] at CB CR
        clear hbl his
        have QC := hid (fun w' (o : Only [] wq w') => BQ.out.only o (by simp))
        clear BQ
        have d0 := (QC.out wq (Only.refl _ _)).cell (i := 0) (v := .int .u8 z.1) rfl
        have d1 := (QC.out wq (Only.refl _ _)).cell (i := 1) (v := .int .u8 z.2.1) rfl
        have d2 := (QC.out wq (Only.refl _ _)).cell (i := 2) (v := .int .i64 z.2.2) rfl
        have OQ' := OQ.out
        go_wp2_with (refine load_atA rfl 28 (.tmp 7) rfl ⟨pa, 0, none⟩ (mC y rb vb bb) rfl (PA.out _ OQ.out).mb ?_; simp only [Act.put, List.setIfInBounds_toArray, List.set_cons_zero, List.set_cons_succ])
        refine CB.out.mono ?_
        rintro e x1 ⟨a1, rfl, row1, nw1, o1⟩
        have ROW1 := hid row1
        have NW1 := hid nw1
        have X1 := hid o1
        clear row1 nw1 o1 d0 d1 d2
        have d0 := (QC.out _ X1.out).cell (i := 0) (v := .int .u8 z.1) rfl
        have d1 := (QC.out _ X1.out).cell (i := 1) (v := .int .u8 z.2.1) rfl
        have d2 := (QC.out _ X1.out).cell (i := 2) (v := .int .i64 z.2.2) rfl
        go_wp2_with (refine load_atA rfl 28 (.tmp 3) rfl ⟨p, 0, none⟩ (mC y ra va ba) rfl (PM.out _ (OQ.out.trans X1.out)).mb ?_; simp only [Act.put, List.setIfInBounds_toArray, List.set_cons_zero, List.set_cons_succ])
        refine (CR.out _ X1.out).mono ?_
        rintro e x2 ⟨a2, rfl, row2, nw2, o2⟩
        have X2 := hid (X1.out.trans o2)
        have EI := hid (eqi_any a1 a2 bl bl x2 ((ROW1.out.only0 o2).holds) row2.holds (by have := BL.out; omega) (by have := BL.out; omega))
        rw [decide_eq_true rfl] at EI
        have ROW2 := hid (ROW1.out.only0 o2)
        clear row2 nw2 o2 d0 d1 d2
        go_wp2_with fail
        refine EI.out.mono ?_
        rintro e x3 ⟨rfl, o3⟩
        have X3 := hid (OQ.out.trans (X2.out.trans o3))
        have R3 := hid (ROW2.out.only0 o3)
        clear o3
        obtain ⟨aa, ac, ea⟩ := R3.out.form
        subst ea
        obtain ⟨m, hm⟩ : ∃ m, m = bl.length := ⟨_, rfl⟩
        have HM := hid hm
        have mb : (m : Int) ≤ 1000 := by have := BL.out; omega
        have R3' := hid (show RowI x3 (.slice aa m ac) bl from by rw [hm]; exact R3.out)
        rw [← hm] at NW1 ⊢
        clear hm R3
        go_wp2_with fail
        go_loopg [20] m (fun g t w' => ∃ j : Nat, j + g = m ∧ t = .int .i64 j ∧ Tame x3 w' ∧ Only [] w w')
        case atStart => exact ⟨0, by omega, rfl, Tame.refl _, X3.out⟩
        case round =>
          obtain ⟨j, hj, rfl, hT, hO⟩ := hrel
          have T2 := hid hT
          have O2 := hid hO
          have j0 : (0 : Int) ≤ (j : Int) := by omega
          clear hT hO
          by_cases hg : gk = 0
          · have j1 : ¬ (j : Int) < (m : Int) := by omega
            clear hj hg
            go_wp2_with fail
            go_roundg gg
            case measure => omega
            case rel => exact ⟨i + 1, IN.out, by go_num, O2.out⟩
          · obtain ⟨g2, rfl⟩ : ∃ gg, gk = gg + 1 := ⟨gk - 1, by omega⟩
            have KN := hid (show j + 1 + g2 = m by omega)
            have j1 : (j : Int) < (m : Int) := by omega
            obtain ⟨v, hv⟩ : ∃ v, bl[j]? = some v := ⟨_, List.getElem?_eq_getElem (by have := HM.out; omega)⟩
            obtain ⟨h, c2, cur2, e, hb, hc⟩ := R3'.out.blk hv
            simp only [Value.slice.injEq] at e
            obtain ⟨rfl, _, rfl⟩ := e
            obtain ⟨z', cz, fz⟩ := T2.out.num hb hc
            have G := hid (show w.heap.size ≤ h from Nat.le_trans OQ.out.size (NW1.out h (by simp [ownI, Value.ownBlock])))
            have TS := hid (fun v => T2.out.set hb hc (.inl rfl) v)
            clear hj hg hv hb hc
            go_wp2_with fail
            go_roundg g2
            case measure => omega
            case rel => exact ⟨j + 1, KN.out, by go_num, TS.out _, O2.out.setCell (.inr G.out) _⟩
      · obtain ⟨z, hz⟩ : ∃ z, z = c := ⟨_, rfl⟩
        rw [← hz] at BQ
        clear hz
        have CB := hid (BK.out z wq OQ.out)
        have CR := hid (fun w' (o : Only [] wq w') => RK.out z w' (OQ.out.trans o))
        obtain ⟨bl, hbl⟩ : ∃ b, b = (findB (whichL y) y.blocks z).1 := ⟨_, rfl⟩
        obtain ⟨is, his⟩ : ∃ b, b = (findB (whichL y) y.blocks z).2 := ⟨_, rfl⟩
        have BL := hid (show bl.length ≤ 1000 from hbl ▸ FL.out z)
        rw [← hbl, ← his] at CB CR
        clear hbl his
        have QC := hid (fun w' (o : Only [] wq w') => BQ.out.only o (by simp))
        clear BQ
        have d0 := (QC.out wq (Only.refl _ _)).cell (i := 0) (v := .int .u8 z.1) rfl
        have d1 := (QC.out wq (Only.refl _ _)).cell (i := 1) (v := .int .u8 z.2.1) rfl
        have d2 := (QC.out wq (Only.refl _ _)).cell (i := 2) (v := .int .i64 z.2.2) rfl
        have OQ' := OQ.out
        go_wp2_with (refine load_atA rfl 28 (.tmp 7) rfl ⟨pa, 0, none⟩ (mC y rb vb bb) rfl (PA.out _ OQ.out).mb ?_; simp only [Act.put, List.setIfInBounds_toArray, List.set_cons_zero, List.set_cons_succ])
        refine CB.out.mono ?_
        rintro e x1 ⟨a1, rfl, row1, nw1, o1⟩
        have ROW1 := hid row1
        have NW1 := hid nw1
        have X1 := hid o1
        clear row1 nw1 o1 d0 d1 d2
        have d0 := (QC.out _ X1.out).cell (i := 0) (v := .int .u8 z.1) rfl
        have d1 := (QC.out _ X1.out).cell (i := 1) (v := .int .u8 z.2.1) rfl
        have d2 := (QC.out _ X1.out).cell (i := 2) (v := .int .i64 z.2.2) rfl
        go_wp2_with (refine load_atA rfl 28 (.tmp 3) rfl ⟨p, 0, none⟩ (mC y ra va ba) rfl (PM.out _ (OQ.out.trans X1.out)).mb ?_; simp only [Act.put, List.setIfInBounds_toArray, List.set_cons_zero, List.set_cons_succ])
        refine (CR.out _ X1.out).mono ?_
        rintro e x2 ⟨a2, rfl, row2, nw2, o2⟩
        have X2 := hid (X1.out.trans o2)
        have EI := hid (eqi_any a1 a2 bl bl x2 ((ROW1.out.only0 o2).holds) row2.holds (by have := BL.out; omega) (by have := BL.out; omega))
        rw [decide_eq_true rfl] at EI
        have ROW2 := hid (ROW1.out.only0 o2)
        clear row2 nw2 o2 d0 d1 d2
        go_wp2_with fail
        refine EI.out.mono ?_
        rintro e x3 ⟨rfl, o3⟩
        have X3 := hid (OQ.out.trans (X2.out.trans o3))
        have R3 := hid (ROW2.out.only0 o3)
        clear o3
        obtain ⟨aa, ac, ea⟩ := R3.out.form
        subst ea
        obtain ⟨m, hm⟩ : ∃ m, m = bl.length := ⟨_, rfl⟩
        have HM := hid hm
        have mb : (m : Int) ≤ 1000 := by have := BL.out; omega
        have R3' := hid (show RowI x3 (.slice aa m ac) bl from by rw [hm]; exact R3.out)
        rw [← hm] at NW1 ⊢
        clear hm R3
        go_wp2_with fail
        go_loopg [20] m (fun g t w' => ∃ j : Nat, j + g = m ∧ t = .int .i64 j ∧ Tame x3 w' ∧ Only [] w w')
        case atStart => exact ⟨0, by omega, rfl, Tame.refl _, X3.out⟩
        case round =>
          obtain ⟨j, hj, rfl, hT, hO⟩ := hrel
          have T2 := hid hT
          have O2 := hid hO
          have j0 : (0 : Int) ≤ (j : Int) := by omega
          clear hT hO
          by_cases hg : gk = 0
          · have j1 : ¬ (j : Int) < (m : Int) := by omega
            clear hj hg
            go_wp2_with fail
            go_roundg gg
            case measure => omega
            case rel => exact ⟨i + 1, IN.out, by go_num, O2.out⟩
          · obtain ⟨g2, rfl⟩ : ∃ gg, gk = gg + 1 := ⟨gk - 1, by omega⟩
            have KN := hid (show j + 1 + g2 = m by omega)
            have j1 : (j : Int) < (m : Int) := by omega
            obtain ⟨v, hv⟩ : ∃ v, bl[j]? = some v := ⟨_, List.getElem?_eq_getElem (by have := HM.out; omega)⟩
            obtain ⟨h, c2, cur2, e, hb, hc⟩ := R3'.out.blk hv
            simp only [Value.slice.injEq] at e
            obtain ⟨rfl, _, rfl⟩ := e
            obtain ⟨z', cz, fz⟩ := T2.out.num hb hc
            have G := hid (show w.heap.size ≤ h from Nat.le_trans OQ.out.size (NW1.out h (by simp [ownI, Value.ownBlock])))
            have TS := hid (fun v => T2.out.set hb hc (.inl rfl) v)
            clear hj hg hv hb hc
            go_wp2_with fail
            go_roundg g2
            case measure => omega
            case rel => exact ⟨j + 1, KN.out, by go_num, TS.out _, O2.out.setCell (.inr G.out) _⟩
end Go.Proofs.YtpmmnjeomdjakaaDoor

end
section
set_option maxRecDepth 20000
namespace Go.Proofs.YtpmmnjeomdjakaaDoor
open Go.RowKit
set_option linter.unusedVariables false
set_option linter.unusedSimpArgs false

set_option maxHeartbeats 4000000 in
set_option maxRecDepth 1000000 in
theorem mbblocks_any (hA : Awake13) (x : MV) (rv vv bv : Value) (c : Cod) (cat : Int) (w : World) (hV : MbV w) (hx : MIn x) (hm : MAt w x rv vv bv) (l4 : ∀ l, l ∈ x.blocks → l.length ≤ 17592186043904) (lp : x.pcm.size ≤ maxLen) (c0 : 0 ≤ cat) (c1 : cat ≤ 255) :
    Calls Tryd.prog 18 #[mV x rv vv bv, cdV c, .int .u8 cat] w fun e w' => e = .returned (.bool true) ∧ Only [] w w' := by
  go_enter Tryd.func18, Tryd.ntmps18
  generalize hq : (Code.seq _ _) = cc
  have hcc : cc = endWith 7 mbB (dropSeq 7 mbB) := by rw [← hq]; kernel_rfl
  rw [hcc]
  clear hq hcc
  refine bk_begin _ _ x rv vv bv c cat w hV hx hm l4 lp c0 c1 _ _ _ _ _ _ _ _ _ _ _ _ _ _ _ _ _ _ _ _ _ _ _ _ _ _ _ _ _ _ _ _ _ _ _ _ _ _ _ _ _ _ _ _ _ _ _ _ _ _ _ _ _ _ _ _ _ _ _ _ _ _ _ _ _ _ _ _ _ _ _ _ _ _ _ _ _ _ _ _ _ _ _ _ _ _ _ _ _ _ _ _ _ _ _ _ _ _ _ _ _ _ _ _ (fun w1 p pa ra va ba rb vb bb lv wv v5 v6 v21 v22 v23 v24 v25 v26 v27 v28 v29 v30 v31 v32 v33 v34 v35 v36 v37 v38 o1 bM bC bA mM mA hl hw => ?_)
  have yf := fewM_few x
  have yi := fewM_in hx
  rw [show dropSeq 7 mbB = endWith 1 (dropSeq 7 mbB) (dropSeq 8 mbB) from by kernel_rfl]
  refine bk_eq _ _ (whichL (fewM x)) lv wv (sizeI cat).1 (sizeI cat).2 w1 hl hw (blocksL_len _ _) _ _ _ _ _ _ _ _ _ _ _ _ _ _ _ _ _ _ _ _ _ _ _ _ _ _ _ _ _ _ _ _ _ _ _ _ _ _ _ _ _ _ _ _ _ _ _ _ _ _ _ _ _ _ _ _ _ _ _ _ _ _ _ _ _ _ _ _ _ _ _ _ _ _ _ _ _ _ _ _ _ _ _ _ _ _ _ _ _ _ _ _ _ _ _ _ _ _ _ _ _ (fun w2 v39 v40 v41 v42 v43 v44 v45 v46 v47 v48 v49 v50 v51 v52 o2 => ?_)
  obtain ⟨wa, wc, e, _⟩ := id hw
  subst e
  obtain ⟨n, hn⟩ : ∃ n, n = (whichL (fewM x)).length := ⟨_, rfl⟩
  have hw2 := hw.only o2 (by simp)
  rw [← hn] at hw2 ⊢
  rw [show dropSeq 8 mbB = endWith 1 (dropSeq 8 mbB) (dropSeq 9 mbB) from by kernel_rfl]
  refine bk_loop _ _ (fewM x) c p pa n wa wc ra va ba rb vb bb w2 (hV.only0 (o1.trans o2)) yi yf (bM.only o2 (by simp)) (bC.only o2 (by simp)) (bA.only o2 (by simp)) (mM.only0 o2) (mA.only0 o2) hn hw2 _ _ _ _ _ _ _ _ _ _ _ _ _ _ _ _ _ _ _ _ _ _ _ _ _ _ _ _ _ _ _ _ _ _ _ _ _ _ _ _ _ _ _ _ _ _ _ _ _ _ _ _ _ _ _ _ _ _ _ _ _ _ _ _ _ _ _ _ _ _ _ _ _ _ _ _ _ _ _ _ _ _ _ _ _ _ _ _ _ _ _ _ _ _ _ _ _ _ _ _ _ _ _ (fun w3 v6 v14 v15 v16 v17 v18 v19 v20 v53 v54 v55 v56 v57 v58 v59 v60 v61 v62 v63 v64 v65 v66 v67 v68 v69 v70 v71 v72 v73 v74 v75 v76 v77 v78 v79 v80 v81 v82 v83 v84 v85 v86 v87 v88 v89 v90 v91 v92 v93 v94 v95 v96 v97 v98 v99 v100 v101 v102 o3 => ?_)
  have K := o2.trans o3
  have BM := hid (bM.only K (by simp))
  have BA := hid (bA.only K (by simp))
  have EQ := hid (eqmb_same (fewM x) rb vb bb ra va ba w3 (mA.only0 K) (mM.only0 K) (few_len yf))
  have AV := hid (fun w' (o : Only [] w3 w') => hA w' (hV.only0 ((o1.trans K).trans o)))
  have O3 := hid (o1.trans K)
  clear o1 o2 o3 bM bC bA mM mA hl hw hw2 yf yi hV hm l4 lp hA hx K hn
  generalize fewM x = y at *
  conv => arg 2; whnf
  go_wp2_with (first
    | (refine load_atA rfl 28 (.tmp 7) rfl ⟨pa, 0, none⟩ (mC y rb vb bb) rfl BA.out.mb ?_; simp only [Act.put, List.setIfInBounds_toArray, List.set_cons_zero, List.set_cons_succ])
    | (refine load_atA rfl 28 (.tmp 3) rfl ⟨p, 0, none⟩ (mC y ra va ba) rfl BM.out.mb ?_; simp only [Act.put, List.setIfInBounds_toArray, List.set_cons_zero, List.set_cons_succ]))
  refine EQ.out.mono ?_
  rintro e w5 ⟨rfl, o5⟩
  have O5 := hid o5
  clear o5
  go_wp2_with fail
  refine (AV.out _ O5.out).mono ?_
  rintro e w6 ⟨rfl, o6⟩
  have O6 := hid (O3.out.trans (O5.out.trans o6))
  clear o6
  go_wp2_with fail
  go_ret
  exact ⟨rfl, O6.out⟩
end Go.Proofs.YtpmmnjeomdjakaaDoor

end

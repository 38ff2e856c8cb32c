/- MbLists: what it holds, its beginning. -/
import Derived.Test.YtpmmnjeomdjakaaDoorMgL
import Derived.Test.YtpmmnjeomdjakaaDoorMgC
import Derived.Test.YtpmmnjeomdjakaaDoorMmb19
import Derived.Test.YtpmmnjeomdjakaaDoorMqS
namespace Go.Proofs.YtpmmnjeomdjakaaDoor
open Go.RowKit
set_option linter.unusedVariables false
set_option linter.unusedSimpArgs false

noncomputable def liB : Code := Tryd.f7.body.getD .skip
/-- What MbLists holds in memory. -/
structure LiS (w0 w : World) (pm : Nat) (P : MV) (rv vv bv lv : Value) (L : List Cod) : Prop where
  bm : Blk w pm 28 (mC P rv vv bv).toArray
  m : MAt w P rv vv bv
  l : HoldsG cdC 3 w lv L
  o : Only [] w0 w
theorem LiS.step {w0 w w' : World} {pm : Nat} {P : MV} {rv vv bv lv : Value} {L : List Cod} (h : LiS w0 w pm P rv vv bv lv L) (k : Only [] w w') : LiS w0 w' pm P rv vv bv lv L :=
  ⟨h.bm.only k (by simp), h.m.only0 k, h.l.only0 k, h.o.trans k⟩
set_option maxRecDepth 1000000 in
set_option maxHeartbeats 8000000 in
theorem li_begin (rest : Code) (Q : Exit → Act → World → Prop)  (k c tn : Int) (w : World) (hV : MbV w) (k0 : 0 ≤ k) (k1 : k ≤ 255) (c0 : 0 ≤ c) (c1 : c ≤ 255) (u3 u4 u5 u6 u7 u8 u9 u10 u11 u12 u13 u14 u15 u16 u17 u18 u19 u20 u21 u22 u23 u24 u25 u26 u27 u28 u29 u30 u31 u32 u33 u34 u35 u36 u37 u38 u39 u40 u41 u42 u43 u44 u45 u46 u47 u48 u49 u50 u51 u52 u53 u54 u55 u56 u57 u58 u59 u60 u61 u62 u63 u64 u65 u66 u67 u68 u69 u70 u71 u72 u73 u74 u75 u76 u77 u78 u79 u80 u81 u82 u83 u84 u85 u86 u87 u88 u89 u90 u91 u92 u93 u94 u95 u96 u97 u98 u99 u100 u101 u102 u103 u104 u105 u106 u107 u108 u109 u110 u111 u112 u113 u114 u115 u116 u117 u118 u119 u120 u121 u122 u123 u124 u125 u126 u127 u128 u129 u130 u131 u132 u133 u134 u135 u136 u137 u138 u139 u140 u141 u142 u143 u144 u145 u146 u147 u148 u149 u150 u151 u152 u153 u154 u155 u156 u157 u158 u159 u160 u161 u162 u163 u164 u165 u166 u167 u168 u169 u170 u171 u172 u173 u174 u175 u176 u177 u178 u179 u180 u181 u182 u183 u184 u185 u186 u187 : Value)
    (hr : ∀ (P : MV) (rv vv bv : Value) (L : List Cod) (la : Option Addr) (n lc : Nat) (w' : World) (pm : Nat) (v20 v21 v22 v23 v24 v25 v26 v27 v28 v29 v30 v31 v32 v33 v34 v35 v36 v37 v38 v39 v40 v41 v42 v43 v44 v45 v46 v47 v48 v49 v50 : Value), P = plainM (k % 8) c → LiP P L → n = L.length → LiS w w' pm P rv vv bv (.slice la n lc) L → rest.wp Tryd.prog Q ⟨#[.int .u8 k, .int .u8 c, .int .i64 tn, u3, u4, u5, .bool false, .pointer (some ⟨pm, 0, none⟩), .slice la n lc, u9, u10, u11, u12, u13, u14, u15, u16, u17, u18, u19, v20, v21, v22, v23, v24, v25, v26, v27, v28, v29, v30, v31, v32, v33, v34, v35, v36, v37, v38, v39, v40, v41, v42, v43, v44, v45, v46, v47, v48, v49, v50, u51, u52, u53, u54, u55, u56, u57, u58, u59, u60, u61, u62, u63, u64, u65, u66, u67, u68, u69, u70, u71, u72, u73, u74, u75, u76, u77, u78, u79, u80, u81, u82, u83, u84, u85, u86, u87, u88, u89, u90, u91, u92, u93, u94, u95, u96, u97, u98, u99, u100, u101, u102, u103, u104, u105, u106, u107, u108, u109, u110, u111, u112, u113, u114, u115, u116, u117, u118, u119, u120, u121, u122, u123, u124, u125, u126, u127, u128, u129, u130, u131, u132, u133, u134, u135, u136, u137, u138, u139, u140, u141, u142, u143, u144, u145, u146, u147, u148, u149, u150, u151, u152, u153, u154, u155, u156, u157, u158, u159, u160, u161, u162, u163, u164, u165, u166, u167, u168, u169, u170, u171, u172, u173, u174, u175, u176, u177, u178, u179, u180, u181, u182, u183, u184, u185, u186, u187], []⟩ w') :
    (endWith 4 liB rest).wp Tryd.prog Q ⟨#[.int .u8 k, .int .u8 c, .int .i64 tn, u3, u4, u5, u6, u7, u8, u9, u10, u11, u12, u13, u14, u15, u16, u17, u18, u19, u20, u21, u22, u23, u24, u25, u26, u27, u28, u29, u30, u31, u32, u33, u34, u35, u36, u37, u38, u39, u40, u41, u42, u43, u44, u45, u46, u47, u48, u49, u50, u51, u52, u53, u54, u55, u56, u57, u58, u59, u60, u61, u62, u63, u64, u65, u66, u67, u68, u69, u70, u71, u72, u73, u74, u75, u76, u77, u78, u79, u80, u81, u82, u83, u84, u85, u86, u87, u88, u89, u90, u91, u92, u93, u94, u95, u96, u97, u98, u99, u100, u101, u102, u103, u104, u105, u106, u107, u108, u109, u110, u111, u112, u113, u114, u115, u116, u117, u118, u119, u120, u121, u122, u123, u124, u125, u126, u127, u128, u129, u130, u131, u132, u133, u134, u135, u136, u137, u138, u139, u140, u141, u142, u143, u144, u145, u146, u147, u148, u149, u150, u151, u152, u153, u154, u155, u156, u157, u158, u159, u160, u161, u162, u163, u164, u165, u166, u167, u168, u169, u170, u171, u172, u173, u174, u175, u176, u177, u178, u179, u180, u181, u182, u183, u184, u185, u186, u187], []⟩ w := by
  conv => arg 2; whnf; arg 2; whnf; arg 2; whnf; arg 2; whnf; arg 2; whnf
  have HR := hid hr
  clear hr
  obtain ⟨P, hP⟩ : ∃ P, P = plainM (k % 8) c := ⟨_, rfl⟩
  have CP := hid (plain_any k c w k0 k1 c0 c1)
  rw [← hP] at CP HR
  have lp := lip_of (k % 8) c (by omega) (by omega) c0 c1
  rw [← hP, show blocksL (k % 8).toNat (cbpP (k % 8) c).toNat = whichL P from by rw [hP]; exact (pl_which _ _).symm] at lp
  have LP := hid lp
  have IN := hid (show MIn P from by rw [hP]; exact pl_in _ _ (by omega) (by omega) c0 c1)
  have V := hid hV
  clear hV hP lp
  go_wp2_with fail
  refine CP.out.mono ?_
  rintro e W2 ⟨rv, vv, bv, rfl, ho⟩
  have ma := ho.m.at
  have one := ma.one
  have O2 := hid ho.m.only
  have MA := hid ma
  clear ho CP ma
  unfold mV
  go_upto_region 2 with (refine store_blk rfl 28 (.tmp 7) (.tmp 22) rfl W2.heap.size 0 _ _ (mC P rv vv bv) rfl rfl (info_mb' _ _ _ _) (Blk.new W2 _ _) (by simp [mC]) (one_mC P one.1 one.2.1 one.2.2) ?_; intro W3 hB3 hO3)
  rw [setsA_full (by simp [mC])] at hB3
  have o23 : Only [] W2 W3 := ((Only.refl [] W2).alloc _).trans2 hO3 (fun g hg => .inr (by simp at hg; omega))
  obtain ⟨pm, hpm⟩ : ∃ p, p = W2.heap.size := ⟨_, rfl⟩
  rw [← hpm] at hB3 ⊢
  have BM := hid hB3
  have O3 := hid (O2.out.trans o23)
  have MA3 := hid (MA.out.only0 o23)
  have BL := hid (blocks13_any P rv vv bv W3 (V.out.only0 O3.out) IN.out)
  clear hB3 hO3 o23 one MA hpm
  unfold mV at BL
  go_wp2_with (refine load_atG (by kernel_rfl) 28 (.tmp 7) rfl ⟨pm, 0, none⟩ (mC P rv vv bv) rfl (BM.out).mb ?_; simp only [Act.put, List.setIfInBounds_toArray, List.set_cons_zero, List.set_cons_succ])
  refine BL.out.mono ?_
  rintro e w4 ⟨lv, rfl, c4⟩
  have hl := c4.row.holds cdC_ok
  obtain ⟨la, lc, e, _⟩ := id hl
  subst e
  have ls : LiS w w4 pm P rv vv bv (.slice la (whichL P).length lc) (whichL P) := ⟨BM.out.only c4.only (by simp), MA3.out.only0 c4.only, hl, O3.out.trans c4.only⟩
  obtain ⟨vs, ⟨ba, bc, rfl, _⟩, hvn, _⟩ := id ls.m.b
  rw [show vs.length = (whichL P).length from by rw [hvn]; exact LP.out.bl] at ls ⊢
  have LS := hid ls
  have n27 : ((whichL P).length : Int) ≤ 27 := by have := LP.out.n; omega
  have d0 := ls.bm.cell (i := 0) (v := .int .u8 P.kind) rfl
  have d25 := ls.bm.cell (i := 25) (v := .int .u8 P.cbp) rfl
  have d27 := ls.bm.cell (i := 27) (v := .slice ba (whichL P).length bc) rfl
  obtain ⟨n, hn⟩ : ∃ n, n = (whichL P).length := ⟨_, rfl⟩
  have EM := hid (fun h1 h2 => show n = 0 from by rw [hn, LP.out.e h1 h2]; rfl)
  clear hl c4 ls BL
  have HN := hid hn
  rw [← hn] at LS n27 d27 ⊢
  clear hn
  by_cases z1 : P.cbp = 0
  · have y1 : (P.cbp == 0) = true := by rw [z1]; rfl
    by_cases z2 : P.kind = 1
    · have y2 : (P.kind == 1) = true := by rw [z2]; rfl
      have y3 : (P.kind != 1) = false := by rw [z2]; rfl
      clear z1 z2 EM
      go_wp2_with fail
      exact HR.out P rv vv (.slice ba n bc) (whichL P) la n lc _ pm _ _ _ _ _ _ _ _ _ _ _ _ _ _ _ _ _ _ _ _ _ _ _ _ _ _ _ _ _ _ _ rfl LP.out HN.out LS.out
    · have y2 : (P.kind == 1) = false := by simpa using z2
      have y3 : (P.kind != 1) = true := by simpa using z2
      have n0 : (n : Int) = 0 := by have := EM.out z1 z2; omega
      clear z1 z2 EM
      go_wp2_with fail
      exact HR.out P rv vv (.slice ba n bc) (whichL P) la n lc _ pm _ _ _ _ _ _ _ _ _ _ _ _ _ _ _ _ _ _ _ _ _ _ _ _ _ _ _ _ _ _ _ rfl LP.out HN.out LS.out
  · have y1 : (P.cbp == 0) = false := by simpa using z1
    clear z1 EM
    go_wp2_with fail
    exact HR.out P rv vv (.slice ba n bc) (whichL P) la n lc _ pm _ _ _ _ _ _ _ _ _ _ _ _ _ _ _ _ _ _ _ _ _ _ _ _ _ _ _ _ _ _ _ rfl LP.out HN.out LS.out
end Go.Proofs.YtpmmnjeomdjakaaDoor

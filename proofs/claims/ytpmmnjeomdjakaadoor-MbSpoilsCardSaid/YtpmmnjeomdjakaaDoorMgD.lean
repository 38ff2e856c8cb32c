/- MbSpoils: what it holds, its beginning. -/
import Derived.Test.YtpmmnjeomdjakaaDoorMgC
import Derived.Test.YtpmmnjeomdjakaaDoorMmb19
namespace Go.Proofs.YtpmmnjeomdjakaaDoor
open Go.RowKit
set_option linter.unusedVariables false
set_option linter.unusedSimpArgs false

noncomputable def spB : Code := Tryd.f6.body.getD .skip
/-- What MbSpoils holds in memory. -/
structure SpS (w0 w : World) (px pm pn pw : Nat) (wh ix tn n e : Int) (y : MV) (rv vv bv : Value) (us : List SlV) (lo hi : Nat) : Prop where
  bx : Blk w px 43 #[.int .i64 wh, .int .i64 ix, .int .i64 tn]
  bm : Blk w pm 28 (mC y rv vv bv).toArray
  bn : Blk w pn 3 #[.int .i64 n]
  bw : Blk w pw 30 #[.int .i64 e]
  pr : PR w y rv vv bv us lo hi
  o : Only [] w0 w
  x0 : w0.heap.size ≤ px
  xl : px < lo
  lh : lo ≤ hi
  xm : hi ≤ pm
  xn : hi ≤ pn
  xw : hi ≤ pw
  mn : pm ≠ pn
  mw : pm ≠ pw
  nw : pn ≠ pw
section
variable {w0 w w' : World} {px pm pn pw : Nat} {wh ix tn n e : Int} {y : MV} {rv vv bv : Value} {us : List SlV} {lo hi : Nat}
theorem SpS.step (h : SpS w0 w px pm pn pw wh ix tn n e y rv vv bv us lo hi) (k : Only [] w w') : SpS w0 w' px pm pn pw wh ix tn n e y rv vv bv us lo hi :=
  ⟨h.bx.only k (by simp), h.bm.only k (by simp), h.bn.only k (by simp), h.bw.only k (by simp), h.pr.step k (fun g hg => by simp at hg), h.o.trans k, h.x0, h.xl, h.lh, h.xm, h.xn, h.xw, h.mn, h.mw, h.nw⟩
/-- The error is another one. -/
theorem SpS.want (h : SpS w0 w px pm pn pw wh ix tn n e y rv vv bv us lo hi) {e' : Int} (hb : Blk w' pw 30 #[.int .i64 e']) (k : Only [pw] w w') : SpS w0 w' px pm pn pw wh ix tn n e' y rv vv bv us lo hi := by
  have := h.xl; have := h.lh; have := h.xw; have := h.mw; have := h.nw; have := h.x0
  exact ⟨h.bx.only k (by simp; omega), h.bm.only k (by simp; omega), h.bn.only k (by simp; omega), hb, h.pr.step k (fun g hg => by simp at hg; omega), h.o.trans2 k (fun g hg => .inr (by simp at hg; omega)), h.x0, h.xl, h.lh, h.xm, h.xn, h.xw, h.mn, h.mw, h.nw⟩
/-- The number is another one. -/
theorem SpS.num (h : SpS w0 w px pm pn pw wh ix tn n e y rv vv bv us lo hi) {n' : Int} (hb : Blk w' pn 3 #[.int .i64 n']) (k : Only [pn] w w') : SpS w0 w' px pm pn pw wh ix tn n' e y rv vv bv us lo hi := by
  have := h.xl; have := h.lh; have := h.xn; have := h.mn; have := h.nw; have := h.x0
  exact ⟨h.bx.only k (by simp; omega), h.bm.only k (by simp; omega), hb, h.bw.only k (by simp; omega), h.pr.step k (fun g hg => by simp at hg; omega), h.o.trans2 k (fun g hg => .inr (by simp at hg; omega)), h.x0, h.xl, h.lh, h.xm, h.xn, h.xw, h.mn, h.mw, h.nw⟩
/-- The macroblock is another one, its rows as they were. -/
theorem SpS.mb (h : SpS w0 w px pm pn pw wh ix tn n e y rv vv bv us lo hi) {z : MV} (hb : Blk w' pm 28 (mC z rv vv bv).toArray) (k : Only [pm] w w') (h1 : z.refs = y.refs) (h2 : z.mvds = y.mvds) (h3 : z.blocks = y.blocks) : SpS w0 w' px pm pn pw wh ix tn n e z rv vv bv us lo hi := by
  have := h.xl; have := h.lh; have := h.xm; have := h.mn; have := h.mw; have := h.x0
  have p := h.pr.step k (fun g hg => by simp at hg; omega)
  exact ⟨h.bx.only k (by simp; omega), hb, h.bn.only k (by simp; omega), h.bw.only k (by simp; omega), ⟨by rw [h1]; exact p.r, by rw [h2]; exact p.v, p.b, by rw [h3]; exact p.bl, by rw [h3]; exact p.i, p.rb, p.vb, p.bb, p.ib, p.ri, p.ii⟩, h.o.trans2 k (fun g hg => .inr (by simp at hg; omega)), h.x0, h.xl, h.lh, h.xm, h.xn, h.xw, h.mn, h.mw, h.nw⟩
end
theorem run_allocE (w : World) : (Instr.alloc 30 true (.tuple #[])).run Tryd.prog w = .ok (.pointer (some ⟨w.heap.size, 0, none⟩)) (w.alloc (.cells #[.int .i64 0] 30)) := by kernel_rfl
theorem run_allocI (w : World) : (Instr.alloc 3 true (.tuple #[])).run Tryd.prog w = .ok (.pointer (some ⟨w.heap.size, 0, none⟩)) (w.alloc (.cells #[.int .i64 0] 3)) := by kernel_rfl
set_option maxRecDepth 1000000 in
set_option maxHeartbeats 8000000 in
theorem sp_begin (rest : Code) (Q : Exit → Act → World → Prop) (hQ : ∀ c (a : Act) d v w, Q (.panic c) (a.put (some d) v) w → Q (.panic c) a w) (k c wh ix tn : Int) (w : World) (hV : MbV w) (k0 : 0 ≤ k) (k1 : k ≤ 255) (c0 : 0 ≤ c) (c1 : c ≤ 255) (u3 u4 u5 u6 u7 u8 u9 u10 u11 u12 u13 u14 u15 u16 u17 u18 u19 u20 u21 u22 u23 u24 u25 u26 u27 u28 u29 u30 u31 u32 u33 u34 u35 u36 u37 u38 u39 u40 u41 u42 u43 u44 u45 u46 u47 u48 u49 u50 u51 u52 u53 u54 u55 u56 u57 u58 u59 u60 u61 u62 u63 u64 u65 u66 u67 u68 u69 u70 u71 u72 u73 u74 u75 u76 u77 u78 u79 u80 u81 u82 u83 u84 u85 u86 u87 u88 u89 u90 u91 u92 u93 u94 u95 u96 u97 u98 u99 u100 u101 u102 u103 u104 u105 u106 u107 u108 u109 u110 u111 u112 u113 u114 u115 u116 u117 u118 u119 u120 u121 u122 u123 u124 u125 u126 u127 u128 u129 u130 u131 u132 u133 u134 u135 u136 u137 u138 u139 u140 u141 u142 u143 u144 u145 u146 u147 u148 u149 u150 u151 u152 u153 u154 u155 u156 u157 u158 u159 u160 u161 u162 u163 : Value)
    (hr : ∀ (y : MV) (rv vv bv : Value) (us : List SlV) (w' : World) (px pm pn pw lo hi : Nat) (v8 v14 v15 v16 v17 v18 v19 v20 v21 v22 v23 v24 v25 v26 v27 v28 v29 v30 v31 v32 v33 : Value), y = plainM (k % 8) c → SpS w w' px pm pn pw wh ix tn tn 0 y rv vv bv us lo hi → rest.wp Tryd.prog Q ⟨#[.int .u8 k, .int .u8 c, .agg #[.int .i64 wh, .int .i64 ix, .int .i64 tn], u3, u4, .pointer (some ⟨px, 0, none⟩), .bool false, .pointer (some ⟨pm, 0, none⟩), v8, .pointer (some ⟨pw, 0, none⟩), .pointer (some ⟨pn, 0, none⟩), .func (.func 20) #[] #[.pointer (some ⟨pn, 0, none⟩), .pointer (some ⟨pw, 0, none⟩)], .func (.func 21) #[] #[.pointer (some ⟨pw, 0, none⟩)], u13, v14, v15, v16, v17, v18, v19, v20, v21, v22, v23, v24, v25, v26, v27, v28, v29, v30, v31, v32, v33, u34, u35, u36, u37, u38, u39, u40, u41, u42, u43, u44, u45, u46, u47, u48, u49, u50, u51, u52, u53, u54, u55, u56, u57, u58, u59, u60, u61, u62, u63, u64, u65, u66, u67, u68, u69, u70, u71, u72, u73, u74, u75, u76, u77, u78, u79, u80, u81, u82, u83, u84, u85, u86, u87, u88, u89, u90, u91, u92, u93, u94, u95, u96, u97, u98, u99, u100, u101, u102, u103, u104, u105, u106, u107, u108, u109, u110, u111, u112, u113, u114, u115, u116, u117, u118, u119, u120, u121, u122, u123, u124, u125, u126, u127, u128, u129, u130, u131, u132, u133, u134, u135, u136, u137, u138, u139, u140, u141, u142, u143, u144, u145, u146, u147, u148, u149, u150, u151, u152, u153, u154, u155, u156, u157, u158, u159, u160, u161, u162, u163], []⟩ w') :
    (endWith 7 spB rest).wp Tryd.prog Q ⟨#[.int .u8 k, .int .u8 c, .agg #[.int .i64 wh, .int .i64 ix, .int .i64 tn], u3, u4, u5, u6, u7, u8, u9, u10, u11, u12, u13, u14, u15, u16, u17, u18, u19, u20, u21, u22, u23, u24, u25, u26, u27, u28, u29, u30, u31, u32, u33, u34, u35, u36, u37, u38, u39, u40, u41, u42, u43, u44, u45, u46, u47, u48, u49, u50, u51, u52, u53, u54, u55, u56, u57, u58, u59, u60, u61, u62, u63, u64, u65, u66, u67, u68, u69, u70, u71, u72, u73, u74, u75, u76, u77, u78, u79, u80, u81, u82, u83, u84, u85, u86, u87, u88, u89, u90, u91, u92, u93, u94, u95, u96, u97, u98, u99, u100, u101, u102, u103, u104, u105, u106, u107, u108, u109, u110, u111, u112, u113, u114, u115, u116, u117, u118, u119, u120, u121, u122, u123, u124, u125, u126, u127, u128, u129, u130, u131, u132, u133, u134, u135, u136, u137, u138, u139, u140, u141, u142, u143, u144, u145, u146, u147, u148, u149, u150, u151, u152, u153, u154, u155, u156, u157, u158, u159, u160, u161, u162, u163], []⟩ w := by
  conv => arg 2; whnf; arg 2; whnf; arg 2; whnf; arg 2; whnf; arg 2; whnf; arg 2; whnf; arg 2; whnf; arg 2; whnf
  have HR := hid hr
  clear hr
  obtain ⟨W1, hW⟩ : ∃ W, W = w.alloc (.cells #[.int .i64 wh, .int .i64 ix, .int .i64 tn] 43) := ⟨_, rfl⟩
  have oW := hid (show Only [] w W1 from hW ▸ ((Only.refl [] w).alloc _))
  obtain ⟨px, hZ⟩ : ∃ Z, Z = w.heap.size := ⟨_, rfl⟩
  have BX := hid (show Blk W1 px 43 #[.int .i64 wh, .int .i64 ix, .int .i64 tn] from by rw [hZ]; exact hW ▸ Blk.new w _ _)
  have HW := hid hW
  have HZ := hid hZ
  obtain ⟨P, hP⟩ : ∃ P, P = plainM (k % 8) c := ⟨_, rfl⟩
  have CP := hid (plain_any k c W1 k0 k1 c0 c1)
  rw [← hP] at CP
  have HP := hid hP
  have KP := hid (show P.kind = k % 8 from by rw [hP]; exact pl_kind _ _)
  have IN := hid (show MIn P from by rw [hP]; exact pl_in _ _ (by omega) (by omega) c0 c1)
  have FW := hid (show MFew P from by rw [hP]; exact pl_few _ _)
  have K3 := hid (show checkI P false 3 = 0 from by rw [hP]; exact pl_check _ _ 3 (by omega) (by omega) c0 c1 (by omega) (by omega))
  have KI := hid (show (checkI P true 0 == 0) = intraI P.kind from by
    have h := pl_checkI (k % 8) c (by omega) (by omega) c0 c1
    rw [hP, pl_kind]
    cases hi : intraI (k % 8)
    · rw [hi] at h
      simp at h
      simpa using h
    · rw [hi] at h
      simp at h
      simpa using h)
  have V := hid hV
  clear hW hZ hP hV
  have hmf : ∀ (fn : Fn) (first cap : Array Value) (w : World), (Instr.makeFunc fn first cap).run Tryd.prog w = .ok (.func fn first cap) w := fun _ _ _ _ => rfl
  go_wp2_with (refine wp_box rfl 43 (.tmp 2) rfl #[.int .i64 wh, .int .i64 ix, .int .i64 tn] rfl HW.out HZ.out ?_; simp only [Act.put, List.setIfInBounds_toArray, List.set_cons_zero, List.set_cons_succ])
  refine CP.out.mono ?_
  rintro e W2 ⟨rv, vv, bv, rfl, ho⟩
  obtain ⟨us, hpr⟩ := PR.of ho
  have PP0 := hid hpr
  have one := ho.m.at.one
  have O2 := hid ho.m.only
  clear ho hpr CP
  unfold mV
  go_upto_region 2 with (refine store_blk rfl 28 (.tmp 7) (.tmp 16) rfl W2.heap.size 0 _ _ (mC P rv vv bv) rfl rfl (info_mb' _ _ _ _) (Blk.new W2 _ _) (by simp [mC]) (one_mC P one.1 one.2.1 one.2.2) ?_; intro W3 hB3 hO3)
  rw [setsA_full (by simp [mC])] at hB3
  have o23 : Only [] W2 W3 := ((Only.refl [] W2).alloc _).trans2 hO3 (fun g hg => .inr (by simp at hg; omega))
  have BM := hid hB3
  have O3 := hid (oW.out.trans (O2.out.trans o23))
  have PP := hid (PP0.out.step o23 (fun g hg => by simp at hg))
  have BX3 := hid (BX.out.only (O2.out.trans o23) (by simp))
  have XB := hid (show w.heap.size ≤ px ∧ px < W1.heap.size ∧ W1.heap.size ≤ W2.heap.size from ⟨by rw [HZ.out]; exact Nat.le_refl _, BX.out.lt, O2.out.size⟩)
  have c0' := hB3.cell (i := 0) (v := .int .u8 P.kind) rfl
  clear hB3 hO3 o23 one PP0 BX
  have INT := hid (fun w => pintra_any P.kind w)
  obtain ⟨tr, htr⟩ : ∃ b, b = intraI P.kind := ⟨_, rfl⟩
  rw [← htr] at KI INT
  have TR := hid htr
  clear htr
  go_wp2_with fail
  refine (INT.out _).mono ?_
  rintro e w3 ⟨rfl, rfl⟩
  have CH := hid (fun w' (o : Only [] w3 w') => check13_any P rv vv bv false 3 w' (V.out.only0 (O3.out.trans o)) IN.out (PP.out.step o (fun g hg => by simp at hg)).at FW.out)
  have CI := hid (fun w' (o : Only [] w3 w') => check13_any P rv vv bv true 0 w' (V.out.only0 (O3.out.trans o)) IN.out (PP.out.step o (fun g hg => by simp at hg)).at FW.out)
  rw [K3.out] at CH
  obtain ⟨ci, hci⟩ : ∃ i, i = checkI P true 0 := ⟨_, rfl⟩
  rw [← hci] at CI KI
  have ki := KI.out
  clear hci c0'
  unfold mV at CH CI
  go_wp2_with (refine load_atA rfl 28 (.tmp 7) rfl ⟨W2.heap.size, 0, none⟩ (mC P rv vv bv) rfl (BM.out).mb ?_; simp only [Act.put, List.setIfInBounds_toArray, List.set_cons_zero, List.set_cons_succ])
  refine (CH.out _ (Only.refl _ _)).mono ?_
  rintro e w4 ⟨rfl, o4⟩
  have BM4 := hid (BM.out.only o4 (by simp))
  have O4 := hid o4
  clear o4
  go_wp2_with (refine load_atG (by kernel_rfl) 28 (.tmp 7) rfl ⟨W2.heap.size, 0, none⟩ (mC P rv vv bv) rfl (BM4.out).mb ?_; simp only [Act.put, List.setIfInBounds_toArray, List.set_cons_zero, List.set_cons_succ])
  refine (CI.out _ O4.out).mono ?_
  rintro e w5 ⟨rfl, o5⟩
  have O5 := hid (O4.out.trans o5)
  clear o5
  go_upto_region 5 with fail
  refine wp_region_tail (fun w' => Only [] w3 w') 5 6 (by kernel_rfl) rfl (O5.out.drew) (fun hS => ?_)
  generalize w5.drew = W4 at *
  refine wpAnyT_take 0 (v := ?va0) rfl (by kernel_rfl) (fun _ _ _ h => hQ _ _ _ _ _ h) (Or.inl ⟨by rfl, ?ya0⟩) hS ?ra0
  case ya0 =>
    intro w hSw
    skip
    go_simp
    (try with_reducible rfl)
  (try simp only [Act.put, List.setIfInBounds_toArray, List.set_cons_zero, List.set_cons_succ])
  refine wpAnyT_take 1 (v := ?va1) rfl (by kernel_rfl) (fun _ _ _ h => hQ _ _ _ _ _ h) (Or.inl ⟨by rfl, ?ya1⟩) hS ?ra1
  case ya1 =>
    intro w hSw
    have q2 := (BX3.out.only hSw (by simp)).cell (i := 2) (v := .int .i64 tn) rfl
    go_simp
    (try with_reducible rfl)
  (try simp only [Act.put, List.setIfInBounds_toArray, List.set_cons_zero, List.set_cons_succ])
  refine wpAnyT_two 2 3 rfl rfl (by kernel_rfl) (fun J hJ => ?_) (fun J hJ => ?_)
  · refine step_alloc (by kernel_rfl) 30 rfl _ _ (run_allocE _) ?_
    refine hJ.out _ _ (hS.alloc _) ?_
    clear hJ J
    (try simp only [Act.put, List.setIfInBounds_toArray, List.set_cons_zero, List.set_cons_succ])
    refine wpAnyT_call 3 rfl (by kernel_rfl) (fun J hJ => ?_)
    refine step_alloc (by kernel_rfl) 3 rfl _ _ (run_allocI _) ?_
    refine hJ.out _ _ ((hS.alloc _).alloc _) ?_
    clear hJ J
    simp only [World.size_alloc]
    (try simp only [Act.put, List.setIfInBounds_toArray, List.set_cons_zero, List.set_cons_succ])
    have BW : Blk ((W4.alloc (.cells #[.int .i64 0] 30)).alloc (.cells #[.int .i64 0] 3)) (W4.heap.size) 30 #[.int .i64 0] := ((Blk.new W4 _ _).only ((Only.refl [] _).alloc _) (by simp))
    have BN : Blk ((W4.alloc (.cells #[.int .i64 0] 30)).alloc (.cells #[.int .i64 0] 3)) (W4.heap.size + 1) 3 #[.int .i64 0] := (by have := Blk.new (W4.alloc (.cells #[.int .i64 0] 30)) 3 #[.int .i64 0]; rwa [World.size_alloc] at this)
    have o6 : Only [] w3 ((W4.alloc (.cells #[.int .i64 0] 30)).alloc (.cells #[.int .i64 0] 3)) := (hS.alloc _).alloc _
    generalize hw6 : ((W4.alloc (.cells #[.int .i64 0] 30)).alloc (.cells #[.int .i64 0] 3)) = w6 at *
    obtain ⟨qw, hqw⟩ : ∃ q, q = W4.heap.size := ⟨_, rfl⟩
    obtain ⟨qn, hqn⟩ : ∃ q, q = W4.heap.size + 1 := ⟨_, rfl⟩
    rw [← hqw] at BW
    rw [← hqn] at BN
    have NW : qn ≠ qw ∧ W4.heap.size ≤ qw ∧ W4.heap.size ≤ qn := by omega
    have e1 := BW.cell (i := 0) (v := .int .i64 0) rfl
    have e2 := BW.frozen 0
    have ow : Only [qw, qn] w6 ((w6.setCell ⟨qw, 0, none⟩ (.int .i64 0)).setCell ⟨qn, 0, none⟩ (.int .i64 tn)) := ((Only.refl _ _).setCell (.inl (by simp)) _).setCell (.inl (by simp)) _
    have on1 : Only [qw] w6 (w6.setCell ⟨qw, 0, none⟩ (.int .i64 0)) := (Only.refl _ _).setCell (.inl (by simp)) _
    have on2 : Only [qn] (w6.setCell ⟨qw, 0, none⟩ (.int .i64 0)) ((w6.setCell ⟨qw, 0, none⟩ (.int .i64 0)).setCell ⟨qn, 0, none⟩ (.int .i64 tn)) := (Only.refl _ _).setCell (.inl (by simp)) _
    have BW2 : Blk ((w6.setCell ⟨qw, 0, none⟩ (.int .i64 0)).setCell ⟨qn, 0, none⟩ (.int .i64 tn)) qw 30 #[.int .i64 0] := (BW.set 0 (.int .i64 0)).only on2 (by simp; omega)
    have BN2 : Blk ((w6.setCell ⟨qw, 0, none⟩ (.int .i64 0)).setCell ⟨qn, 0, none⟩ (.int .i64 tn)) qn 3 #[.int .i64 tn] := (BN.only on1 (by simp; omega)).set 0 (.int .i64 tn)
    have lt3 : W2.heap.size < W4.heap.size := by have := BM.out.lt; have := hS.size; omega
    have k36 : Only [qw, qn] w3 ((w6.setCell ⟨qw, 0, none⟩ (.int .i64 0)).setCell ⟨qn, 0, none⟩ (.int .i64 tn)) := (o6.mono (fun _ _ h => by cases h)).trans ow
    have xb := XB.out
    have FIN := hid (show SpS w ((w6.setCell ⟨qw, 0, none⟩ (.int .i64 0)).setCell ⟨qn, 0, none⟩ (.int .i64 tn)) px W2.heap.size qn qw wh ix tn tn 0 P rv vv bv us W1.heap.size W2.heap.size from
      ⟨BX3.out.only k36 (by simp; omega), BM.out.only k36 (by simp; omega), BN2, BW2, PP.out.step k36 (fun g hg => by simp at hg; omega), O3.out.trans2 k36 (fun g hg => .inr (by simp at hg; omega)), xb.1, xb.2.1, xb.2.2, Nat.le_refl _, by omega, by omega, by omega, by omega, NW.1⟩)
    have S6 : Only [] w3 (w6.setCell ⟨qw, 0, none⟩ (.int .i64 0)) := o6.trans2 on1 (fun g hg => .inr (by have := hS.size; simp at hg; omega))
    have e3 := (BN.only on1 (by simp; omega)).cell (i := 0) (v := .int .i64 0) rfl
    have e4 := (BN.only on1 (by simp; omega)).frozen 0
    rw [← hqn, ← hqw]
    clear hqw hqn NW hw6
    refine wpAnyT_call 4 rfl (by kernel_rfl) (fun J hJ => ?_)
    go_simp
    refine hJ.out _ _ S6 ?_
    clear hJ J e1 e2 S6
    (try simp only [Act.put, List.setIfInBounds_toArray, List.set_cons_zero, List.set_cons_succ])
    refine wpAnyT_tail _ rfl (by kernel_rfl) ?_
    simp only [List.drop_succ_cons, List.drop_zero]
    clear BW BN o6 ow on1 on2 BW2 BN2 k36 xb hS lt3
    go_wp2_with fail
    exact HR.out P rv vv bv us _ px _ qn qw W1.heap.size W2.heap.size _ _ _ _ _ _ _ _ _ _ _ _ _ _ _ _ _ _ _ _ _ HP.out FIN.out
  · refine step_alloc (by kernel_rfl) 3 rfl _ _ (run_allocI _) ?_
    refine hJ.out _ _ (hS.alloc _) ?_
    clear hJ J
    (try simp only [Act.put, List.setIfInBounds_toArray, List.set_cons_zero, List.set_cons_succ])
    refine wpAnyT_call 2 rfl (by kernel_rfl) (fun J hJ => ?_)
    refine step_alloc (by kernel_rfl) 30 rfl _ _ (run_allocE _) ?_
    refine hJ.out _ _ ((hS.alloc _).alloc _) ?_
    clear hJ J
    simp only [World.size_alloc]
    (try simp only [Act.put, List.setIfInBounds_toArray, List.set_cons_zero, List.set_cons_succ])
    have BW : Blk ((W4.alloc (.cells #[.int .i64 0] 3)).alloc (.cells #[.int .i64 0] 30)) (W4.heap.size + 1) 30 #[.int .i64 0] := (by have := Blk.new (W4.alloc (.cells #[.int .i64 0] 3)) 30 #[.int .i64 0]; rwa [World.size_alloc] at this)
    have BN : Blk ((W4.alloc (.cells #[.int .i64 0] 3)).alloc (.cells #[.int .i64 0] 30)) (W4.heap.size) 3 #[.int .i64 0] := ((Blk.new W4 _ _).only ((Only.refl [] _).alloc _) (by simp))
    have o6 : Only [] w3 ((W4.alloc (.cells #[.int .i64 0] 3)).alloc (.cells #[.int .i64 0] 30)) := (hS.alloc _).alloc _
    generalize hw6 : ((W4.alloc (.cells #[.int .i64 0] 3)).alloc (.cells #[.int .i64 0] 30)) = w6 at *
    obtain ⟨qw, hqw⟩ : ∃ q, q = W4.heap.size + 1 := ⟨_, rfl⟩
    obtain ⟨qn, hqn⟩ : ∃ q, q = W4.heap.size := ⟨_, rfl⟩
    rw [← hqw] at BW
    rw [← hqn] at BN
    have NW : qn ≠ qw ∧ W4.heap.size ≤ qw ∧ W4.heap.size ≤ qn := by omega
    have e1 := BW.cell (i := 0) (v := .int .i64 0) rfl
    have e2 := BW.frozen 0
    have ow : Only [qw, qn] w6 ((w6.setCell ⟨qw, 0, none⟩ (.int .i64 0)).setCell ⟨qn, 0, none⟩ (.int .i64 tn)) := ((Only.refl _ _).setCell (.inl (by simp)) _).setCell (.inl (by simp)) _
    have on1 : Only [qw] w6 (w6.setCell ⟨qw, 0, none⟩ (.int .i64 0)) := (Only.refl _ _).setCell (.inl (by simp)) _
    have on2 : Only [qn] (w6.setCell ⟨qw, 0, none⟩ (.int .i64 0)) ((w6.setCell ⟨qw, 0, none⟩ (.int .i64 0)).setCell ⟨qn, 0, none⟩ (.int .i64 tn)) := (Only.refl _ _).setCell (.inl (by simp)) _
    have BW2 : Blk ((w6.setCell ⟨qw, 0, none⟩ (.int .i64 0)).setCell ⟨qn, 0, none⟩ (.int .i64 tn)) qw 30 #[.int .i64 0] := (BW.set 0 (.int .i64 0)).only on2 (by simp; omega)
    have BN2 : Blk ((w6.setCell ⟨qw, 0, none⟩ (.int .i64 0)).setCell ⟨qn, 0, none⟩ (.int .i64 tn)) qn 3 #[.int .i64 tn] := (BN.only on1 (by simp; omega)).set 0 (.int .i64 tn)
    have lt3 : W2.heap.size < W4.heap.size := by have := BM.out.lt; have := hS.size; omega
    have k36 : Only [qw, qn] w3 ((w6.setCell ⟨qw, 0, none⟩ (.int .i64 0)).setCell ⟨qn, 0, none⟩ (.int .i64 tn)) := (o6.mono (fun _ _ h => by cases h)).trans ow
    have xb := XB.out
    have FIN := hid (show SpS w ((w6.setCell ⟨qw, 0, none⟩ (.int .i64 0)).setCell ⟨qn, 0, none⟩ (.int .i64 tn)) px W2.heap.size qn qw wh ix tn tn 0 P rv vv bv us W1.heap.size W2.heap.size from
      ⟨BX3.out.only k36 (by simp; omega), BM.out.only k36 (by simp; omega), BN2, BW2, PP.out.step k36 (fun g hg => by simp at hg; omega), O3.out.trans2 k36 (fun g hg => .inr (by simp at hg; omega)), xb.1, xb.2.1, xb.2.2, Nat.le_refl _, by omega, by omega, by omega, by omega, NW.1⟩)
    have S6 : Only [] w3 (w6.setCell ⟨qw, 0, none⟩ (.int .i64 0)) := o6.trans2 on1 (fun g hg => .inr (by have := hS.size; simp at hg; omega))
    have e3 := (BN.only on1 (by simp; omega)).cell (i := 0) (v := .int .i64 0) rfl
    have e4 := (BN.only on1 (by simp; omega)).frozen 0
    rw [← hqw, ← hqn]
    clear hqw hqn NW hw6
    refine wpAnyT_call 4 rfl (by kernel_rfl) (fun J hJ => ?_)
    go_simp
    refine hJ.out _ _ S6 ?_
    clear hJ J e1 e2 S6
    (try simp only [Act.put, List.setIfInBounds_toArray, List.set_cons_zero, List.set_cons_succ])
    refine wpAnyT_tail _ rfl (by kernel_rfl) ?_
    simp only [List.drop_succ_cons, List.drop_zero]
    clear BW BN o6 ow on1 on2 BW2 BN2 k36 xb hS lt3
    go_wp2_with fail
    exact HR.out P rv vv bv us _ px _ qn qw W1.heap.size W2.heap.size _ _ _ _ _ _ _ _ _ _ _ _ _ _ _ _ _ _ _ _ _ HP.out FIN.out
end Go.Proofs.YtpmmnjeomdjakaaDoor

/- MbLists: its end. -/
import Derived.Test.YtpmmnjeomdjakaaDoorMgR
import Derived.Test.YtpmmnjeomdjakaaDoorMmb19
namespace Go.Proofs.YtpmmnjeomdjakaaDoor
open Go.RowKit
set_option linter.unusedVariables false
set_option linter.unusedSimpArgs false

set_option maxRecDepth 1000000 in
set_option maxHeartbeats 8000000 in
theorem li_end (K c : Int) (P : MV) (L : List Cod) (la : Option Addr) (n' lc i pa pb : Nat) (b : List Int) (ra va rb vb aa bb lv : Value) (w00 w0 w : World) (o0 : Only [] w00 w0) (hV : MbV w) (k0 : 0 ≤ K) (k7 : K ≤ 7) (c0 : 0 ≤ c) (c1 : c ≤ 255) (hP : P = plainM K c) (lp : LiP P L) (hn : n' + 1 = L.length) (hb : P.blocks[i]? = some b) (hl : HoldsG cdC 3 w (.slice la (n' + 1) lc) L) (h : LiU w0 w P pa pb n' i b ra va rb vb aa bb) (u0 u1 u2 u3 u4 u5 u6 u7 u9 u10 u11 u12 u13 u14 u15 u18 u19 u20 u21 u22 u23 u24 u25 u26 u27 u28 u29 u30 u31 u32 u33 u34 u35 u36 u37 u38 u39 u40 u41 u42 u43 u44 u45 u46 u47 u48 u49 u50 u51 u52 u53 u54 u55 u56 u57 u58 u59 u60 u61 u62 u63 u64 u65 u66 u67 u68 u69 u70 u71 u72 u73 u74 u75 u76 u77 u78 u79 u80 u81 u82 u83 u84 u85 u86 u87 u88 u89 u90 u91 u92 u93 u94 u95 u96 u97 u98 u99 u100 u101 u102 u103 u104 u105 u106 u107 u108 u109 u110 u111 u112 u113 u114 u115 u116 u117 u118 u119 u120 u121 u122 u123 u124 u125 u126 u127 u128 u129 u130 u131 u132 u133 u134 u135 u136 u137 u138 u139 u140 u141 u142 u143 u144 u145 u146 u147 u148 u149 u150 u151 u152 u153 u154 u155 u156 u157 u158 u159 u160 u161 u162 u163 u164 u165 u166 u167 u168 u169 u170 u171 u172 u173 u174 u175 u176 u177 u178 u179 u180 u181 u182 u183 u184 u185 u186 u187 : Value) :
    (dropSeq 14 liB).wp Tryd.prog (bodyPost Tryd.prog Tryd.f7 fun e w' => e = .returned (.bool true) ∧ Only [] w00 w') ⟨#[u0, u1, u2, u3, u4, u5, u6, u7, .slice la (n' + 1) lc, u9, u10, u11, u12, u13, u14, u15, .pointer (some ⟨pa, 0, none⟩), .pointer (some ⟨pb, 0, none⟩), u18, u19, u20, u21, u22, u23, u24, u25, u26, u27, u28, u29, u30, u31, u32, u33, u34, u35, u36, u37, u38, u39, u40, u41, u42, u43, u44, u45, u46, u47, u48, u49, u50, u51, u52, u53, u54, u55, u56, u57, u58, u59, u60, u61, u62, u63, u64, u65, u66, u67, u68, u69, u70, u71, u72, u73, u74, u75, u76, u77, u78, u79, u80, u81, u82, u83, u84, u85, u86, u87, u88, u89, u90, u91, u92, u93, u94, u95, u96, u97, u98, u99, u100, u101, u102, u103, u104, u105, u106, u107, u108, u109, u110, u111, u112, u113, u114, u115, u116, u117, u118, u119, u120, u121, u122, u123, u124, u125, u126, u127, u128, u129, u130, u131, u132, u133, u134, u135, u136, u137, u138, u139, u140, u141, u142, u143, u144, u145, u146, u147, u148, u149, u150, u151, u152, u153, u154, u155, u156, u157, u158, u159, u160, u161, u162, u163, u164, u165, u166, u167, u168, u169, u170, u171, u172, u173, u174, u175, u176, u177, u178, u179, u180, u181, u182, u183, u184, u185, u186, u187], []⟩ w := by
  conv => arg 2; whnf
  obtain ⟨z, hz⟩ : ∃ z, L[n']? = some z := ⟨_, List.getElem?_eq_getElem (by omega)⟩
  obtain ⟨yb, yo, e, hcz⟩ := hl.at hz
  subst e
  have y0 := hcz 0 (.int .u8 z.1) rfl
  have y1 := hcz 1 (.int .u8 z.2.1) rfl
  have y2 := hcz 2 (.int .i64 z.2.2) rfl
  rw [Nat.add_zero] at y0
  have KZ := hid (fun w' (k : Only [] w w') => show w'.cell? ⟨yb, yo + n' * 3, none⟩ = some (.int .u8 z.1) ∧ w'.cell? ⟨yb, yo + n' * 3 + 1, none⟩ = some (.int .u8 z.2.1) ∧ w'.cell? ⟨yb, yo + n' * 3 + 2, none⟩ = some (.int .i64 z.2.2) from ⟨k.cell y0 (by simp), k.cell y1 (by simp), k.cell y2 (by simp)⟩)
  have bn : P.blocks.length ≤ 27 ∧ ∀ l, l ∈ P.blocks → l.length ≤ 16 := ⟨by have := lp.n; have := lp.bl; omega, fun l hl => by
    obtain ⟨j, hj⟩ := List.getElem?_of_mem hl
    exact (lp.blk hj).1⟩
  have FP : MFew P := by rw [hP]; exact pl_few K c
  have L1 := li_less13 k0 k7 c0 c1 n' (by rw [← hP, lp.bl]; omega)
  have L2 := li_short13 k0 k7 c0 c1 i b (by rw [← hP]; exact hb)
  rw [← hP] at L1 L2
  have FL : MFew { P with blocks := P.blocks.take n' } := ⟨FP.r, FP.v, by show (P.blocks.take n').length ≤ 1000; rw [List.length_take]; have := bn.1; omega, fun l hl => by
    have := bn.2 l (List.mem_of_mem_take hl); omega⟩
  have FS : MFew { P with blocks := P.blocks.set i (b.drop 1) } := ⟨FP.r, FP.v, by show (P.blocks.set i (b.drop 1)).length ≤ 1000; rw [List.length_set]; have := bn.1; omega, fun l hl => by
    rcases List.mem_or_eq_of_mem_set hl with h | h
    · have := bn.2 l h; omega
    · have := bn.2 b (List.mem_of_getElem? hb); rw [h, List.length_drop]; omega⟩
  have KA := hid (fun w' (o : Only [] w w') => h.ka.only o (by simp))
  have KB := hid (fun w' (o : Only [] w w') => h.kb.only o (by simp))
  have BK := hid (fun w' (o : Only [] w w') => block13_any { P with blocks := P.blocks.take n' } ra va aa z w' (hV.only0 o) L1.1 (h.a.only0 o) (by have := FL.b; omega) (fun l hl => by have := FL.i l hl; omega))
  rw [show findB (whichL { P with blocks := P.blocks.take n' }) ({ P with blocks := P.blocks.take n' } : MV).blocks z = ([], false) from lp.less hz] at BK
  have C1 := hid (fun w' (o : Only [] w w') => check13_any { P with blocks := P.blocks.take n' } ra va aa false 1 w' (hV.only0 o) L1.1 (h.a.only0 o) FL)
  have C2 := hid (fun w' (o : Only [] w w') => check13_any { P with blocks := P.blocks.set i (b.drop 1) } rb vb bb false 1 w' (hV.only0 o) L2.1 (h.b.only0 o) FS)
  rw [L1.2] at C1
  rw [L2.2] at C2
  have AV := hid (fun w' (o : Only [] w w') => awake13_any w' (hV.only0 o))
  have O := hid (o0.trans h.o)
  have nb : (n' : Int) + 1 ≤ 27 := by have := lp.n; omega
  have wi' : IntKind.i64.wrap (n' : Int) = (n' : Int) := IntWalk.i64_in _ (by omega)
  have l0 : (0 : Int) ≤ (n' : Int) := by omega
  have l1 : (n' : Int) < (n' : Int) + 1 := by omega
  unfold mV at BK C1 C2
  clear hz hcz hl y0 y1 y2 bn FP L1 L2 FL FS h hV lp hP hn hb o0
  go_upto_region 29 with fail
  refine wp_region_heldH (fun w' => Only [] w w') 13 (by kernel_rfl) rfl (Only.refl [] w).drew (fun hS => ?_)
  generalize w.drew = wd at *
  refine wpAnyH_read 0 rfl (by kernel_rfl) (by kernel_rfl) (by kernel_rfl) (fun _ _ _ h => h) hS (yields_load 28 _ (by rfl) rfl ⟨pa, 0, none⟩ (mC { P with blocks := P.blocks.take n' } ra va aa) rfl (fun w' o => (KA.out w' o).mb)) ?_
  (try simp only [Act.put, List.setIfInBounds_toArray, List.set_cons_zero, List.set_cons_succ])
  refine wpAnyH_read 1 (v := ?va1) rfl (by kernel_rfl) (by kernel_rfl) (by kernel_rfl) (fun _ _ _ h => h) hS (Or.inl ⟨by rfl, ?ya1⟩) ?ra1
  case ya1 =>
    intro w hSw
    have p0 := (KZ.out w hSw).1
    have p1 := (KZ.out w hSw).2.1
    have p2 := (KZ.out w hSw).2.2
    go_simp
    (try with_reducible rfl)
  (try simp only [Act.put, List.setIfInBounds_toArray, List.set_cons_zero, List.set_cons_succ])
  refine wpAnyH_read 2 (v := ?va2) rfl (by kernel_rfl) (by kernel_rfl) (by kernel_rfl) (fun _ _ _ h => h) hS (Or.inl ⟨by rfl, ?ya2⟩) ?ra2
  case ya2 =>
    intro w hSw
    have p0 := (KZ.out w hSw).1
    have p1 := (KZ.out w hSw).2.1
    have p2 := (KZ.out w hSw).2.2
    go_simp
    (try with_reducible rfl)
  (try simp only [Act.put, List.setIfInBounds_toArray, List.set_cons_zero, List.set_cons_succ])
  refine wpAnyH_read 3 (v := ?va3) rfl (by kernel_rfl) (by kernel_rfl) (by kernel_rfl) (fun _ _ _ h => h) hS (Or.inl ⟨by rfl, ?ya3⟩) ?ra3
  case ya3 =>
    intro w hSw
    have p0 := (KZ.out w hSw).1
    have p1 := (KZ.out w hSw).2.1
    have p2 := (KZ.out w hSw).2.2
    go_simp
    (try with_reducible rfl)
  (try simp only [Act.put, List.setIfInBounds_toArray, List.set_cons_zero, List.set_cons_succ])
  refine wpAnyH_read 4 (v := ?va4) rfl (by kernel_rfl) (by kernel_rfl) (by kernel_rfl) (fun _ _ _ h => h) hS (Or.inl ⟨by rfl, ?ya4⟩) ?ra4
  case ya4 =>
    intro w hSw
    have p0 := (KZ.out w hSw).1
    have p1 := (KZ.out w hSw).2.1
    have p2 := (KZ.out w hSw).2.2
    go_simp
    (try with_reducible rfl)
  (try simp only [Act.put, List.setIfInBounds_toArray, List.set_cons_zero, List.set_cons_succ])
  refine wpAnyH_read 5 (v := ?va5) rfl (by kernel_rfl) (by kernel_rfl) (by kernel_rfl) (fun _ _ _ h => h) hS (Or.inl ⟨by rfl, ?ya5⟩) ?ra5
  case ya5 =>
    intro w hSw
    have p0 := (KZ.out w hSw).1
    have p1 := (KZ.out w hSw).2.1
    have p2 := (KZ.out w hSw).2.2
    go_simp
    (try with_reducible rfl)
  (try simp only [Act.put, List.setIfInBounds_toArray, List.set_cons_zero, List.set_cons_succ])
  refine wpAnyH_read 6 (v := ?va6) rfl (by kernel_rfl) (by kernel_rfl) (by kernel_rfl) (fun _ _ _ h => h) hS (Or.inl ⟨by rfl, ?ya6⟩) ?ra6
  case ya6 =>
    intro w hSw
    have p0 := (KZ.out w hSw).1
    have p1 := (KZ.out w hSw).2.1
    have p2 := (KZ.out w hSw).2.2
    go_simp
    (try with_reducible rfl)
  (try simp only [Act.put, List.setIfInBounds_toArray, List.set_cons_zero, List.set_cons_succ])
  refine wpAnyH_call 7 rfl (by kernel_rfl) (fun J hJ => ?_)
  rw [if_pos (by rfl)]
  go_simp
  refine (BK.out _ hS).mono ?_
  rintro e x7 ⟨sv, rfl, row, nw, p_⟩
  have s7 := hS.trans p_
  clear p_
  clear row nw
  refine hJ.out _ _ s7 ?_
  clear hJ J
  (try simp only [Act.put, List.setIfInBounds_toArray, List.set_cons_zero, List.set_cons_succ])
  refine wpAnyH_read 8 (v := ?va7) rfl (by kernel_rfl) (by kernel_rfl) (by kernel_rfl) (fun _ _ _ h => h) s7 (Or.inl ⟨by rfl, ?ya7⟩) ?ra7
  case ya7 =>
    intro w hSw
    have p0 := (KZ.out w hSw).1
    have p1 := (KZ.out w hSw).2.1
    have p2 := (KZ.out w hSw).2.2
    go_simp
    (try with_reducible rfl)
  (try simp only [Act.put, List.setIfInBounds_toArray, List.set_cons_zero, List.set_cons_succ])
  refine wpAnyH_read 9 (v := ?va8) rfl (by kernel_rfl) (by kernel_rfl) (by kernel_rfl) (fun _ _ _ h => h) s7 (Or.inl ⟨by rfl, ?ya8⟩) ?ra8
  case ya8 =>
    intro w hSw
    have p0 := (KZ.out w hSw).1
    have p1 := (KZ.out w hSw).2.1
    have p2 := (KZ.out w hSw).2.2
    go_simp
    (try with_reducible rfl)
  (try simp only [Act.put, List.setIfInBounds_toArray, List.set_cons_zero, List.set_cons_succ])
  refine wpAnyH_read 10 (v := ?va9) rfl (by kernel_rfl) (by kernel_rfl) (by kernel_rfl) (fun _ _ _ h => h) s7 (Or.inl ⟨by rfl, ?ya9⟩) ?ra9
  case ya9 =>
    intro w hSw
    have p0 := (KZ.out w hSw).1
    have p1 := (KZ.out w hSw).2.1
    have p2 := (KZ.out w hSw).2.2
    go_simp
    (try with_reducible rfl)
  (try simp only [Act.put, List.setIfInBounds_toArray, List.set_cons_zero, List.set_cons_succ])
  refine wpAnyH_read 11 (v := ?va10) rfl (by kernel_rfl) (by kernel_rfl) (by kernel_rfl) (fun _ _ _ h => h) s7 (Or.inl ⟨by rfl, ?ya10⟩) ?ra10
  case ya10 =>
    intro w hSw
    have p0 := (KZ.out w hSw).1
    have p1 := (KZ.out w hSw).2.1
    have p2 := (KZ.out w hSw).2.2
    go_simp
    (try with_reducible rfl)
  (try simp only [Act.put, List.setIfInBounds_toArray, List.set_cons_zero, List.set_cons_succ])
  refine wpAnyH_read 12 (v := ?va11) rfl (by kernel_rfl) (by kernel_rfl) (by kernel_rfl) (fun _ _ _ h => h) s7 (Or.inl ⟨by rfl, ?ya11⟩) ?ra11
  case ya11 =>
    intro w hSw
    have p0 := (KZ.out w hSw).1
    have p1 := (KZ.out w hSw).2.1
    have p2 := (KZ.out w hSw).2.2
    go_simp
    (try with_reducible rfl)
  (try simp only [Act.put, List.setIfInBounds_toArray, List.set_cons_zero, List.set_cons_succ])
  refine wpAnyH_done (by kernel_rfl) ?_ _
  have S7 := hid s7
  clear hS s7
  go_wp2_with (refine load_atG (by kernel_rfl) 28 (.tmp 16) rfl ⟨pa, 0, none⟩ (mC { P with blocks := P.blocks.take n' } ra va aa) rfl (KA.out _ S7.out).mb ?_; simp only [Act.put, List.setIfInBounds_toArray, List.set_cons_zero, List.set_cons_succ])
  refine (C1.out _ S7.out).mono ?_
  rintro e u1 ⟨rfl, o1⟩
  have S8 := hid (S7.out.trans o1)
  clear o1
  go_wp2_with (refine load_atG (by kernel_rfl) 28 (.tmp 17) rfl ⟨pb, 0, none⟩ (mC { P with blocks := P.blocks.set i (b.drop 1) } rb vb bb) rfl (KB.out _ S8.out).mb ?_; simp only [Act.put, List.setIfInBounds_toArray, List.set_cons_zero, List.set_cons_succ])
  refine (C2.out _ S8.out).mono ?_
  rintro e u2 ⟨rfl, o2⟩
  have S9 := hid (S8.out.trans o2)
  clear o2
  go_wp2_with fail
  refine (AV.out _ S9.out).mono ?_
  rintro e u3 ⟨rfl, o3⟩
  have SF := hid (O.out.trans (S9.out.trans o3))
  clear o3
  go_wp2_with fail
  go_ret
  exact ⟨rfl, SF.out⟩
end Go.Proofs.YtpmmnjeomdjakaaDoor

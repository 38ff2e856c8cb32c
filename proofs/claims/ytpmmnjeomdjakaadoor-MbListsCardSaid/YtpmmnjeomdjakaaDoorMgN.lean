/- MbLists: its loop. -/
import Derived.Test.YtpmmnjeomdjakaaDoorMgM
import Derived.Test.YtpmmnjeomdjakaaDoorMmb8
namespace Go.Proofs.YtpmmnjeomdjakaaDoor
open Go.RowKit
set_option linter.unusedVariables false
set_option linter.unusedSimpArgs false

set_option maxRecDepth 1000000 in
set_option maxHeartbeats 8000000 in
theorem li_loop (rest : Code) (Q : Exit → Act → World → Prop) (hQ : ∀ c (a : Act) d v w, Q (.panic c) (a.put (some d) v) w → Q (.panic c) a w) (P : MV) (pm n lc : Nat) (la : Option Addr) (rv vv bv : Value) (L : List Cod) (w0 w : World) (hV : MbV w) (lp : LiP P L) (hi : MIn P) (hf : MFew P) (hn : n = L.length) (h : LiS w0 w pm P rv vv bv (.slice la n lc) L) (u0 u1 u2 u3 u4 u5 u6 u9 u10 u11 u12 u13 u14 u15 u16 u17 u18 u19 u20 u21 u22 u23 u24 u25 u26 u27 u28 u29 u30 u31 u32 u33 u34 u35 u36 u37 u38 u39 u40 u41 u42 u43 u44 u45 u46 u47 u48 u49 u50 u51 u52 u53 u54 u55 u56 u57 u58 u59 u60 u61 u62 u63 u64 u65 u66 u67 u68 u69 u70 u71 u72 u73 u74 u75 u76 u77 u78 u79 u80 u81 u82 u83 u84 u85 u86 u87 u88 u89 u90 u91 u92 u93 u94 u95 u96 u97 u98 u99 u100 u101 u102 u103 u104 u105 u106 u107 u108 u109 u110 u111 u112 u113 u114 u115 u116 u117 u118 u119 u120 u121 u122 u123 u124 u125 u126 u127 u128 u129 u130 u131 u132 u133 u134 u135 u136 u137 u138 u139 u140 u141 u142 u143 u144 u145 u146 u147 u148 u149 u150 u151 u152 u153 u154 u155 u156 u157 u158 u159 u160 u161 u162 u163 u164 u165 u166 u167 u168 u169 u170 u171 u172 u173 u174 u175 u176 u177 u178 u179 u180 u181 u182 u183 u184 u185 u186 u187 : Value)
    (hr : ∀ (w' : World) (v6 v9 v10 v11 v12 v13 v14 v51 v52 v53 v54 v55 v56 v57 v58 v59 v60 v61 v62 v63 v64 v65 v66 v67 v68 v69 v70 v71 v72 v73 v74 v75 v76 v77 v78 v79 v80 v81 v82 v83 v84 v85 v86 v87 v88 v89 v90 v91 v92 v93 v94 v95 v96 v97 v98 v99 v100 v101 v102 v103 v104 v105 v106 v107 v108 v109 v110 v111 v112 v113 v114 v115 v116 v117 v118 : Value), Only [] w w' → rest.wp Tryd.prog Q ⟨#[u0, u1, u2, u3, u4, u5, v6, .pointer (some ⟨pm, 0, none⟩), .slice la n lc, v9, v10, v11, v12, v13, v14, u15, u16, u17, u18, u19, u20, u21, u22, u23, u24, u25, u26, u27, u28, u29, u30, u31, u32, u33, u34, u35, u36, u37, u38, u39, u40, u41, u42, u43, u44, u45, u46, u47, u48, u49, u50, v51, v52, v53, v54, v55, v56, v57, v58, v59, v60, v61, v62, v63, v64, v65, v66, v67, v68, v69, v70, v71, v72, v73, v74, v75, v76, v77, v78, v79, v80, v81, v82, v83, v84, v85, v86, v87, v88, v89, v90, v91, v92, v93, v94, v95, v96, v97, v98, v99, v100, v101, v102, v103, v104, v105, v106, v107, v108, v109, v110, v111, v112, v113, v114, v115, v116, v117, v118, u119, u120, u121, u122, u123, u124, u125, u126, u127, u128, u129, u130, u131, u132, u133, u134, u135, u136, u137, u138, u139, u140, u141, u142, u143, u144, u145, u146, u147, u148, u149, u150, u151, u152, u153, u154, u155, u156, u157, u158, u159, u160, u161, u162, u163, u164, u165, u166, u167, u168, u169, u170, u171, u172, u173, u174, u175, u176, u177, u178, u179, u180, u181, u182, u183, u184, u185, u186, u187], []⟩ w') :
    (endWith 1 (dropSeq 4 liB) rest).wp Tryd.prog Q ⟨#[u0, u1, u2, u3, u4, u5, u6, .pointer (some ⟨pm, 0, none⟩), .slice la n lc, u9, u10, u11, u12, u13, u14, u15, u16, u17, u18, u19, u20, u21, u22, u23, u24, u25, u26, u27, u28, u29, u30, u31, u32, u33, u34, u35, u36, u37, u38, u39, u40, u41, u42, u43, u44, u45, u46, u47, u48, u49, u50, u51, u52, u53, u54, u55, u56, u57, u58, u59, u60, u61, u62, u63, u64, u65, u66, u67, u68, u69, u70, u71, u72, u73, u74, u75, u76, u77, u78, u79, u80, u81, u82, u83, u84, u85, u86, u87, u88, u89, u90, u91, u92, u93, u94, u95, u96, u97, u98, u99, u100, u101, u102, u103, u104, u105, u106, u107, u108, u109, u110, u111, u112, u113, u114, u115, u116, u117, u118, u119, u120, u121, u122, u123, u124, u125, u126, u127, u128, u129, u130, u131, u132, u133, u134, u135, u136, u137, u138, u139, u140, u141, u142, u143, u144, u145, u146, u147, u148, u149, u150, u151, u152, u153, u154, u155, u156, u157, u158, u159, u160, u161, u162, u163, u164, u165, u166, u167, u168, u169, u170, u171, u172, u173, u174, u175, u176, u177, u178, u179, u180, u181, u182, u183, u184, u185, u186, u187], []⟩ w := by
  conv => arg 2; whnf; arg 2; whnf
  have HR := hid hr
  clear hr
  have LM := hid (fun w' (o : Only [] w w') => h.step o)
  have LC := hid (fun (i : Nat) (z : Cod) (hz : L[i]? = some z) => show ∃ b o, la = some ⟨b, o, none⟩ ∧ ∀ w', Only [] w w' → w'.cell? ⟨b, o + i * 3, none⟩ = some (.int .u8 z.1) ∧ w'.cell? ⟨b, o + i * 3 + 1, none⟩ = some (.int .u8 z.2.1) ∧ w'.cell? ⟨b, o + i * 3 + 2, none⟩ = some (.int .i64 z.2.2) from by
    obtain ⟨b, o, e, hc⟩ := h.l.at hz
    have y0 := hc 0 (.int .u8 z.1) rfl
    have y1 := hc 1 (.int .u8 z.2.1) rfl
    have y2 := hc 2 (.int .i64 z.2.2) rfl
    rw [Nat.add_zero] at y0
    exact ⟨b, o, e, fun w' k => ⟨k.cell y0 (by simp), k.cell y1 (by simp), k.cell y2 (by simp)⟩⟩)
  have LPP := hid lp
  have HN := hid hn
  have nn : (n : Int) ≤ 27 := by have := lp.n; omega
  have BK := hid (fun (z : Cod) w' (o : Only [] w w') => block13_any P rv vv bv z w' (hV.only0 o) hi (h.m.only0 o) (by have := lp.n; have := lp.bl; omega) (fun l hl => by have := hf.i l hl; omega))
  have SZ := hid (fun (z : Int) w' (o : Only [] w w') (c0 : 0 ≤ z) (c1 : z ≤ 255) => size13_any z w' (hV.only0 o) c0 c1)
  unfold mV at BK
  clear h lp hn hV hi hf
  go_wp2_with fail
  go_loopg [9] n (fun g t wr => ∃ i : Nat, i + g = n ∧ t = .int .i64 i ∧ Only [] w wr)
  case atStart => exact ⟨0, by omega, rfl, Only.refl _ _⟩
  case round =>
    obtain ⟨i, hi, rfl, hO⟩ := hrel
    have O := hid hO
    have i0 : (0 : Int) ≤ (i : Int) := by omega
    clear hO
    by_cases hg : gk = 0
    · have i1 : ¬ (i : Int) < (n : Int) := by omega
      clear hi hg
      go_wp2_with fail
      exact HR.out _ _ _ _ _ _ _ _ _ _ _ _ _ _ _ _ _ _ _ _ _ _ _ _ _ _ _ _ _ _ _ _ _ _ _ _ _ _ _ _ _ _ _ _ _ _ _ _ _ _ _ _ _ _ _ _ _ _ _ _ _ _ _ _ _ _ _ _ _ _ _ _ _ _ _ _ O.out
    · obtain ⟨gg, rfl⟩ : ∃ gg, gk = gg + 1 := ⟨gk - 1, by omega⟩
      have IN := hid (show i + 1 + gg = n by omega)
      have i1 : (i : Int) < (n : Int) := by omega
      obtain ⟨z, hz⟩ : ∃ z, L[i]? = some z := ⟨_, List.getElem?_eq_getElem (by have := HN.out; omega)⟩
      obtain ⟨yb, yo, e, KZ0⟩ := LC.out i z hz
      subst e
      have KZ := hid KZ0
      clear KZ0
      obtain ⟨m, em, m16, m1, fb⟩ := LPP.out.at hz
      have cz := LPP.out.c z (List.mem_of_getElem? hz)
      have HZ := hid hz
      have FB := hid fb
      have SZ2 := hid (SZ.out z.1 wr O.out cz.1 (by omega))
      rw [em] at SZ2
      have y0 := (KZ.out wr O.out).1
      clear hi hg hz fb em
      go_wp2_with fail
      refine SZ2.out.mono ?_
      rintro e w2 ⟨rfl, o2⟩
      have O2 := hid (O.out.trans o2)
      have K2 := hid (fun w' (o : Only [] w2 w') => KZ.out w' (O2.out.trans o))
      clear o2 y0 SZ2
      go_upto_region 9 with fail
      refine wp_region_heldH (fun w' => Only [] w2 w') 11 (by kernel_rfl) rfl (Only.refl [] w2).drew (fun hS => ?_)
      generalize w2.drew = wd at *
      refine wpAnyH_read 0 rfl (by kernel_rfl) (by kernel_rfl) (by kernel_rfl) (fun _ _ _ h => hQ _ _ _ _ _ h) hS (yields_load 28 _ (by rfl) rfl ⟨pm, 0, none⟩ (mC P rv vv bv) rfl (fun w' o => (LM.out w' (O2.out.trans o)).bm.mb)) ?_
      (try simp only [Act.put, List.setIfInBounds_toArray, List.set_cons_zero, List.set_cons_succ])
      refine wpAnyH_read 1 (v := ?va1) rfl (by kernel_rfl) (by kernel_rfl) (by kernel_rfl) (fun _ _ _ h => hQ _ _ _ _ _ h) hS (Or.inl ⟨by rfl, ?ya1⟩) ?ra1
      case ya1 =>
        intro w hSw
        have p0 := (K2.out w hSw).1
        have p1 := (K2.out w hSw).2.1
        have p2 := (K2.out w hSw).2.2
        go_simp
        (try with_reducible rfl)
      (try simp only [Act.put, List.setIfInBounds_toArray, List.set_cons_zero, List.set_cons_succ])
      refine wpAnyH_read 2 (v := ?va2) rfl (by kernel_rfl) (by kernel_rfl) (by kernel_rfl) (fun _ _ _ h => hQ _ _ _ _ _ h) hS (Or.inl ⟨by rfl, ?ya2⟩) ?ra2
      case ya2 =>
        intro w hSw
        have p0 := (K2.out w hSw).1
        have p1 := (K2.out w hSw).2.1
        have p2 := (K2.out w hSw).2.2
        go_simp
        (try with_reducible rfl)
      (try simp only [Act.put, List.setIfInBounds_toArray, List.set_cons_zero, List.set_cons_succ])
      refine wpAnyH_read 3 (v := ?va3) rfl (by kernel_rfl) (by kernel_rfl) (by kernel_rfl) (fun _ _ _ h => hQ _ _ _ _ _ h) hS (Or.inl ⟨by rfl, ?ya3⟩) ?ra3
      case ya3 =>
        intro w hSw
        have p0 := (K2.out w hSw).1
        have p1 := (K2.out w hSw).2.1
        have p2 := (K2.out w hSw).2.2
        go_simp
        (try with_reducible rfl)
      (try simp only [Act.put, List.setIfInBounds_toArray, List.set_cons_zero, List.set_cons_succ])
      refine wpAnyH_read 4 (v := ?va4) rfl (by kernel_rfl) (by kernel_rfl) (by kernel_rfl) (fun _ _ _ h => hQ _ _ _ _ _ h) hS (Or.inl ⟨by rfl, ?ya4⟩) ?ra4
      case ya4 =>
        intro w hSw
        have p0 := (K2.out w hSw).1
        have p1 := (K2.out w hSw).2.1
        have p2 := (K2.out w hSw).2.2
        go_simp
        (try with_reducible rfl)
      (try simp only [Act.put, List.setIfInBounds_toArray, List.set_cons_zero, List.set_cons_succ])
      refine wpAnyH_call 5 rfl (by kernel_rfl) (fun J hJ => ?_)
      rw [if_pos (by rfl)]
      go_simp
      refine (BK.out z _ (O2.out.trans hS)).mono ?_
      rintro e x5 ⟨sv, rfl, row, nw, p_⟩
      have s5 := hS.trans p_
      clear p_
      rw [FB.out] at row ⊢
      obtain ⟨sa, sc, es⟩ := row.form
      subst es
      simp only [List.length_replicate] at row ⊢
      clear row nw
      refine hJ.out _ _ s5 ?_
      clear hJ J
      (try simp only [Act.put, List.setIfInBounds_toArray, List.set_cons_zero, List.set_cons_succ])
      refine wpAnyH_read 6 (v := ?va5) rfl (by kernel_rfl) (by kernel_rfl) (by kernel_rfl) (fun _ _ _ h => hQ _ _ _ _ _ h) s5 (Or.inl ⟨by rfl, ?ya5⟩) ?ra5
      case ya5 =>
        intro w hSw
        have p0 := (K2.out w hSw).1
        have p1 := (K2.out w hSw).2.1
        have p2 := (K2.out w hSw).2.2
        go_simp
        (try with_reducible rfl)
      (try simp only [Act.put, List.setIfInBounds_toArray, List.set_cons_zero, List.set_cons_succ])
      refine wpAnyH_read 7 (v := ?va6) rfl (by kernel_rfl) (by kernel_rfl) (by kernel_rfl) (fun _ _ _ h => hQ _ _ _ _ _ h) s5 (Or.inl ⟨by rfl, ?ya6⟩) ?ra6
      case ya6 =>
        intro w hSw
        have p0 := (K2.out w hSw).1
        have p1 := (K2.out w hSw).2.1
        have p2 := (K2.out w hSw).2.2
        go_simp
        (try with_reducible rfl)
      (try simp only [Act.put, List.setIfInBounds_toArray, List.set_cons_zero, List.set_cons_succ])
      refine wpAnyH_read 8 (v := ?va7) rfl (by kernel_rfl) (by kernel_rfl) (by kernel_rfl) (fun _ _ _ h => hQ _ _ _ _ _ h) s5 (Or.inl ⟨by rfl, ?ya7⟩) ?ra7
      case ya7 =>
        intro w hSw
        have p0 := (K2.out w hSw).1
        have p1 := (K2.out w hSw).2.1
        have p2 := (K2.out w hSw).2.2
        go_simp
        (try with_reducible rfl)
      (try simp only [Act.put, List.setIfInBounds_toArray, List.set_cons_zero, List.set_cons_succ])
      refine wpAnyH_read 9 (v := ?va8) rfl (by kernel_rfl) (by kernel_rfl) (by kernel_rfl) (fun _ _ _ h => hQ _ _ _ _ _ h) s5 (Or.inl ⟨by rfl, ?ya8⟩) ?ra8
      case ya8 =>
        intro w hSw
        have p0 := (K2.out w hSw).1
        have p1 := (K2.out w hSw).2.1
        have p2 := (K2.out w hSw).2.2
        go_simp
        (try with_reducible rfl)
      (try simp only [Act.put, List.setIfInBounds_toArray, List.set_cons_zero, List.set_cons_succ])
      refine wpAnyH_read 10 (v := ?va9) rfl (by kernel_rfl) (by kernel_rfl) (by kernel_rfl) (fun _ _ _ h => hQ _ _ _ _ _ h) s5 (Or.inl ⟨by rfl, ?ya9⟩) ?ra9
      case ya9 =>
        intro w hSw
        have p0 := (K2.out w hSw).1
        have p1 := (K2.out w hSw).2.1
        have p2 := (K2.out w hSw).2.2
        go_simp
        (try with_reducible rfl)
      (try simp only [Act.put, List.setIfInBounds_toArray, List.set_cons_zero, List.set_cons_succ])
      refine wpAnyH_done (by kernel_rfl) ?_ _
      have O3 := hid (O2.out.trans s5)
      generalize x5 = w3 at *
      clear hS s5
      by_cases i2 : i = 0
      · subst i2
        go_upto_region 10 with fail
        refine wp_region_heldH (fun w' => Only [] w3 w') 30 (by kernel_rfl) rfl (Only.refl [] w3).drew (fun hS => ?_)
        generalize w3.drew = wd3 at *
        refine wpAnyH_read 0 (v := ?va101) rfl (by kernel_rfl) (by kernel_rfl) (by kernel_rfl) (fun _ _ _ h => hQ _ _ _ _ _ h) hS (Or.inl ⟨by rfl, ?ya101⟩) ?ra101
        case ya101 =>
          intro w hSw
          skip
          go_simp
          (try with_reducible rfl)
        (try simp only [Act.put, List.setIfInBounds_toArray, List.set_cons_zero, List.set_cons_succ])
        refine wpAnyH_read 1 (v := ?va102) rfl (by kernel_rfl) (by kernel_rfl) (by kernel_rfl) (fun _ _ _ h => hQ _ _ _ _ _ h) hS (Or.inl ⟨by rfl, ?ya102⟩) ?ra102
        case ya102 =>
          intro w hSw
          skip
          go_simp
          (try with_reducible rfl)
        (try simp only [Act.put, List.setIfInBounds_toArray, List.set_cons_zero, List.set_cons_succ])
        refine wpAnyH_read 2 (v := ?va103) rfl (by kernel_rfl) (by kernel_rfl) (by kernel_rfl) (fun _ _ _ h => hQ _ _ _ _ _ h) hS (Or.inl ⟨by rfl, ?ya103⟩) ?ra103
        case ya103 =>
          intro w hSw
          skip
          go_simp
          (try with_reducible rfl)
        (try simp only [Act.put, List.setIfInBounds_toArray, List.set_cons_zero, List.set_cons_succ])
        refine wpAnyH_read 3 (v := ?va104) rfl (by kernel_rfl) (by kernel_rfl) (by kernel_rfl) (fun _ _ _ h => hQ _ _ _ _ _ h) hS (Or.inl ⟨by rfl, ?ya104⟩) ?ra104
        case ya104 =>
          intro w hSw
          skip
          go_simp
          (try with_reducible rfl)
        (try simp only [Act.put, List.setIfInBounds_toArray, List.set_cons_zero, List.set_cons_succ])
        refine wpAnyH_read 4 (v := ?va105) rfl (by kernel_rfl) (by kernel_rfl) (by kernel_rfl) (fun _ _ _ h => hQ _ _ _ _ _ h) hS (Or.inl ⟨by rfl, ?ya105⟩) ?ra105
        case ya105 =>
          intro w hSw
          skip
          go_simp
          (try with_reducible rfl)
        (try simp only [Act.put, List.setIfInBounds_toArray, List.set_cons_zero, List.set_cons_succ])
        refine wpAnyH_read 5 (v := ?va106) rfl (by kernel_rfl) (by kernel_rfl) (by kernel_rfl) (fun _ _ _ h => hQ _ _ _ _ _ h) hS (Or.inl ⟨by rfl, ?ya106⟩) ?ra106
        case ya106 =>
          intro w hSw
          skip
          go_simp
          (try with_reducible rfl)
        (try simp only [Act.put, List.setIfInBounds_toArray, List.set_cons_zero, List.set_cons_succ])
        refine wpAnyH_read 6 (v := ?va107) rfl (by kernel_rfl) (by kernel_rfl) (by kernel_rfl) (fun _ _ _ h => hQ _ _ _ _ _ h) hS (Or.inl ⟨by rfl, ?ya107⟩) ?ra107
        case ya107 =>
          intro w hSw
          skip
          go_simp
          (try with_reducible rfl)
        (try simp only [Act.put, List.setIfInBounds_toArray, List.set_cons_zero, List.set_cons_succ])
        refine wpAnyH_read 7 (v := ?va108) rfl (by kernel_rfl) (by kernel_rfl) (by kernel_rfl) (fun _ _ _ h => hQ _ _ _ _ _ h) hS (Or.inl ⟨by rfl, ?ya108⟩) ?ra108
        case ya108 =>
          intro w hSw
          skip
          go_simp
          (try with_reducible rfl)
        (try simp only [Act.put, List.setIfInBounds_toArray, List.set_cons_zero, List.set_cons_succ])
        refine wpAnyH_read 8 (v := ?va109) rfl (by kernel_rfl) (by kernel_rfl) (by kernel_rfl) (fun _ _ _ h => hQ _ _ _ _ _ h) hS (Or.inl ⟨by rfl, ?ya109⟩) ?ra109
        case ya109 =>
          intro w hSw
          skip
          go_simp
          (try with_reducible rfl)
        (try simp only [Act.put, List.setIfInBounds_toArray, List.set_cons_zero, List.set_cons_succ])
        refine wpAnyH_read 9 (v := ?va110) rfl (by kernel_rfl) (by kernel_rfl) (by kernel_rfl) (fun _ _ _ h => hQ _ _ _ _ _ h) hS (Or.inl ⟨by rfl, ?ya110⟩) ?ra110
        case ya110 =>
          intro w hSw
          skip
          go_simp
          (try with_reducible rfl)
        (try simp only [Act.put, List.setIfInBounds_toArray, List.set_cons_zero, List.set_cons_succ])
        refine wpAnyH_read 10 (v := ?va111) rfl (by kernel_rfl) (by kernel_rfl) (by kernel_rfl) (fun _ _ _ h => hQ _ _ _ _ _ h) hS (Or.inl ⟨by rfl, ?ya111⟩) ?ra111
        case ya111 =>
          intro w hSw
          skip
          go_simp
          (try with_reducible rfl)
        (try simp only [Act.put, List.setIfInBounds_toArray, List.set_cons_zero, List.set_cons_succ])
        refine wpAnyH_read 11 (v := ?va112) rfl (by kernel_rfl) (by kernel_rfl) (by kernel_rfl) (fun _ _ _ h => hQ _ _ _ _ _ h) hS (Or.inl ⟨by rfl, ?ya112⟩) ?ra112
        case ya112 =>
          intro w hSw
          skip
          go_simp
          (try with_reducible rfl)
        (try simp only [Act.put, List.setIfInBounds_toArray, List.set_cons_zero, List.set_cons_succ])
        refine wpAnyH_read 12 (v := ?va113) rfl (by kernel_rfl) (by kernel_rfl) (by kernel_rfl) (fun _ _ _ h => hQ _ _ _ _ _ h) hS (Or.inl ⟨by rfl, ?ya113⟩) ?ra113
        case ya113 =>
          intro w hSw
          skip
          go_simp
          (try with_reducible rfl)
        (try simp only [Act.put, List.setIfInBounds_toArray, List.set_cons_zero, List.set_cons_succ])
        refine wpAnyH_read 13 (v := ?va114) rfl (by kernel_rfl) (by kernel_rfl) (by kernel_rfl) (fun _ _ _ h => hQ _ _ _ _ _ h) hS (Or.inl ⟨by rfl, ?ya114⟩) ?ra114
        case ya114 =>
          intro w hSw
          skip
          go_simp
          (try with_reducible rfl)
        (try simp only [Act.put, List.setIfInBounds_toArray, List.set_cons_zero, List.set_cons_succ])
        refine wpAnyH_read 14 (v := ?va115) rfl (by kernel_rfl) (by kernel_rfl) (by kernel_rfl) (fun _ _ _ h => hQ _ _ _ _ _ h) hS (Or.inl ⟨by rfl, ?ya115⟩) ?ra115
        case ya115 =>
          intro w hSw
          skip
          go_simp
          (try with_reducible rfl)
        (try simp only [Act.put, List.setIfInBounds_toArray, List.set_cons_zero, List.set_cons_succ])
        refine wpAnyH_read 15 (v := ?va116) rfl (by kernel_rfl) (by kernel_rfl) (by kernel_rfl) (fun _ _ _ h => hQ _ _ _ _ _ h) hS (Or.inl ⟨by rfl, ?ya116⟩) ?ra116
        case ya116 =>
          intro w hSw
          skip
          go_simp
          (try with_reducible rfl)
        (try simp only [Act.put, List.setIfInBounds_toArray, List.set_cons_zero, List.set_cons_succ])
        refine wpAnyH_read 16 (v := undef) rfl (by kernel_rfl) (by kernel_rfl) (by kernel_rfl) (fun _ _ _ h => hQ _ _ _ _ _ h) hS (Or.inr ⟨by rfl, rfl⟩) ?_
        (try simp only [Act.put, List.setIfInBounds_toArray, List.set_cons_zero, List.set_cons_succ])
        refine wpAnyH_read 17 (v := undef) rfl (by kernel_rfl) (by kernel_rfl) (by kernel_rfl) (fun _ _ _ h => hQ _ _ _ _ _ h) hS (Or.inr ⟨by rfl, rfl⟩) ?_
        (try simp only [Act.put, List.setIfInBounds_toArray, List.set_cons_zero, List.set_cons_succ])
        refine wpAnyH_read 18 (v := undef) rfl (by kernel_rfl) (by kernel_rfl) (by kernel_rfl) (fun _ _ _ h => hQ _ _ _ _ _ h) hS (Or.inr ⟨by rfl, rfl⟩) ?_
        (try simp only [Act.put, List.setIfInBounds_toArray, List.set_cons_zero, List.set_cons_succ])
        refine wpAnyH_read 19 (v := undef) rfl (by kernel_rfl) (by kernel_rfl) (by kernel_rfl) (fun _ _ _ h => hQ _ _ _ _ _ h) hS (Or.inr ⟨by rfl, rfl⟩) ?_
        (try simp only [Act.put, List.setIfInBounds_toArray, List.set_cons_zero, List.set_cons_succ])
        refine wpAnyH_read 20 (v := undef) rfl (by kernel_rfl) (by kernel_rfl) (by kernel_rfl) (fun _ _ _ h => hQ _ _ _ _ _ h) hS (Or.inr ⟨by rfl, rfl⟩) ?_
        (try simp only [Act.put, List.setIfInBounds_toArray, List.set_cons_zero, List.set_cons_succ])
        refine wpAnyH_read 21 (v := undef) rfl (by kernel_rfl) (by kernel_rfl) (by kernel_rfl) (fun _ _ _ h => hQ _ _ _ _ _ h) hS (Or.inr ⟨by rfl, rfl⟩) ?_
        (try simp only [Act.put, List.setIfInBounds_toArray, List.set_cons_zero, List.set_cons_succ])
        refine wpAnyH_read 22 (v := undef) rfl (by kernel_rfl) (by kernel_rfl) (by kernel_rfl) (fun _ _ _ h => hQ _ _ _ _ _ h) hS (Or.inr ⟨by rfl, rfl⟩) ?_
        (try simp only [Act.put, List.setIfInBounds_toArray, List.set_cons_zero, List.set_cons_succ])
        refine wpAnyH_read 23 (v := undef) rfl (by kernel_rfl) (by kernel_rfl) (by kernel_rfl) (fun _ _ _ h => hQ _ _ _ _ _ h) hS (Or.inr ⟨by rfl, rfl⟩) ?_
        (try simp only [Act.put, List.setIfInBounds_toArray, List.set_cons_zero, List.set_cons_succ])
        refine wpAnyH_read 24 (v := undef) rfl (by kernel_rfl) (by kernel_rfl) (by kernel_rfl) (fun _ _ _ h => hQ _ _ _ _ _ h) hS (Or.inr ⟨by rfl, rfl⟩) ?_
        (try simp only [Act.put, List.setIfInBounds_toArray, List.set_cons_zero, List.set_cons_succ])
        refine wpAnyH_read 25 (v := undef) rfl (by kernel_rfl) (by kernel_rfl) (by kernel_rfl) (fun _ _ _ h => hQ _ _ _ _ _ h) hS (Or.inr ⟨by rfl, rfl⟩) ?_
        (try simp only [Act.put, List.setIfInBounds_toArray, List.set_cons_zero, List.set_cons_succ])
        refine wpAnyH_read 26 (v := undef) rfl (by kernel_rfl) (by kernel_rfl) (by kernel_rfl) (fun _ _ _ h => hQ _ _ _ _ _ h) hS (Or.inr ⟨by rfl, rfl⟩) ?_
        (try simp only [Act.put, List.setIfInBounds_toArray, List.set_cons_zero, List.set_cons_succ])
        refine wpAnyH_read 27 (v := undef) rfl (by kernel_rfl) (by kernel_rfl) (by kernel_rfl) (fun _ _ _ h => hQ _ _ _ _ _ h) hS (Or.inr ⟨by rfl, rfl⟩) ?_
        (try simp only [Act.put, List.setIfInBounds_toArray, List.set_cons_zero, List.set_cons_succ])
        refine wpAnyH_read 28 (v := ?va129) rfl (by kernel_rfl) (by kernel_rfl) (by kernel_rfl) (fun _ _ _ h => hQ _ _ _ _ _ h) hS (Or.inl ⟨by rfl, ?ya129⟩) ?ra129
        case ya129 =>
          intro w hSw
          skip
          go_simp
          (try with_reducible rfl)
        (try simp only [Act.put, List.setIfInBounds_toArray, List.set_cons_zero, List.set_cons_succ])
        refine wpAnyH_read 29 (v := ?va130) rfl (by kernel_rfl) (by kernel_rfl) (by kernel_rfl) (fun _ _ _ h => hQ _ _ _ _ _ h) hS (Or.inl ⟨by rfl, ?ya130⟩) ?ra130
        case ya130 =>
          intro w hSw
          skip
          go_simp
          (try with_reducible rfl)
        (try simp only [Act.put, List.setIfInBounds_toArray, List.set_cons_zero, List.set_cons_succ])
        refine wpAnyH_done (by kernel_rfl) ?_ _
        go_upto_region 13 with fail
        have O4 := hid (O3.out.trans hS)
        clear hS
        go_loopg [14] 0 (fun g t w' => g = 0 ∧ t = .int .i64 0 ∧ Only [] w w')
        case atStart => exact ⟨rfl, rfl, O4.out⟩
        case round =>
          obtain ⟨rfl, rfl, hO5⟩ := hrel
          have O5 := hid hO5
          clear hO5
          go_wp2_with fail
          go_roundg gg
          case measure => omega
          case rel => exact ⟨0 + 1, IN.out, by go_num, O5.out⟩
      · obtain ⟨i', rfl⟩ : ∃ i', i = i' + 1 := ⟨i - 1, by omega⟩
        obtain ⟨z', hz'⟩ : ∃ z', L[i']? = some z' := ⟨_, List.getElem?_eq_getElem (by have := HN.out; omega)⟩
        obtain ⟨yb', yo', e, KZ'⟩ := LC.out i' z' hz'
        obtain ⟨rfl, rfl⟩ : yb = yb' ∧ yo = yo' := by simpa using e
        have i0' : (0 : Int) ≤ (i' : Int) + 1 := by omega
        have i1' : (i' : Int) + 1 < (n : Int) := by omega
        have i2' : (0 : Int) ≤ (i' : Int) := by omega
        have i3' : (i' : Int) < (n : Int) := by omega
        have wi' : IntKind.i64.wrap (i' : Int) = (i' : Int) := IntWalk.i64_in _ (by omega)
        have i4' : (0 : Int) < (i' : Int) + 1 := by omega
        have le := (apart_ij L LPP.out.a i' (i' + 1) z' z (by omega) hz' HZ.out).2
        have K3 := hid (fun w' (o : Only [] w3 w') => (KZ.out w' (O3.out.trans o)).1)
        have K4 := hid (fun w' (o : Only [] w3 w') => (KZ' w' (O3.out.trans o)).1)
        have dle : decide (z.1 < z'.1) = false := decide_eq_false (by omega)
        clear hz' KZ' e i2
        go_upto_region 10 with fail
        refine wp_region_heldH (fun w' => Only [] w3 w') 30 (by kernel_rfl) rfl (Only.refl [] w3).drew (fun hS => ?_)
        generalize w3.drew = wd3 at *
        refine wpAnyH_read 0 (v := ?va201) rfl (by kernel_rfl) (by kernel_rfl) (by kernel_rfl) (fun _ _ _ h => hQ _ _ _ _ _ h) hS (Or.inl ⟨by rfl, ?ya201⟩) ?ra201
        case ya201 =>
          intro w hSw
          have p0 := K3.out w hSw
          have p1 := K4.out w hSw
          go_simp
          (try with_reducible rfl)
        (try simp only [Act.put, List.setIfInBounds_toArray, List.set_cons_zero, List.set_cons_succ])
        refine wpAnyH_read 1 (v := ?va202) rfl (by kernel_rfl) (by kernel_rfl) (by kernel_rfl) (fun _ _ _ h => hQ _ _ _ _ _ h) hS (Or.inl ⟨by rfl, ?ya202⟩) ?ra202
        case ya202 =>
          intro w hSw
          have p0 := K3.out w hSw
          have p1 := K4.out w hSw
          go_simp
          (try with_reducible rfl)
        (try simp only [Act.put, List.setIfInBounds_toArray, List.set_cons_zero, List.set_cons_succ])
        refine wpAnyH_read 2 (v := ?va203) rfl (by kernel_rfl) (by kernel_rfl) (by kernel_rfl) (fun _ _ _ h => hQ _ _ _ _ _ h) hS (Or.inl ⟨by rfl, ?ya203⟩) ?ra203
        case ya203 =>
          intro w hSw
          have p0 := K3.out w hSw
          have p1 := K4.out w hSw
          go_simp
          (try with_reducible rfl)
        (try simp only [Act.put, List.setIfInBounds_toArray, List.set_cons_zero, List.set_cons_succ])
        refine wpAnyH_read 3 (v := ?va204) rfl (by kernel_rfl) (by kernel_rfl) (by kernel_rfl) (fun _ _ _ h => hQ _ _ _ _ _ h) hS (Or.inl ⟨by rfl, ?ya204⟩) ?ra204
        case ya204 =>
          intro w hSw
          have p0 := K3.out w hSw
          have p1 := K4.out w hSw
          go_simp
          (try with_reducible rfl)
        (try simp only [Act.put, List.setIfInBounds_toArray, List.set_cons_zero, List.set_cons_succ])
        refine wpAnyH_read 4 (v := ?va205) rfl (by kernel_rfl) (by kernel_rfl) (by kernel_rfl) (fun _ _ _ h => hQ _ _ _ _ _ h) hS (Or.inl ⟨by rfl, ?ya205⟩) ?ra205
        case ya205 =>
          intro w hSw
          have p0 := K3.out w hSw
          have p1 := K4.out w hSw
          go_simp
          (try with_reducible rfl)
        (try simp only [Act.put, List.setIfInBounds_toArray, List.set_cons_zero, List.set_cons_succ])
        refine wpAnyH_read 5 (v := ?va206) rfl (by kernel_rfl) (by kernel_rfl) (by kernel_rfl) (fun _ _ _ h => hQ _ _ _ _ _ h) hS (Or.inl ⟨by rfl, ?ya206⟩) ?ra206
        case ya206 =>
          intro w hSw
          have p0 := K3.out w hSw
          have p1 := K4.out w hSw
          go_simp
          (try with_reducible rfl)
        (try simp only [Act.put, List.setIfInBounds_toArray, List.set_cons_zero, List.set_cons_succ])
        refine wpAnyH_read 6 (v := ?va207) rfl (by kernel_rfl) (by kernel_rfl) (by kernel_rfl) (fun _ _ _ h => hQ _ _ _ _ _ h) hS (Or.inl ⟨by rfl, ?ya207⟩) ?ra207
        case ya207 =>
          intro w hSw
          have p0 := K3.out w hSw
          have p1 := K4.out w hSw
          go_simp
          (try with_reducible rfl)
        (try simp only [Act.put, List.setIfInBounds_toArray, List.set_cons_zero, List.set_cons_succ])
        refine wpAnyH_read 7 (v := ?va208) rfl (by kernel_rfl) (by kernel_rfl) (by kernel_rfl) (fun _ _ _ h => hQ _ _ _ _ _ h) hS (Or.inl ⟨by rfl, ?ya208⟩) ?ra208
        case ya208 =>
          intro w hSw
          have p0 := K3.out w hSw
          have p1 := K4.out w hSw
          go_simp
          (try with_reducible rfl)
        (try simp only [Act.put, List.setIfInBounds_toArray, List.set_cons_zero, List.set_cons_succ])
        refine wpAnyH_read 8 (v := ?va209) rfl (by kernel_rfl) (by kernel_rfl) (by kernel_rfl) (fun _ _ _ h => hQ _ _ _ _ _ h) hS (Or.inl ⟨by rfl, ?ya209⟩) ?ra209
        case ya209 =>
          intro w hSw
          have p0 := K3.out w hSw
          have p1 := K4.out w hSw
          go_simp
          (try with_reducible rfl)
        (try simp only [Act.put, List.setIfInBounds_toArray, List.set_cons_zero, List.set_cons_succ])
        refine wpAnyH_read 9 (v := ?va210) rfl (by kernel_rfl) (by kernel_rfl) (by kernel_rfl) (fun _ _ _ h => hQ _ _ _ _ _ h) hS (Or.inl ⟨by rfl, ?ya210⟩) ?ra210
        case ya210 =>
          intro w hSw
          have p0 := K3.out w hSw
          have p1 := K4.out w hSw
          go_simp
          (try with_reducible rfl)
        (try simp only [Act.put, List.setIfInBounds_toArray, List.set_cons_zero, List.set_cons_succ])
        refine wpAnyH_read 10 (v := ?va211) rfl (by kernel_rfl) (by kernel_rfl) (by kernel_rfl) (fun _ _ _ h => hQ _ _ _ _ _ h) hS (Or.inl ⟨by rfl, ?ya211⟩) ?ra211
        case ya211 =>
          intro w hSw
          have p0 := K3.out w hSw
          have p1 := K4.out w hSw
          go_simp
          (try with_reducible rfl)
        (try simp only [Act.put, List.setIfInBounds_toArray, List.set_cons_zero, List.set_cons_succ])
        refine wpAnyH_read 11 (v := ?va212) rfl (by kernel_rfl) (by kernel_rfl) (by kernel_rfl) (fun _ _ _ h => hQ _ _ _ _ _ h) hS (Or.inl ⟨by rfl, ?ya212⟩) ?ra212
        case ya212 =>
          intro w hSw
          have p0 := K3.out w hSw
          have p1 := K4.out w hSw
          go_simp
          (try with_reducible rfl)
        (try simp only [Act.put, List.setIfInBounds_toArray, List.set_cons_zero, List.set_cons_succ])
        refine wpAnyH_read 12 (v := ?va213) rfl (by kernel_rfl) (by kernel_rfl) (by kernel_rfl) (fun _ _ _ h => hQ _ _ _ _ _ h) hS (Or.inl ⟨by rfl, ?ya213⟩) ?ra213
        case ya213 =>
          intro w hSw
          have p0 := K3.out w hSw
          have p1 := K4.out w hSw
          go_simp
          (try with_reducible rfl)
        (try simp only [Act.put, List.setIfInBounds_toArray, List.set_cons_zero, List.set_cons_succ])
        refine wpAnyH_read 13 (v := ?va214) rfl (by kernel_rfl) (by kernel_rfl) (by kernel_rfl) (fun _ _ _ h => hQ _ _ _ _ _ h) hS (Or.inl ⟨by rfl, ?ya214⟩) ?ra214
        case ya214 =>
          intro w hSw
          have p0 := K3.out w hSw
          have p1 := K4.out w hSw
          go_simp
          (try with_reducible rfl)
        (try simp only [Act.put, List.setIfInBounds_toArray, List.set_cons_zero, List.set_cons_succ])
        refine wpAnyH_read 14 (v := ?va215) rfl (by kernel_rfl) (by kernel_rfl) (by kernel_rfl) (fun _ _ _ h => hQ _ _ _ _ _ h) hS (Or.inl ⟨by rfl, ?ya215⟩) ?ra215
        case ya215 =>
          intro w hSw
          have p0 := K3.out w hSw
          have p1 := K4.out w hSw
          go_simp
          (try with_reducible rfl)
        (try simp only [Act.put, List.setIfInBounds_toArray, List.set_cons_zero, List.set_cons_succ])
        refine wpAnyH_read 15 (v := ?va216) rfl (by kernel_rfl) (by kernel_rfl) (by kernel_rfl) (fun _ _ _ h => hQ _ _ _ _ _ h) hS (Or.inl ⟨by rfl, ?ya216⟩) ?ra216
        case ya216 =>
          intro w hSw
          have p0 := K3.out w hSw
          have p1 := K4.out w hSw
          go_simp
          (try with_reducible rfl)
        (try simp only [Act.put, List.setIfInBounds_toArray, List.set_cons_zero, List.set_cons_succ])
        refine wpAnyH_read 16 (v := ?va217) rfl (by kernel_rfl) (by kernel_rfl) (by kernel_rfl) (fun _ _ _ h => hQ _ _ _ _ _ h) hS (Or.inl ⟨by rfl, ?ya217⟩) ?ra217
        case ya217 =>
          intro w hSw
          have p0 := K3.out w hSw
          have p1 := K4.out w hSw
          go_simp
          (try with_reducible rfl)
        (try simp only [Act.put, List.setIfInBounds_toArray, List.set_cons_zero, List.set_cons_succ])
        refine wpAnyH_read 17 (v := ?va218) rfl (by kernel_rfl) (by kernel_rfl) (by kernel_rfl) (fun _ _ _ h => hQ _ _ _ _ _ h) hS (Or.inl ⟨by rfl, ?ya218⟩) ?ra218
        case ya218 =>
          intro w hSw
          have p0 := K3.out w hSw
          have p1 := K4.out w hSw
          go_simp
          (try with_reducible rfl)
        (try simp only [Act.put, List.setIfInBounds_toArray, List.set_cons_zero, List.set_cons_succ])
        refine wpAnyH_read 18 (v := ?va219) rfl (by kernel_rfl) (by kernel_rfl) (by kernel_rfl) (fun _ _ _ h => hQ _ _ _ _ _ h) hS (Or.inl ⟨by rfl, ?ya219⟩) ?ra219
        case ya219 =>
          intro w hSw
          have p0 := K3.out w hSw
          have p1 := K4.out w hSw
          go_simp
          (try with_reducible rfl)
        (try simp only [Act.put, List.setIfInBounds_toArray, List.set_cons_zero, List.set_cons_succ])
        refine wpAnyH_read 19 (v := ?va220) rfl (by kernel_rfl) (by kernel_rfl) (by kernel_rfl) (fun _ _ _ h => hQ _ _ _ _ _ h) hS (Or.inl ⟨by rfl, ?ya220⟩) ?ra220
        case ya220 =>
          intro w hSw
          have p0 := K3.out w hSw
          have p1 := K4.out w hSw
          go_simp
          (try with_reducible rfl)
        (try simp only [Act.put, List.setIfInBounds_toArray, List.set_cons_zero, List.set_cons_succ])
        refine wpAnyH_read 20 (v := ?va221) rfl (by kernel_rfl) (by kernel_rfl) (by kernel_rfl) (fun _ _ _ h => hQ _ _ _ _ _ h) hS (Or.inl ⟨by rfl, ?ya221⟩) ?ra221
        case ya221 =>
          intro w hSw
          have p0 := K3.out w hSw
          have p1 := K4.out w hSw
          go_simp
          (try with_reducible rfl)
        (try simp only [Act.put, List.setIfInBounds_toArray, List.set_cons_zero, List.set_cons_succ])
        refine wpAnyH_read 21 (v := ?va222) rfl (by kernel_rfl) (by kernel_rfl) (by kernel_rfl) (fun _ _ _ h => hQ _ _ _ _ _ h) hS (Or.inl ⟨by rfl, ?ya222⟩) ?ra222
        case ya222 =>
          intro w hSw
          have p0 := K3.out w hSw
          have p1 := K4.out w hSw
          go_simp
          (try with_reducible rfl)
        (try simp only [Act.put, List.setIfInBounds_toArray, List.set_cons_zero, List.set_cons_succ])
        refine wpAnyH_read 22 (v := ?va223) rfl (by kernel_rfl) (by kernel_rfl) (by kernel_rfl) (fun _ _ _ h => hQ _ _ _ _ _ h) hS (Or.inl ⟨by rfl, ?ya223⟩) ?ra223
        case ya223 =>
          intro w hSw
          have p0 := K3.out w hSw
          have p1 := K4.out w hSw
          go_simp
          (try with_reducible rfl)
        (try simp only [Act.put, List.setIfInBounds_toArray, List.set_cons_zero, List.set_cons_succ])
        refine wpAnyH_read 23 (v := ?va224) rfl (by kernel_rfl) (by kernel_rfl) (by kernel_rfl) (fun _ _ _ h => hQ _ _ _ _ _ h) hS (Or.inl ⟨by rfl, ?ya224⟩) ?ra224
        case ya224 =>
          intro w hSw
          have p0 := K3.out w hSw
          have p1 := K4.out w hSw
          go_simp
          (try with_reducible rfl)
        (try simp only [Act.put, List.setIfInBounds_toArray, List.set_cons_zero, List.set_cons_succ])
        refine wpAnyH_read 24 (v := ?va225) rfl (by kernel_rfl) (by kernel_rfl) (by kernel_rfl) (fun _ _ _ h => hQ _ _ _ _ _ h) hS (Or.inl ⟨by rfl, ?ya225⟩) ?ra225
        case ya225 =>
          intro w hSw
          have p0 := K3.out w hSw
          have p1 := K4.out w hSw
          go_simp
          (try with_reducible rfl)
        (try simp only [Act.put, List.setIfInBounds_toArray, List.set_cons_zero, List.set_cons_succ])
        refine wpAnyH_read 25 (v := ?va226) rfl (by kernel_rfl) (by kernel_rfl) (by kernel_rfl) (fun _ _ _ h => hQ _ _ _ _ _ h) hS (Or.inl ⟨by rfl, ?ya226⟩) ?ra226
        case ya226 =>
          intro w hSw
          have p0 := K3.out w hSw
          have p1 := K4.out w hSw
          go_simp
          (try with_reducible rfl)
        (try simp only [Act.put, List.setIfInBounds_toArray, List.set_cons_zero, List.set_cons_succ])
        refine wpAnyH_read 26 (v := ?va227) rfl (by kernel_rfl) (by kernel_rfl) (by kernel_rfl) (fun _ _ _ h => hQ _ _ _ _ _ h) hS (Or.inl ⟨by rfl, ?ya227⟩) ?ra227
        case ya227 =>
          intro w hSw
          have p0 := K3.out w hSw
          have p1 := K4.out w hSw
          go_simp
          (try with_reducible rfl)
        (try simp only [Act.put, List.setIfInBounds_toArray, List.set_cons_zero, List.set_cons_succ])
        refine wpAnyH_read 27 (v := ?va228) rfl (by kernel_rfl) (by kernel_rfl) (by kernel_rfl) (fun _ _ _ h => hQ _ _ _ _ _ h) hS (Or.inl ⟨by rfl, ?ya228⟩) ?ra228
        case ya228 =>
          intro w hSw
          have p0 := K3.out w hSw
          have p1 := K4.out w hSw
          go_simp
          (try with_reducible rfl)
        (try simp only [Act.put, List.setIfInBounds_toArray, List.set_cons_zero, List.set_cons_succ])
        refine wpAnyH_read 28 (v := ?va229) rfl (by kernel_rfl) (by kernel_rfl) (by kernel_rfl) (fun _ _ _ h => hQ _ _ _ _ _ h) hS (Or.inl ⟨by rfl, ?ya229⟩) ?ra229
        case ya229 =>
          intro w hSw
          have p0 := K3.out w hSw
          have p1 := K4.out w hSw
          go_simp
          (try with_reducible rfl)
        (try simp only [Act.put, List.setIfInBounds_toArray, List.set_cons_zero, List.set_cons_succ])
        refine wpAnyH_read 29 (v := ?va230) rfl (by kernel_rfl) (by kernel_rfl) (by kernel_rfl) (fun _ _ _ h => hQ _ _ _ _ _ h) hS (Or.inl ⟨by rfl, ?ya230⟩) ?ra230
        case ya230 =>
          intro w hSw
          have p0 := K3.out w hSw
          have p1 := K4.out w hSw
          go_simp
          (try with_reducible rfl)
        (try simp only [Act.put, List.setIfInBounds_toArray, List.set_cons_zero, List.set_cons_succ])
        refine wpAnyH_done (by kernel_rfl) ?_ _
        go_upto_region 13 with fail
        have O4 := hid (O3.out.trans hS)
        clear hS le dle K3 K4
        go_loopg [14] (i' + 1) (fun g t w' => ∃ j : Nat, j + g = i' + 1 ∧ t = .int .i64 j ∧ Only [] w w')
        case atStart => exact ⟨0, by omega, rfl, O4.out⟩
        case round =>
          obtain ⟨j, hj, rfl, hO5⟩ := hrel
          have O5 := hid hO5
          have j0 : (0 : Int) ≤ (j : Int) := by omega
          clear hO5
          by_cases hg : gk = 0
          · have j1 : ¬ (j : Int) < (i' : Int) + 1 := by omega
            clear hj hg
            go_wp2_with fail
            go_roundg gg
            case measure => omega
            case rel => exact ⟨i' + 1 + 1, IN.out, by go_num, O5.out⟩
          · obtain ⟨g2, rfl⟩ : ∃ gg, gk = gg + 1 := ⟨gk - 1, by omega⟩
            have JN := hid (show j + 1 + g2 = i' + 1 by omega)
            have j1 : (j : Int) < (i' : Int) + 1 := by omega
            have j2 : (j : Int) < (n : Int) := by omega
            obtain ⟨y, hy⟩ : ∃ y, L[j]? = some y := ⟨_, List.getElem?_eq_getElem (by have := HN.out; omega)⟩
            obtain ⟨yb', yo', e, KY⟩ := LC.out j y hy
            obtain ⟨rfl, rfl⟩ : yb = yb' ∧ yo = yo' := by simpa using e
            have ne := (apart_ij L LPP.out.a j (i' + 1) y z (by omega) hy HZ.out).1
            have dne : decide (z = y) = false := decide_eq_false (fun h => ne h.symm)
            have K5 := hid (fun w' (o : Only [] wr w') => KZ.out w' (O5.out.trans o))
            have K6 := hid (fun w' (o : Only [] wr w') => KY w' (O5.out.trans o))
            clear hj hg hy KY e ne
            go_upto_region 15 with fail
            refine wp_region_heldH (fun w' => Only [] wr w') 9 (by kernel_rfl) rfl (Only.refl [] wr).drew (fun hS => ?_)
            generalize wr.drew = wdb at *
            refine wpAnyH_read 0 (v := ?va301) rfl (by kernel_rfl) (by kernel_rfl) (by kernel_rfl) (fun _ _ _ h => hQ _ _ _ _ _ h) hS (Or.inl ⟨by rfl, ?ya301⟩) ?ra301
            case ya301 =>
              intro w hSw
              have p0 := (K5.out w hSw).1
              have p1 := (K5.out w hSw).2.1
              have p2 := (K5.out w hSw).2.2
              have r0 := (K6.out w hSw).1
              have r1 := (K6.out w hSw).2.1
              have r2 := (K6.out w hSw).2.2
              go_simp
              (try with_reducible rfl)
            (try simp only [Act.put, List.setIfInBounds_toArray, List.set_cons_zero, List.set_cons_succ])
            refine wpAnyH_read 1 (v := ?va302) rfl (by kernel_rfl) (by kernel_rfl) (by kernel_rfl) (fun _ _ _ h => hQ _ _ _ _ _ h) hS (Or.inl ⟨by rfl, ?ya302⟩) ?ra302
            case ya302 =>
              intro w hSw
              have p0 := (K5.out w hSw).1
              have p1 := (K5.out w hSw).2.1
              have p2 := (K5.out w hSw).2.2
              have r0 := (K6.out w hSw).1
              have r1 := (K6.out w hSw).2.1
              have r2 := (K6.out w hSw).2.2
              go_simp
              (try with_reducible rfl)
            (try simp only [Act.put, List.setIfInBounds_toArray, List.set_cons_zero, List.set_cons_succ])
            refine wpAnyH_read 2 (v := ?va303) rfl (by kernel_rfl) (by kernel_rfl) (by kernel_rfl) (fun _ _ _ h => hQ _ _ _ _ _ h) hS (Or.inl ⟨by rfl, ?ya303⟩) ?ra303
            case ya303 =>
              intro w hSw
              have p0 := (K5.out w hSw).1
              have p1 := (K5.out w hSw).2.1
              have p2 := (K5.out w hSw).2.2
              have r0 := (K6.out w hSw).1
              have r1 := (K6.out w hSw).2.1
              have r2 := (K6.out w hSw).2.2
              go_simp
              (try with_reducible rfl)
            (try simp only [Act.put, List.setIfInBounds_toArray, List.set_cons_zero, List.set_cons_succ])
            refine wpAnyH_read 3 (v := ?va304) rfl (by kernel_rfl) (by kernel_rfl) (by kernel_rfl) (fun _ _ _ h => hQ _ _ _ _ _ h) hS (Or.inl ⟨by rfl, ?ya304⟩) ?ra304
            case ya304 =>
              intro w hSw
              have p0 := (K5.out w hSw).1
              have p1 := (K5.out w hSw).2.1
              have p2 := (K5.out w hSw).2.2
              have r0 := (K6.out w hSw).1
              have r1 := (K6.out w hSw).2.1
              have r2 := (K6.out w hSw).2.2
              go_simp
              (try with_reducible rfl)
            (try simp only [Act.put, List.setIfInBounds_toArray, List.set_cons_zero, List.set_cons_succ])
            refine wpAnyH_read 4 (v := ?va305) rfl (by kernel_rfl) (by kernel_rfl) (by kernel_rfl) (fun _ _ _ h => hQ _ _ _ _ _ h) hS (Or.inl ⟨by rfl, ?ya305⟩) ?ra305
            case ya305 =>
              intro w hSw
              have p0 := (K5.out w hSw).1
              have p1 := (K5.out w hSw).2.1
              have p2 := (K5.out w hSw).2.2
              have r0 := (K6.out w hSw).1
              have r1 := (K6.out w hSw).2.1
              have r2 := (K6.out w hSw).2.2
              go_simp
              (try with_reducible rfl)
            (try simp only [Act.put, List.setIfInBounds_toArray, List.set_cons_zero, List.set_cons_succ])
            refine wpAnyH_read 5 (v := ?va306) rfl (by kernel_rfl) (by kernel_rfl) (by kernel_rfl) (fun _ _ _ h => hQ _ _ _ _ _ h) hS (Or.inl ⟨by rfl, ?ya306⟩) ?ra306
            case ya306 =>
              intro w hSw
              have p0 := (K5.out w hSw).1
              have p1 := (K5.out w hSw).2.1
              have p2 := (K5.out w hSw).2.2
              have r0 := (K6.out w hSw).1
              have r1 := (K6.out w hSw).2.1
              have r2 := (K6.out w hSw).2.2
              go_simp
              (try with_reducible rfl)
            (try simp only [Act.put, List.setIfInBounds_toArray, List.set_cons_zero, List.set_cons_succ])
            refine wpAnyH_read 6 (v := ?va307) rfl (by kernel_rfl) (by kernel_rfl) (by kernel_rfl) (fun _ _ _ h => hQ _ _ _ _ _ h) hS (Or.inl ⟨by rfl, ?ya307⟩) ?ra307
            case ya307 =>
              intro w hSw
              have p0 := (K5.out w hSw).1
              have p1 := (K5.out w hSw).2.1
              have p2 := (K5.out w hSw).2.2
              have r0 := (K6.out w hSw).1
              have r1 := (K6.out w hSw).2.1
              have r2 := (K6.out w hSw).2.2
              go_simp
              (try with_reducible rfl)
            (try simp only [Act.put, List.setIfInBounds_toArray, List.set_cons_zero, List.set_cons_succ])
            refine wpAnyH_read 7 (v := ?va308) rfl (by kernel_rfl) (by kernel_rfl) (by kernel_rfl) (fun _ _ _ h => hQ _ _ _ _ _ h) hS (Or.inl ⟨by rfl, ?ya308⟩) ?ra308
            case ya308 =>
              intro w hSw
              have p0 := (K5.out w hSw).1
              have p1 := (K5.out w hSw).2.1
              have p2 := (K5.out w hSw).2.2
              have r0 := (K6.out w hSw).1
              have r1 := (K6.out w hSw).2.1
              have r2 := (K6.out w hSw).2.2
              go_simp
              (try with_reducible rfl)
            (try simp only [Act.put, List.setIfInBounds_toArray, List.set_cons_zero, List.set_cons_succ])
            refine wpAnyH_read 8 (v := .bool false) rfl (by kernel_rfl) (by kernel_rfl) (by kernel_rfl) (fun _ _ _ h => hQ _ _ _ _ _ h) hS (Or.inl ⟨by rfl, ?ye⟩) ?re
            case ye =>
              intro w hSw
              go_simp
              exact fun h1 h2 h3 => absurd (Prod.ext h1 (Prod.ext h2 h3)) (of_decide_eq_false dne)
            (try simp only [Act.put, List.setIfInBounds_toArray, List.set_cons_zero, List.set_cons_succ])
            refine wpAnyH_done (by kernel_rfl) ?_ _
            have O6 := hid (O5.out.trans hS)
            clear hS dne
            go_wp2_with fail
            go_roundg g2
            case measure => omega
            case rel => exact ⟨j + 1, JN.out, by go_num, O6.out⟩
end Go.Proofs.YtpmmnjeomdjakaaDoor

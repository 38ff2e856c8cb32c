/- Plain: Refs and Mvds (the other kinds). -/
import Derived.Test.YtpmmnjeomdjakaaDoorMmb20
namespace Go.Proofs.YtpmmnjeomdjakaaDoor
open Go.RowKit
set_option linter.unusedVariables false
set_option linter.unusedSimpArgs false

set_option maxRecDepth 1000000 in
set_option maxHeartbeats 8000000 in
theorem pl_refs4 (rest : Code) (Q : Exit → Act → World → Prop) (hQ : ∀ c (a : Act) d v w, Q (.panic c) (a.put (some d) v) w → Q (.panic c) a w) (C : Int) (q : Nat) (w : World) (h0 : TwoR w w q (mC (smallM (4, 0, C)) N0 N0 N0).toArray N0 N0 [] []) (u0 u1 u2 u3 u4 u6 u7 u8 u9 u10 u11 u12 u13 u14 u15 u16 u17 u18 u19 u20 u21 u22 u23 u24 u25 u26 u27 u28 u29 u30 u31 u32 u33 u34 u35 u36 u37 u38 u39 u40 u41 u42 u43 u44 u45 u46 u47 u48 u49 u50 u51 u52 u53 u54 u55 u56 u57 u58 u59 u60 u61 u62 u63 u64 u65 u66 u67 u68 u69 u70 u71 u72 u73 u74 u75 u76 u77 u78 u79 u80 u81 u82 u83 u84 u85 u86 u87 u88 : Value)
    (hr : ∀ (w' : World) (rv vv : Value) (v6 v32 v33 v34 v35 v36 v37 v38 v39 v40 v41 v42 v43 v44 v45 v46 v47 v48 v49 v50 v51 v52 v53 v54 v55 v56 v57 : Value), TwoR w w' q (mC (smallM (4, 0, C)) rv vv N0).toArray rv vv (List.replicate 2 0) (List.replicate 2 (0, 0)) → rest.wp Tryd.prog Q ⟨#[u0, u1, u2, u3, u4, .pointer (some ⟨q, 0, none⟩), v6, u7, u8, u9, u10, u11, u12, u13, u14, u15, u16, u17, u18, u19, u20, u21, u22, u23, u24, u25, u26, u27, u28, u29, u30, u31, v32, v33, v34, v35, v36, v37, v38, v39, v40, v41, v42, v43, v44, v45, v46, v47, v48, v49, v50, v51, v52, v53, v54, v55, v56, v57, u58, u59, u60, u61, u62, u63, u64, u65, u66, u67, u68, u69, u70, u71, u72, u73, u74, u75, u76, u77, u78, u79, u80, u81, u82, u83, u84, u85, u86, u87, u88], []⟩ w') :
    (endWith 1 (dropSeq 3 plB) rest).wp Tryd.prog Q ⟨#[u0, u1, u2, u3, u4, .pointer (some ⟨q, 0, none⟩), u6, u7, u8, u9, u10, u11, u12, u13, u14, u15, u16, u17, u18, u19, u20, u21, u22, u23, u24, u25, u26, u27, u28, u29, u30, u31, u32, u33, u34, u35, u36, u37, u38, u39, u40, u41, u42, u43, u44, u45, u46, u47, u48, u49, u50, u51, u52, u53, u54, u55, u56, u57, u58, u59, u60, u61, u62, u63, u64, u65, u66, u67, u68, u69, u70, u71, u72, u73, u74, u75, u76, u77, u78, u79, u80, u81, u82, u83, u84, u85, u86, u87, u88], []⟩ w := by
  conv => arg 2; whnf; arg 2; whnf
  have HR := hid hr
  clear hr
  have H0 := hid h0
  clear h0
  go_wp2_with fail
  go_loopg [6] 2 (fun g t wr => ∃ (i : Nat) (rv vv : Value), i + g = 2 ∧ t = .int .i64 i ∧ TwoR w wr q (mC (smallM (4, 0, C)) rv vv N0).toArray rv vv (List.replicate i 0) (List.replicate i (0, 0)))
  case atStart => exact ⟨0, N0, N0, by omega, rfl, H0.out⟩
  case round =>
    obtain ⟨i, rv, vv, hi, rfl, hH⟩ := hrel
    have H := hid hH
    have m0 := hH.b.cell (i := 0) (v := .int .u8 4) rfl
    have m1 : (wr.alloc (.cells #[.int .i64 1, .int .i64 2, .int .i64 2, .int .i64 4] 3)).cell? ⟨q, 0, none⟩ = some (.int .u8 4) := (hH.step ((Only.refl [] wr).alloc _)).b.cell (i := 0) rfl
    have RI := hid (rinter_any 4 wr)
    rw [show interI 4 = true from rfl] at RI
    have i0 : (0 : Int) ≤ (i : Int) := by omega
    clear hH
    by_cases hg : gk = 0
    · obtain rfl : i = 2 := by omega
      clear hi hg i0
      go_wp2_with fail
      refine RI.out.mono ?_
      rintro e w2 ⟨rfl, rfl⟩
      go_wp2_with fail
      exact HR.out _ rv vv _ _ _ _ _ _ _ _ _ _ _ _ _ _ _ _ _ _ _ _ _ _ _ _ _ _ _ (H.out.step ((Only.refl [] _).alloc _))
    · obtain ⟨gg, rfl⟩ : ∃ gg, gk = gg + 1 := ⟨gk - 1, by omega⟩
      have IN := hid (show i + 1 + gg = 2 by omega)
      have IB := hid (show i < 2 by omega)
      have i1 : (i : Int) < 2 := by omega
      clear hi hg
      go_wp2_with fail
      refine RI.out.mono ?_
      rintro e w2 ⟨rfl, rfl⟩
      go_upto_region 9 with fail
      generalize hwa : World.alloc _ _ = wa
      have HA := hid (show TwoR w wa q _ rv vv _ _ from hwa ▸ H.out.step ((Only.refl [] _).alloc _))
      clear hwa m0 m1 H RI H0
      refine wp_region_tail (fun w' => Blk w' q 28 (mC (smallM (4, 0, C)) rv vv N0).toArray) 10 13 (by kernel_rfl) rfl (HA.out.step (Only.refl [] wa).drew).b (fun hS => ?_)
      have HD := HA.out.step (Only.refl [] wa).drew
      generalize wa.drew = wd at *
      clear HA
      refine wpAnyT_take 0 (v := ?va0) rfl (by kernel_rfl) (fun _ _ _ h => hQ _ _ _ _ _ h) (Or.inl ⟨by rfl, ?ya0⟩) hS ?ra0
      case ya0 =>
        intro w hSw
        have e23 := hSw.cell (i := 23) (v := rv) rfl
        have e24 := hSw.cell (i := 24) (v := vv) rfl
        go_simp
        (try with_reducible rfl)
      (try simp only [Act.put, List.setIfInBounds_toArray, List.set_cons_zero, List.set_cons_succ])
      refine wpAnyT_take 1 (v := ?va1) rfl (by kernel_rfl) (fun _ _ _ h => hQ _ _ _ _ _ h) (Or.inl ⟨by rfl, ?ya1⟩) hS ?ra1
      case ya1 =>
        intro w hSw
        have e23 := hSw.cell (i := 23) (v := rv) rfl
        have e24 := hSw.cell (i := 24) (v := vv) rfl
        go_simp
        (try with_reducible rfl)
      (try simp only [Act.put, List.setIfInBounds_toArray, List.set_cons_zero, List.set_cons_succ])
      refine wpAnyT_take 4 (v := ?va2) rfl (by kernel_rfl) (fun _ _ _ h => hQ _ _ _ _ _ h) (Or.inl ⟨by rfl, ?ya2⟩) hS ?ra2
      case ya2 =>
        intro w hSw
        have e23 := hSw.cell (i := 23) (v := rv) rfl
        have e24 := hSw.cell (i := 24) (v := vv) rfl
        go_simp
        (try with_reducible rfl)
      (try simp only [Act.put, List.setIfInBounds_toArray, List.set_cons_zero, List.set_cons_succ])
      refine wpAnyT_take 5 (v := ?va3) rfl (by kernel_rfl) (fun _ _ _ h => hQ _ _ _ _ _ h) (Or.inl ⟨by rfl, ?ya3⟩) hS ?ra3
      case ya3 =>
        intro w hSw
        have e23 := hSw.cell (i := 23) (v := rv) rfl
        have e24 := hSw.cell (i := 24) (v := vv) rfl
        go_simp
        (try with_reducible rfl)
      (try simp only [Act.put, List.setIfInBounds_toArray, List.set_cons_zero, List.set_cons_succ])
      refine wpAnyT_take 6 (v := ?va4) rfl (by kernel_rfl) (fun _ _ _ h => hQ _ _ _ _ _ h) (Or.inl ⟨by rfl, ?ya4⟩) hS ?ra4
      case ya4 =>
        intro w hSw
        have e23 := hSw.cell (i := 23) (v := rv) rfl
        have e24 := hSw.cell (i := 24) (v := vv) rfl
        go_simp
        (try with_reducible rfl)
      (try simp only [Act.put, List.setIfInBounds_toArray, List.set_cons_zero, List.set_cons_succ])
      refine wpAnyT_two 2 7 rfl rfl (by kernel_rfl) (fun J hJ => ?_) (fun J hJ => ?_)
      · 
        have HD' := HD.step ((Only.refl [] _).alloc (.cells (cellsG erC [0]).toArray 3))
        have la := holdsG_lit erC_ok wd 3 [0] (by unfold maxLen; simp)
        refine step_bslice (by kernel_rfl) 24 1 #[(0, .const (.int .i64 0))] rfl #[(0, .int .i64 0)] (by kernel_rfl) _ _ (run_in1 0 _) ?_
        refine hJ.out _ _ HD'.b ?_
        clear hJ J
        (try simp only [Act.put, List.setIfInBounds_toArray, List.set_cons_zero, List.set_cons_succ])
        refine wpAnyT_two 3 7 rfl rfl (by kernel_rfl) (fun J hJ => ?_) (fun J hJ => ?_)
        · 
          obtain ⟨rv2, u_H2, run_H2, H2, on_H2⟩ := HD'.refs _ 0 la (by rw [List.length_replicate]; have := IB.out; omega)
          refine step_append_eqM rfl (.tmp 48) (.tmp 49) _ _ rfl _ _ rfl rfl rv2 u_H2 run_H2 ?_
          refine hJ.out _ _ H2.b ?_
          clear hJ J
          (try simp only [Act.put, List.setIfInBounds_toArray, List.set_cons_zero, List.set_cons_succ])
          refine wpAnyT_take 9 (v := ?va90) rfl (by kernel_rfl) (fun _ _ _ h => hQ _ _ _ _ _ h) (Or.inl ⟨by rfl, ?ya90⟩) H2.b ?ra90
          case ya90 =>
            intro w hSw
            have e23 := hSw.cell (i := 23) (v := rv) rfl
            have e24 := hSw.cell (i := 24) (v := vv) rfl
            go_simp
            (try with_reducible rfl)
          (try simp only [Act.put, List.setIfInBounds_toArray, List.set_cons_zero, List.set_cons_succ])
          refine wpAnyT_call 7 rfl (by kernel_rfl) (fun J hJ => ?_)
          have H2' := H2.step ((Only.refl [] _).alloc (.cells (cellsG vcC [(0, 0)]).toArray 36))
          have lb := holdsG_lit vcC_ok u_H2 36 [(0, 0)] (by unfold maxLen; simp)
          refine step_bslice (by kernel_rfl) 25 1 #[(0, .tmp 53)] rfl #[(0, .agg #[.int .i64 0, .int .i64 0])] (by kernel_rfl) _ _ (run_vc1 0 0 _) ?_
          refine hJ.out _ _ H2'.b ?_
          clear hJ J
          (try simp only [Act.put, List.setIfInBounds_toArray, List.set_cons_zero, List.set_cons_succ])
          refine wpAnyT_call 8 rfl (by kernel_rfl) (fun J hJ => ?_)
          obtain ⟨vv2, u_H4, run_H4, H4, on_H4⟩ := H2'.mvds _ (0, 0) lb (by rw [List.length_replicate]; have := IB.out; omega)
          refine step_append_eqM rfl (.tmp 52) (.tmp 54) _ _ rfl _ _ rfl rfl vv2 u_H4 run_H4 ?_
          refine hJ.out _ _ H4.b ?_
          clear hJ J
          (try simp only [Act.put, List.setIfInBounds_toArray, List.set_cons_zero, List.set_cons_succ])
          obtain ⟨ra2, rc2, er, _⟩ := id (H4.r.holds erC_ok)
          obtain ⟨va2, vc2, ev, _⟩ := id (H4.v.holds vcC_ok)
          simp only [List.length_append, List.length_replicate, List.length_cons, List.length_nil, Nat.zero_add] at er ev
          subst er ev
          have HE := hid H4
          have e23 := H4.b.cell (i := 23) (v := rv) rfl
          have e24 := H4.b.cell (i := 24) (v := vv) rfl
          have f23 := H4.b.frozen 23
          have f24 := H4.b.frozen 24
          refine wpAnyT_tail _ rfl (by kernel_rfl) ?_
          simp only [List.drop_succ_cons, List.drop_zero]
          clear hS HD
          go_wp2_with fail
          go_roundg gg
          case measure => omega
          case rel => exact ⟨i + 1, .slice ra2 (i + 1) rc2, .slice va2 (i + 1) vc2, IN.out, by go_num, by rw [show List.replicate (i + 1) (0 : Int) = List.replicate i 0 ++ [0] from List.replicate_succ', show List.replicate (i + 1) ((0, 0) : Int × Int) = List.replicate i (0, 0) ++ [(0, 0)] from List.replicate_succ']; exact (HE.out.set 23 _).set 24 _⟩
        · 
          have HD'' := HD'.step ((Only.refl [] _).alloc (.cells (cellsG vcC [(0, 0)]).toArray 36))
          have lb := holdsG_lit vcC_ok (wd.alloc (.cells (cellsG erC [0]).toArray 3)) 36 [(0, 0)] (by unfold maxLen; simp)
          refine step_bslice (by kernel_rfl) 25 1 #[(0, .tmp 53)] rfl #[(0, .agg #[.int .i64 0, .int .i64 0])] (by kernel_rfl) _ _ (run_vc1 0 0 _) ?_
          refine hJ.out _ _ HD''.b ?_
          clear hJ J
          (try simp only [Act.put, List.setIfInBounds_toArray, List.set_cons_zero, List.set_cons_succ])
          have la2 := la.only0 ((Only.refl [] _).alloc (.cells (cellsG vcC [(0, 0)]).toArray 36))
          refine wpAnyT_call 3 rfl (by kernel_rfl) (fun J hJ => ?_)
          obtain ⟨rv2, u_H2, run_H2, H2, on_H2⟩ := HD''.refs _ 0 la2 (by rw [List.length_replicate]; have := IB.out; omega)
          refine step_append_eqM rfl (.tmp 48) (.tmp 49) _ _ rfl _ _ rfl rfl rv2 u_H2 run_H2 ?_
          refine hJ.out _ _ H2.b ?_
          clear hJ J
          (try simp only [Act.put, List.setIfInBounds_toArray, List.set_cons_zero, List.set_cons_succ])
          refine wpAnyT_take 9 (v := ?va91) rfl (by kernel_rfl) (fun _ _ _ h => hQ _ _ _ _ _ h) (Or.inl ⟨by rfl, ?ya91⟩) H2.b ?ra91
          case ya91 =>
            intro w hSw
            have e23 := hSw.cell (i := 23) (v := rv) rfl
            have e24 := hSw.cell (i := 24) (v := vv) rfl
            go_simp
            (try with_reducible rfl)
          (try simp only [Act.put, List.setIfInBounds_toArray, List.set_cons_zero, List.set_cons_succ])
          have lb2 := lb.only on_H2 (fun a m c e hg => by have e1 := (Value.slice.inj e).1; simp only [Option.some.injEq] at e1; subst e1; have := HD'.r.lt _ hg; simp at this)
          refine wpAnyT_call 8 rfl (by kernel_rfl) (fun J hJ => ?_)
          obtain ⟨vv2, u_H4, run_H4, H4, on_H4⟩ := H2.mvds _ (0, 0) lb2 (by rw [List.length_replicate]; have := IB.out; omega)
          refine step_append_eqM rfl (.tmp 52) (.tmp 54) _ _ rfl _ _ rfl rfl vv2 u_H4 run_H4 ?_
          refine hJ.out _ _ H4.b ?_
          clear hJ J
          (try simp only [Act.put, List.setIfInBounds_toArray, List.set_cons_zero, List.set_cons_succ])
          obtain ⟨ra2, rc2, er, _⟩ := id (H4.r.holds erC_ok)
          obtain ⟨va2, vc2, ev, _⟩ := id (H4.v.holds vcC_ok)
          simp only [List.length_append, List.length_replicate, List.length_cons, List.length_nil, Nat.zero_add] at er ev
          subst er ev
          have HE := hid H4
          have e23 := H4.b.cell (i := 23) (v := rv) rfl
          have e24 := H4.b.cell (i := 24) (v := vv) rfl
          have f23 := H4.b.frozen 23
          have f24 := H4.b.frozen 24
          refine wpAnyT_tail _ rfl (by kernel_rfl) ?_
          simp only [List.drop_succ_cons, List.drop_zero]
          clear hS HD
          go_wp2_with fail
          go_roundg gg
          case measure => omega
          case rel => exact ⟨i + 1, .slice ra2 (i + 1) rc2, .slice va2 (i + 1) vc2, IN.out, by go_num, by rw [show List.replicate (i + 1) (0 : Int) = List.replicate i 0 ++ [0] from List.replicate_succ', show List.replicate (i + 1) ((0, 0) : Int × Int) = List.replicate i (0, 0) ++ [(0, 0)] from List.replicate_succ']; exact (HE.out.set 23 _).set 24 _⟩
      · 
        have HD' := HD.step ((Only.refl [] _).alloc (.cells (cellsG vcC [(0, 0)]).toArray 36))
        have lb := holdsG_lit vcC_ok wd 36 [(0, 0)] (by unfold maxLen; simp)
        refine step_bslice (by kernel_rfl) 25 1 #[(0, .tmp 53)] rfl #[(0, .agg #[.int .i64 0, .int .i64 0])] (by kernel_rfl) _ _ (run_vc1 0 0 _) ?_
        refine hJ.out _ _ HD'.b ?_
        clear hJ J
        (try simp only [Act.put, List.setIfInBounds_toArray, List.set_cons_zero, List.set_cons_succ])
        refine wpAnyT_call 2 rfl (by kernel_rfl) (fun J hJ => ?_)
        have HD'' := HD'.step ((Only.refl [] _).alloc (.cells (cellsG erC [0]).toArray 3))
        have la := holdsG_lit erC_ok (wd.alloc (.cells (cellsG vcC [(0, 0)]).toArray 36)) 3 [0] (by unfold maxLen; simp)
        refine step_bslice (by kernel_rfl) 24 1 #[(0, .const (.int .i64 0))] rfl #[(0, .int .i64 0)] (by kernel_rfl) _ _ (run_in1 0 _) ?_
        refine hJ.out _ _ HD''.b ?_
        clear hJ J
        (try simp only [Act.put, List.setIfInBounds_toArray, List.set_cons_zero, List.set_cons_succ])
        have lb1 := lb.only0 ((Only.refl [] _).alloc (.cells (cellsG erC [0]).toArray 3))
        refine wpAnyT_call 3 rfl (by kernel_rfl) (fun J hJ => ?_)
        obtain ⟨rv2, u_H2, run_H2, H2, on_H2⟩ := HD''.refs _ 0 la (by rw [List.length_replicate]; have := IB.out; omega)
        refine step_append_eqM rfl (.tmp 48) (.tmp 49) _ _ rfl _ _ rfl rfl rv2 u_H2 run_H2 ?_
        refine hJ.out _ _ H2.b ?_
        clear hJ J
        (try simp only [Act.put, List.setIfInBounds_toArray, List.set_cons_zero, List.set_cons_succ])
        refine wpAnyT_take 9 (v := ?va92) rfl (by kernel_rfl) (fun _ _ _ h => hQ _ _ _ _ _ h) (Or.inl ⟨by rfl, ?ya92⟩) H2.b ?ra92
        case ya92 =>
          intro w hSw
          have e23 := hSw.cell (i := 23) (v := rv) rfl
          have e24 := hSw.cell (i := 24) (v := vv) rfl
          go_simp
          (try with_reducible rfl)
        (try simp only [Act.put, List.setIfInBounds_toArray, List.set_cons_zero, List.set_cons_succ])
        have lb2 := lb1.only on_H2 (fun a m c e hg => by have e1 := (Value.slice.inj e).1; simp only [Option.some.injEq] at e1; subst e1; have := HD.r.lt _ hg; simp at this)
        refine wpAnyT_call 8 rfl (by kernel_rfl) (fun J hJ => ?_)
        obtain ⟨vv2, u_H4, run_H4, H4, on_H4⟩ := H2.mvds _ (0, 0) lb2 (by rw [List.length_replicate]; have := IB.out; omega)
        refine step_append_eqM rfl (.tmp 52) (.tmp 54) _ _ rfl _ _ rfl rfl vv2 u_H4 run_H4 ?_
        refine hJ.out _ _ H4.b ?_
        clear hJ J
        (try simp only [Act.put, List.setIfInBounds_toArray, List.set_cons_zero, List.set_cons_succ])
        obtain ⟨ra2, rc2, er, _⟩ := id (H4.r.holds erC_ok)
        obtain ⟨va2, vc2, ev, _⟩ := id (H4.v.holds vcC_ok)
        simp only [List.length_append, List.length_replicate, List.length_cons, List.length_nil, Nat.zero_add] at er ev
        subst er ev
        have HE := hid H4
        have e23 := H4.b.cell (i := 23) (v := rv) rfl
        have e24 := H4.b.cell (i := 24) (v := vv) rfl
        have f23 := H4.b.frozen 23
        have f24 := H4.b.frozen 24
        refine wpAnyT_tail _ rfl (by kernel_rfl) ?_
        simp only [List.drop_succ_cons, List.drop_zero]
        clear hS HD
        go_wp2_with fail
        go_roundg gg
        case measure => omega
        case rel => exact ⟨i + 1, .slice ra2 (i + 1) rc2, .slice va2 (i + 1) vc2, IN.out, by go_num, by rw [show List.replicate (i + 1) (0 : Int) = List.replicate i 0 ++ [0] from List.replicate_succ', show List.replicate (i + 1) ((0, 0) : Int × Int) = List.replicate i (0, 0) ++ [(0, 0)] from List.replicate_succ']; exact (HE.out.set 23 _).set 24 _⟩
set_option maxRecDepth 1000000 in
set_option maxHeartbeats 8000000 in
theorem pl_refs5 (rest : Code) (Q : Exit → Act → World → Prop) (hQ : ∀ c (a : Act) d v w, Q (.panic c) (a.put (some d) v) w → Q (.panic c) a w) (C : Int) (q : Nat) (w : World) (h0 : TwoR w w q (mC (smallM (5, 0, C)) N0 N0 N0).toArray N0 N0 [] []) (u0 u1 u2 u3 u4 u6 u7 u8 u9 u10 u11 u12 u13 u14 u15 u16 u17 u18 u19 u20 u21 u22 u23 u24 u25 u26 u27 u28 u29 u30 u31 u32 u33 u34 u35 u36 u37 u38 u39 u40 u41 u42 u43 u44 u45 u46 u47 u48 u49 u50 u51 u52 u53 u54 u55 u56 u57 u58 u59 u60 u61 u62 u63 u64 u65 u66 u67 u68 u69 u70 u71 u72 u73 u74 u75 u76 u77 u78 u79 u80 u81 u82 u83 u84 u85 u86 u87 u88 : Value)
    (hr : ∀ (w' : World) (rv vv : Value) (v6 v32 v33 v34 v35 v36 v37 v38 v39 v40 v41 v42 v43 v44 v45 v46 v47 v48 v49 v50 v51 v52 v53 v54 v55 v56 v57 : Value), TwoR w w' q (mC (smallM (5, 0, C)) rv vv N0).toArray rv vv (List.replicate 2 0) (List.replicate 2 (0, 0)) → rest.wp Tryd.prog Q ⟨#[u0, u1, u2, u3, u4, .pointer (some ⟨q, 0, none⟩), v6, u7, u8, u9, u10, u11, u12, u13, u14, u15, u16, u17, u18, u19, u20, u21, u22, u23, u24, u25, u26, u27, u28, u29, u30, u31, v32, v33, v34, v35, v36, v37, v38, v39, v40, v41, v42, v43, v44, v45, v46, v47, v48, v49, v50, v51, v52, v53, v54, v55, v56, v57, u58, u59, u60, u61, u62, u63, u64, u65, u66, u67, u68, u69, u70, u71, u72, u73, u74, u75, u76, u77, u78, u79, u80, u81, u82, u83, u84, u85, u86, u87, u88], []⟩ w') :
    (endWith 1 (dropSeq 3 plB) rest).wp Tryd.prog Q ⟨#[u0, u1, u2, u3, u4, .pointer (some ⟨q, 0, none⟩), u6, u7, u8, u9, u10, u11, u12, u13, u14, u15, u16, u17, u18, u19, u20, u21, u22, u23, u24, u25, u26, u27, u28, u29, u30, u31, u32, u33, u34, u35, u36, u37, u38, u39, u40, u41, u42, u43, u44, u45, u46, u47, u48, u49, u50, u51, u52, u53, u54, u55, u56, u57, u58, u59, u60, u61, u62, u63, u64, u65, u66, u67, u68, u69, u70, u71, u72, u73, u74, u75, u76, u77, u78, u79, u80, u81, u82, u83, u84, u85, u86, u87, u88], []⟩ w := by
  conv => arg 2; whnf; arg 2; whnf
  have HR := hid hr
  clear hr
  have H0 := hid h0
  clear h0
  go_wp2_with fail
  go_loopg [6] 2 (fun g t wr => ∃ (i : Nat) (rv vv : Value), i + g = 2 ∧ t = .int .i64 i ∧ TwoR w wr q (mC (smallM (5, 0, C)) rv vv N0).toArray rv vv (List.replicate i 0) (List.replicate i (0, 0)))
  case atStart => exact ⟨0, N0, N0, by omega, rfl, H0.out⟩
  case round =>
    obtain ⟨i, rv, vv, hi, rfl, hH⟩ := hrel
    have H := hid hH
    have m0 := hH.b.cell (i := 0) (v := .int .u8 5) rfl
    have m1 : (wr.alloc (.cells #[.int .i64 1, .int .i64 2, .int .i64 2, .int .i64 4] 3)).cell? ⟨q, 0, none⟩ = some (.int .u8 5) := (hH.step ((Only.refl [] wr).alloc _)).b.cell (i := 0) rfl
    have RI := hid (rinter_any 5 wr)
    rw [show interI 5 = true from rfl] at RI
    have i0 : (0 : Int) ≤ (i : Int) := by omega
    clear hH
    by_cases hg : gk = 0
    · obtain rfl : i = 2 := by omega
      clear hi hg i0
      go_wp2_with fail
      refine RI.out.mono ?_
      rintro e w2 ⟨rfl, rfl⟩
      go_wp2_with fail
      exact HR.out _ rv vv _ _ _ _ _ _ _ _ _ _ _ _ _ _ _ _ _ _ _ _ _ _ _ _ _ _ _ (H.out.step ((Only.refl [] _).alloc _))
    · obtain ⟨gg, rfl⟩ : ∃ gg, gk = gg + 1 := ⟨gk - 1, by omega⟩
      have IN := hid (show i + 1 + gg = 2 by omega)
      have IB := hid (show i < 2 by omega)
      have i1 : (i : Int) < 2 := by omega
      clear hi hg
      go_wp2_with fail
      refine RI.out.mono ?_
      rintro e w2 ⟨rfl, rfl⟩
      go_upto_region 9 with fail
      generalize hwa : World.alloc _ _ = wa
      have HA := hid (show TwoR w wa q _ rv vv _ _ from hwa ▸ H.out.step ((Only.refl [] _).alloc _))
      clear hwa m0 m1 H RI H0
      refine wp_region_tail (fun w' => Blk w' q 28 (mC (smallM (5, 0, C)) rv vv N0).toArray) 10 13 (by kernel_rfl) rfl (HA.out.step (Only.refl [] wa).drew).b (fun hS => ?_)
      have HD := HA.out.step (Only.refl [] wa).drew
      generalize wa.drew = wd at *
      clear HA
      refine wpAnyT_take 0 (v := ?va0) rfl (by kernel_rfl) (fun _ _ _ h => hQ _ _ _ _ _ h) (Or.inl ⟨by rfl, ?ya0⟩) hS ?ra0
      case ya0 =>
        intro w hSw
        have e23 := hSw.cell (i := 23) (v := rv) rfl
        have e24 := hSw.cell (i := 24) (v := vv) rfl
        go_simp
        (try with_reducible rfl)
      (try simp only [Act.put, List.setIfInBounds_toArray, List.set_cons_zero, List.set_cons_succ])
      refine wpAnyT_take 1 (v := ?va1) rfl (by kernel_rfl) (fun _ _ _ h => hQ _ _ _ _ _ h) (Or.inl ⟨by rfl, ?ya1⟩) hS ?ra1
      case ya1 =>
        intro w hSw
        have e23 := hSw.cell (i := 23) (v := rv) rfl
        have e24 := hSw.cell (i := 24) (v := vv) rfl
        go_simp
        (try with_reducible rfl)
      (try simp only [Act.put, List.setIfInBounds_toArray, List.set_cons_zero, List.set_cons_succ])
      refine wpAnyT_take 4 (v := ?va2) rfl (by kernel_rfl) (fun _ _ _ h => hQ _ _ _ _ _ h) (Or.inl ⟨by rfl, ?ya2⟩) hS ?ra2
      case ya2 =>
        intro w hSw
        have e23 := hSw.cell (i := 23) (v := rv) rfl
        have e24 := hSw.cell (i := 24) (v := vv) rfl
        go_simp
        (try with_reducible rfl)
      (try simp only [Act.put, List.setIfInBounds_toArray, List.set_cons_zero, List.set_cons_succ])
      refine wpAnyT_take 5 (v := ?va3) rfl (by kernel_rfl) (fun _ _ _ h => hQ _ _ _ _ _ h) (Or.inl ⟨by rfl, ?ya3⟩) hS ?ra3
      case ya3 =>
        intro w hSw
        have e23 := hSw.cell (i := 23) (v := rv) rfl
        have e24 := hSw.cell (i := 24) (v := vv) rfl
        go_simp
        (try with_reducible rfl)
      (try simp only [Act.put, List.setIfInBounds_toArray, List.set_cons_zero, List.set_cons_succ])
      refine wpAnyT_take 6 (v := ?va4) rfl (by kernel_rfl) (fun _ _ _ h => hQ _ _ _ _ _ h) (Or.inl ⟨by rfl, ?ya4⟩) hS ?ra4
      case ya4 =>
        intro w hSw
        have e23 := hSw.cell (i := 23) (v := rv) rfl
        have e24 := hSw.cell (i := 24) (v := vv) rfl
        go_simp
        (try with_reducible rfl)
      (try simp only [Act.put, List.setIfInBounds_toArray, List.set_cons_zero, List.set_cons_succ])
      refine wpAnyT_two 2 7 rfl rfl (by kernel_rfl) (fun J hJ => ?_) (fun J hJ => ?_)
      · 
        have HD' := HD.step ((Only.refl [] _).alloc (.cells (cellsG erC [0]).toArray 3))
        have la := holdsG_lit erC_ok wd 3 [0] (by unfold maxLen; simp)
        refine step_bslice (by kernel_rfl) 24 1 #[(0, .const (.int .i64 0))] rfl #[(0, .int .i64 0)] (by kernel_rfl) _ _ (run_in1 0 _) ?_
        refine hJ.out _ _ HD'.b ?_
        clear hJ J
        (try simp only [Act.put, List.setIfInBounds_toArray, List.set_cons_zero, List.set_cons_succ])
        refine wpAnyT_two 3 7 rfl rfl (by kernel_rfl) (fun J hJ => ?_) (fun J hJ => ?_)
        · 
          obtain ⟨rv2, u_H2, run_H2, H2, on_H2⟩ := HD'.refs _ 0 la (by rw [List.length_replicate]; have := IB.out; omega)
          refine step_append_eqM rfl (.tmp 48) (.tmp 49) _ _ rfl _ _ rfl rfl rv2 u_H2 run_H2 ?_
          refine hJ.out _ _ H2.b ?_
          clear hJ J
          (try simp only [Act.put, List.setIfInBounds_toArray, List.set_cons_zero, List.set_cons_succ])
          refine wpAnyT_take 9 (v := ?va90) rfl (by kernel_rfl) (fun _ _ _ h => hQ _ _ _ _ _ h) (Or.inl ⟨by rfl, ?ya90⟩) H2.b ?ra90
          case ya90 =>
            intro w hSw
            have e23 := hSw.cell (i := 23) (v := rv) rfl
            have e24 := hSw.cell (i := 24) (v := vv) rfl
            go_simp
            (try with_reducible rfl)
          (try simp only [Act.put, List.setIfInBounds_toArray, List.set_cons_zero, List.set_cons_succ])
          refine wpAnyT_call 7 rfl (by kernel_rfl) (fun J hJ => ?_)
          have H2' := H2.step ((Only.refl [] _).alloc (.cells (cellsG vcC [(0, 0)]).toArray 36))
          have lb := holdsG_lit vcC_ok u_H2 36 [(0, 0)] (by unfold maxLen; simp)
          refine step_bslice (by kernel_rfl) 25 1 #[(0, .tmp 53)] rfl #[(0, .agg #[.int .i64 0, .int .i64 0])] (by kernel_rfl) _ _ (run_vc1 0 0 _) ?_
          refine hJ.out _ _ H2'.b ?_
          clear hJ J
          (try simp only [Act.put, List.setIfInBounds_toArray, List.set_cons_zero, List.set_cons_succ])
          refine wpAnyT_call 8 rfl (by kernel_rfl) (fun J hJ => ?_)
          obtain ⟨vv2, u_H4, run_H4, H4, on_H4⟩ := H2'.mvds _ (0, 0) lb (by rw [List.length_replicate]; have := IB.out; omega)
          refine step_append_eqM rfl (.tmp 52) (.tmp 54) _ _ rfl _ _ rfl rfl vv2 u_H4 run_H4 ?_
          refine hJ.out _ _ H4.b ?_
          clear hJ J
          (try simp only [Act.put, List.setIfInBounds_toArray, List.set_cons_zero, List.set_cons_succ])
          obtain ⟨ra2, rc2, er, _⟩ := id (H4.r.holds erC_ok)
          obtain ⟨va2, vc2, ev, _⟩ := id (H4.v.holds vcC_ok)
          simp only [List.length_append, List.length_replicate, List.length_cons, List.length_nil, Nat.zero_add] at er ev
          subst er ev
          have HE := hid H4
          have e23 := H4.b.cell (i := 23) (v := rv) rfl
          have e24 := H4.b.cell (i := 24) (v := vv) rfl
          have f23 := H4.b.frozen 23
          have f24 := H4.b.frozen 24
          refine wpAnyT_tail _ rfl (by kernel_rfl) ?_
          simp only [List.drop_succ_cons, List.drop_zero]
          clear hS HD
          go_wp2_with fail
          go_roundg gg
          case measure => omega
          case rel => exact ⟨i + 1, .slice ra2 (i + 1) rc2, .slice va2 (i + 1) vc2, IN.out, by go_num, by rw [show List.replicate (i + 1) (0 : Int) = List.replicate i 0 ++ [0] from List.replicate_succ', show List.replicate (i + 1) ((0, 0) : Int × Int) = List.replicate i (0, 0) ++ [(0, 0)] from List.replicate_succ']; exact (HE.out.set 23 _).set 24 _⟩
        · 
          have HD'' := HD'.step ((Only.refl [] _).alloc (.cells (cellsG vcC [(0, 0)]).toArray 36))
          have lb := holdsG_lit vcC_ok (wd.alloc (.cells (cellsG erC [0]).toArray 3)) 36 [(0, 0)] (by unfold maxLen; simp)
          refine step_bslice (by kernel_rfl) 25 1 #[(0, .tmp 53)] rfl #[(0, .agg #[.int .i64 0, .int .i64 0])] (by kernel_rfl) _ _ (run_vc1 0 0 _) ?_
          refine hJ.out _ _ HD''.b ?_
          clear hJ J
          (try simp only [Act.put, List.setIfInBounds_toArray, List.set_cons_zero, List.set_cons_succ])
          have la2 := la.only0 ((Only.refl [] _).alloc (.cells (cellsG vcC [(0, 0)]).toArray 36))
          refine wpAnyT_call 3 rfl (by kernel_rfl) (fun J hJ => ?_)
          obtain ⟨rv2, u_H2, run_H2, H2, on_H2⟩ := HD''.refs _ 0 la2 (by rw [List.length_replicate]; have := IB.out; omega)
          refine step_append_eqM rfl (.tmp 48) (.tmp 49) _ _ rfl _ _ rfl rfl rv2 u_H2 run_H2 ?_
          refine hJ.out _ _ H2.b ?_
          clear hJ J
          (try simp only [Act.put, List.setIfInBounds_toArray, List.set_cons_zero, List.set_cons_succ])
          refine wpAnyT_take 9 (v := ?va91) rfl (by kernel_rfl) (fun _ _ _ h => hQ _ _ _ _ _ h) (Or.inl ⟨by rfl, ?ya91⟩) H2.b ?ra91
          case ya91 =>
            intro w hSw
            have e23 := hSw.cell (i := 23) (v := rv) rfl
            have e24 := hSw.cell (i := 24) (v := vv) rfl
            go_simp
            (try with_reducible rfl)
          (try simp only [Act.put, List.setIfInBounds_toArray, List.set_cons_zero, List.set_cons_succ])
          have lb2 := lb.only on_H2 (fun a m c e hg => by have e1 := (Value.slice.inj e).1; simp only [Option.some.injEq] at e1; subst e1; have := HD'.r.lt _ hg; simp at this)
          refine wpAnyT_call 8 rfl (by kernel_rfl) (fun J hJ => ?_)
          obtain ⟨vv2, u_H4, run_H4, H4, on_H4⟩ := H2.mvds _ (0, 0) lb2 (by rw [List.length_replicate]; have := IB.out; omega)
          refine step_append_eqM rfl (.tmp 52) (.tmp 54) _ _ rfl _ _ rfl rfl vv2 u_H4 run_H4 ?_
          refine hJ.out _ _ H4.b ?_
          clear hJ J
          (try simp only [Act.put, List.setIfInBounds_toArray, List.set_cons_zero, List.set_cons_succ])
          obtain ⟨ra2, rc2, er, _⟩ := id (H4.r.holds erC_ok)
          obtain ⟨va2, vc2, ev, _⟩ := id (H4.v.holds vcC_ok)
          simp only [List.length_append, List.length_replicate, List.length_cons, List.length_nil, Nat.zero_add] at er ev
          subst er ev
          have HE := hid H4
          have e23 := H4.b.cell (i := 23) (v := rv) rfl
          have e24 := H4.b.cell (i := 24) (v := vv) rfl
          have f23 := H4.b.frozen 23
          have f24 := H4.b.frozen 24
          refine wpAnyT_tail _ rfl (by kernel_rfl) ?_
          simp only [List.drop_succ_cons, List.drop_zero]
          clear hS HD
          go_wp2_with fail
          go_roundg gg
          case measure => omega
          case rel => exact ⟨i + 1, .slice ra2 (i + 1) rc2, .slice va2 (i + 1) vc2, IN.out, by go_num, by rw [show List.replicate (i + 1) (0 : Int) = List.replicate i 0 ++ [0] from List.replicate_succ', show List.replicate (i + 1) ((0, 0) : Int × Int) = List.replicate i (0, 0) ++ [(0, 0)] from List.replicate_succ']; exact (HE.out.set 23 _).set 24 _⟩
      · 
        have HD' := HD.step ((Only.refl [] _).alloc (.cells (cellsG vcC [(0, 0)]).toArray 36))
        have lb := holdsG_lit vcC_ok wd 36 [(0, 0)] (by unfold maxLen; simp)
        refine step_bslice (by kernel_rfl) 25 1 #[(0, .tmp 53)] rfl #[(0, .agg #[.int .i64 0, .int .i64 0])] (by kernel_rfl) _ _ (run_vc1 0 0 _) ?_
        refine hJ.out _ _ HD'.b ?_
        clear hJ J
        (try simp only [Act.put, List.setIfInBounds_toArray, List.set_cons_zero, List.set_cons_succ])
        refine wpAnyT_call 2 rfl (by kernel_rfl) (fun J hJ => ?_)
        have HD'' := HD'.step ((Only.refl [] _).alloc (.cells (cellsG erC [0]).toArray 3))
        have la := holdsG_lit erC_ok (wd.alloc (.cells (cellsG vcC [(0, 0)]).toArray 36)) 3 [0] (by unfold maxLen; simp)
        refine step_bslice (by kernel_rfl) 24 1 #[(0, .const (.int .i64 0))] rfl #[(0, .int .i64 0)] (by kernel_rfl) _ _ (run_in1 0 _) ?_
        refine hJ.out _ _ HD''.b ?_
        clear hJ J
        (try simp only [Act.put, List.setIfInBounds_toArray, List.set_cons_zero, List.set_cons_succ])
        have lb1 := lb.only0 ((Only.refl [] _).alloc (.cells (cellsG erC [0]).toArray 3))
        refine wpAnyT_call 3 rfl (by kernel_rfl) (fun J hJ => ?_)
        obtain ⟨rv2, u_H2, run_H2, H2, on_H2⟩ := HD''.refs _ 0 la (by rw [List.length_replicate]; have := IB.out; omega)
        refine step_append_eqM rfl (.tmp 48) (.tmp 49) _ _ rfl _ _ rfl rfl rv2 u_H2 run_H2 ?_
        refine hJ.out _ _ H2.b ?_
        clear hJ J
        (try simp only [Act.put, List.setIfInBounds_toArray, List.set_cons_zero, List.set_cons_succ])
        refine wpAnyT_take 9 (v := ?va92) rfl (by kernel_rfl) (fun _ _ _ h => hQ _ _ _ _ _ h) (Or.inl ⟨by rfl, ?ya92⟩) H2.b ?ra92
        case ya92 =>
          intro w hSw
          have e23 := hSw.cell (i := 23) (v := rv) rfl
          have e24 := hSw.cell (i := 24) (v := vv) rfl
          go_simp
          (try with_reducible rfl)
        (try simp only [Act.put, List.setIfInBounds_toArray, List.set_cons_zero, List.set_cons_succ])
        have lb2 := lb1.only on_H2 (fun a m c e hg => by have e1 := (Value.slice.inj e).1; simp only [Option.some.injEq] at e1; subst e1; have := HD.r.lt _ hg; simp at this)
        refine wpAnyT_call 8 rfl (by kernel_rfl) (fun J hJ => ?_)
        obtain ⟨vv2, u_H4, run_H4, H4, on_H4⟩ := H2.mvds _ (0, 0) lb2 (by rw [List.length_replicate]; have := IB.out; omega)
        refine step_append_eqM rfl (.tmp 52) (.tmp 54) _ _ rfl _ _ rfl rfl vv2 u_H4 run_H4 ?_
        refine hJ.out _ _ H4.b ?_
        clear hJ J
        (try simp only [Act.put, List.setIfInBounds_toArray, List.set_cons_zero, List.set_cons_succ])
        obtain ⟨ra2, rc2, er, _⟩ := id (H4.r.holds erC_ok)
        obtain ⟨va2, vc2, ev, _⟩ := id (H4.v.holds vcC_ok)
        simp only [List.length_append, List.length_replicate, List.length_cons, List.length_nil, Nat.zero_add] at er ev
        subst er ev
        have HE := hid H4
        have e23 := H4.b.cell (i := 23) (v := rv) rfl
        have e24 := H4.b.cell (i := 24) (v := vv) rfl
        have f23 := H4.b.frozen 23
        have f24 := H4.b.frozen 24
        refine wpAnyT_tail _ rfl (by kernel_rfl) ?_
        simp only [List.drop_succ_cons, List.drop_zero]
        clear hS HD
        go_wp2_with fail
        go_roundg gg
        case measure => omega
        case rel => exact ⟨i + 1, .slice ra2 (i + 1) rc2, .slice va2 (i + 1) vc2, IN.out, by go_num, by rw [show List.replicate (i + 1) (0 : Int) = List.replicate i 0 ++ [0] from List.replicate_succ', show List.replicate (i + 1) ((0, 0) : Int × Int) = List.replicate i (0, 0) ++ [(0, 0)] from List.replicate_succ']; exact (HE.out.set 23 _).set 24 _⟩
set_option maxRecDepth 1000000 in
set_option maxHeartbeats 8000000 in
theorem pl_refs6 (rest : Code) (Q : Exit → Act → World → Prop) (hQ : ∀ c (a : Act) d v w, Q (.panic c) (a.put (some d) v) w → Q (.panic c) a w) (C : Int) (q : Nat) (w : World) (h0 : TwoR w w q (mC (smallM (6, 0, C)) N0 N0 N0).toArray N0 N0 [] []) (u0 u1 u2 u3 u4 u6 u7 u8 u9 u10 u11 u12 u13 u14 u15 u16 u17 u18 u19 u20 u21 u22 u23 u24 u25 u26 u27 u28 u29 u30 u31 u32 u33 u34 u35 u36 u37 u38 u39 u40 u41 u42 u43 u44 u45 u46 u47 u48 u49 u50 u51 u52 u53 u54 u55 u56 u57 u58 u59 u60 u61 u62 u63 u64 u65 u66 u67 u68 u69 u70 u71 u72 u73 u74 u75 u76 u77 u78 u79 u80 u81 u82 u83 u84 u85 u86 u87 u88 : Value)
    (hr : ∀ (w' : World) (rv vv : Value) (v6 v32 v33 v34 v35 v36 v37 v38 v39 v40 v41 v42 v43 v44 v45 v46 v47 v48 v49 v50 v51 v52 v53 v54 v55 v56 v57 : Value), TwoR w w' q (mC (smallM (6, 0, C)) rv vv N0).toArray rv vv (List.replicate 4 0) (List.replicate 4 (0, 0)) → rest.wp Tryd.prog Q ⟨#[u0, u1, u2, u3, u4, .pointer (some ⟨q, 0, none⟩), v6, u7, u8, u9, u10, u11, u12, u13, u14, u15, u16, u17, u18, u19, u20, u21, u22, u23, u24, u25, u26, u27, u28, u29, u30, u31, v32, v33, v34, v35, v36, v37, v38, v39, v40, v41, v42, v43, v44, v45, v46, v47, v48, v49, v50, v51, v52, v53, v54, v55, v56, v57, u58, u59, u60, u61, u62, u63, u64, u65, u66, u67, u68, u69, u70, u71, u72, u73, u74, u75, u76, u77, u78, u79, u80, u81, u82, u83, u84, u85, u86, u87, u88], []⟩ w') :
    (endWith 1 (dropSeq 3 plB) rest).wp Tryd.prog Q ⟨#[u0, u1, u2, u3, u4, .pointer (some ⟨q, 0, none⟩), u6, u7, u8, u9, u10, u11, u12, u13, u14, u15, u16, u17, u18, u19, u20, u21, u22, u23, u24, u25, u26, u27, u28, u29, u30, u31, u32, u33, u34, u35, u36, u37, u38, u39, u40, u41, u42, u43, u44, u45, u46, u47, u48, u49, u50, u51, u52, u53, u54, u55, u56, u57, u58, u59, u60, u61, u62, u63, u64, u65, u66, u67, u68, u69, u70, u71, u72, u73, u74, u75, u76, u77, u78, u79, u80, u81, u82, u83, u84, u85, u86, u87, u88], []⟩ w := by
  conv => arg 2; whnf; arg 2; whnf
  have HR := hid hr
  clear hr
  have H0 := hid h0
  clear h0
  go_wp2_with fail
  go_loopg [6] 4 (fun g t wr => ∃ (i : Nat) (rv vv : Value), i + g = 4 ∧ t = .int .i64 i ∧ TwoR w wr q (mC (smallM (6, 0, C)) rv vv N0).toArray rv vv (List.replicate i 0) (List.replicate i (0, 0)))
  case atStart => exact ⟨0, N0, N0, by omega, rfl, H0.out⟩
  case round =>
    obtain ⟨i, rv, vv, hi, rfl, hH⟩ := hrel
    have H := hid hH
    have m0 := hH.b.cell (i := 0) (v := .int .u8 6) rfl
    have m1 : (wr.alloc (.cells #[.int .i64 1, .int .i64 2, .int .i64 2, .int .i64 4] 3)).cell? ⟨q, 0, none⟩ = some (.int .u8 6) := (hH.step ((Only.refl [] wr).alloc _)).b.cell (i := 0) rfl
    have RI := hid (rinter_any 6 wr)
    rw [show interI 6 = true from rfl] at RI
    have i0 : (0 : Int) ≤ (i : Int) := by omega
    clear hH
    by_cases hg : gk = 0
    · obtain rfl : i = 4 := by omega
      clear hi hg i0
      go_wp2_with fail
      refine RI.out.mono ?_
      rintro e w2 ⟨rfl, rfl⟩
      go_wp2_with fail
      exact HR.out _ rv vv _ _ _ _ _ _ _ _ _ _ _ _ _ _ _ _ _ _ _ _ _ _ _ _ _ _ _ (H.out.step ((Only.refl [] _).alloc _))
    · obtain ⟨gg, rfl⟩ : ∃ gg, gk = gg + 1 := ⟨gk - 1, by omega⟩
      have IN := hid (show i + 1 + gg = 4 by omega)
      have IB := hid (show i < 4 by omega)
      have i1 : (i : Int) < 4 := by omega
      clear hi hg
      go_wp2_with fail
      refine RI.out.mono ?_
      rintro e w2 ⟨rfl, rfl⟩
      go_upto_region 9 with fail
      generalize hwa : World.alloc _ _ = wa
      have HA := hid (show TwoR w wa q _ rv vv _ _ from hwa ▸ H.out.step ((Only.refl [] _).alloc _))
      clear hwa m0 m1 H RI H0
      refine wp_region_tail (fun w' => Blk w' q 28 (mC (smallM (6, 0, C)) rv vv N0).toArray) 10 13 (by kernel_rfl) rfl (HA.out.step (Only.refl [] wa).drew).b (fun hS => ?_)
      have HD := HA.out.step (Only.refl [] wa).drew
      generalize wa.drew = wd at *
      clear HA
      refine wpAnyT_take 0 (v := ?va0) rfl (by kernel_rfl) (fun _ _ _ h => hQ _ _ _ _ _ h) (Or.inl ⟨by rfl, ?ya0⟩) hS ?ra0
      case ya0 =>
        intro w hSw
        have e23 := hSw.cell (i := 23) (v := rv) rfl
        have e24 := hSw.cell (i := 24) (v := vv) rfl
        go_simp
        (try with_reducible rfl)
      (try simp only [Act.put, List.setIfInBounds_toArray, List.set_cons_zero, List.set_cons_succ])
      refine wpAnyT_take 1 (v := ?va1) rfl (by kernel_rfl) (fun _ _ _ h => hQ _ _ _ _ _ h) (Or.inl ⟨by rfl, ?ya1⟩) hS ?ra1
      case ya1 =>
        intro w hSw
        have e23 := hSw.cell (i := 23) (v := rv) rfl
        have e24 := hSw.cell (i := 24) (v := vv) rfl
        go_simp
        (try with_reducible rfl)
      (try simp only [Act.put, List.setIfInBounds_toArray, List.set_cons_zero, List.set_cons_succ])
      refine wpAnyT_take 4 (v := ?va2) rfl (by kernel_rfl) (fun _ _ _ h => hQ _ _ _ _ _ h) (Or.inl ⟨by rfl, ?ya2⟩) hS ?ra2
      case ya2 =>
        intro w hSw
        have e23 := hSw.cell (i := 23) (v := rv) rfl
        have e24 := hSw.cell (i := 24) (v := vv) rfl
        go_simp
        (try with_reducible rfl)
      (try simp only [Act.put, List.setIfInBounds_toArray, List.set_cons_zero, List.set_cons_succ])
      refine wpAnyT_take 5 (v := ?va3) rfl (by kernel_rfl) (fun _ _ _ h => hQ _ _ _ _ _ h) (Or.inl ⟨by rfl, ?ya3⟩) hS ?ra3
      case ya3 =>
        intro w hSw
        have e23 := hSw.cell (i := 23) (v := rv) rfl
        have e24 := hSw.cell (i := 24) (v := vv) rfl
        go_simp
        (try with_reducible rfl)
      (try simp only [Act.put, List.setIfInBounds_toArray, List.set_cons_zero, List.set_cons_succ])
      refine wpAnyT_take 6 (v := ?va4) rfl (by kernel_rfl) (fun _ _ _ h => hQ _ _ _ _ _ h) (Or.inl ⟨by rfl, ?ya4⟩) hS ?ra4
      case ya4 =>
        intro w hSw
        have e23 := hSw.cell (i := 23) (v := rv) rfl
        have e24 := hSw.cell (i := 24) (v := vv) rfl
        go_simp
        (try with_reducible rfl)
      (try simp only [Act.put, List.setIfInBounds_toArray, List.set_cons_zero, List.set_cons_succ])
      refine wpAnyT_two 2 7 rfl rfl (by kernel_rfl) (fun J hJ => ?_) (fun J hJ => ?_)
      · 
        have HD' := HD.step ((Only.refl [] _).alloc (.cells (cellsG erC [0]).toArray 3))
        have la := holdsG_lit erC_ok wd 3 [0] (by unfold maxLen; simp)
        refine step_bslice (by kernel_rfl) 24 1 #[(0, .const (.int .i64 0))] rfl #[(0, .int .i64 0)] (by kernel_rfl) _ _ (run_in1 0 _) ?_
        refine hJ.out _ _ HD'.b ?_
        clear hJ J
        (try simp only [Act.put, List.setIfInBounds_toArray, List.set_cons_zero, List.set_cons_succ])
        refine wpAnyT_two 3 7 rfl rfl (by kernel_rfl) (fun J hJ => ?_) (fun J hJ => ?_)
        · 
          obtain ⟨rv2, u_H2, run_H2, H2, on_H2⟩ := HD'.refs _ 0 la (by rw [List.length_replicate]; have := IB.out; omega)
          refine step_append_eqM rfl (.tmp 48) (.tmp 49) _ _ rfl _ _ rfl rfl rv2 u_H2 run_H2 ?_
          refine hJ.out _ _ H2.b ?_
          clear hJ J
          (try simp only [Act.put, List.setIfInBounds_toArray, List.set_cons_zero, List.set_cons_succ])
          refine wpAnyT_take 9 (v := ?va90) rfl (by kernel_rfl) (fun _ _ _ h => hQ _ _ _ _ _ h) (Or.inl ⟨by rfl, ?ya90⟩) H2.b ?ra90
          case ya90 =>
            intro w hSw
            have e23 := hSw.cell (i := 23) (v := rv) rfl
            have e24 := hSw.cell (i := 24) (v := vv) rfl
            go_simp
            (try with_reducible rfl)
          (try simp only [Act.put, List.setIfInBounds_toArray, List.set_cons_zero, List.set_cons_succ])
          refine wpAnyT_call 7 rfl (by kernel_rfl) (fun J hJ => ?_)
          have H2' := H2.step ((Only.refl [] _).alloc (.cells (cellsG vcC [(0, 0)]).toArray 36))
          have lb := holdsG_lit vcC_ok u_H2 36 [(0, 0)] (by unfold maxLen; simp)
          refine step_bslice (by kernel_rfl) 25 1 #[(0, .tmp 53)] rfl #[(0, .agg #[.int .i64 0, .int .i64 0])] (by kernel_rfl) _ _ (run_vc1 0 0 _) ?_
          refine hJ.out _ _ H2'.b ?_
          clear hJ J
          (try simp only [Act.put, List.setIfInBounds_toArray, List.set_cons_zero, List.set_cons_succ])
          refine wpAnyT_call 8 rfl (by kernel_rfl) (fun J hJ => ?_)
          obtain ⟨vv2, u_H4, run_H4, H4, on_H4⟩ := H2'.mvds _ (0, 0) lb (by rw [List.length_replicate]; have := IB.out; omega)
          refine step_append_eqM rfl (.tmp 52) (.tmp 54) _ _ rfl _ _ rfl rfl vv2 u_H4 run_H4 ?_
          refine hJ.out _ _ H4.b ?_
          clear hJ J
          (try simp only [Act.put, List.setIfInBounds_toArray, List.set_cons_zero, List.set_cons_succ])
          obtain ⟨ra2, rc2, er, _⟩ := id (H4.r.holds erC_ok)
          obtain ⟨va2, vc2, ev, _⟩ := id (H4.v.holds vcC_ok)
          simp only [List.length_append, List.length_replicate, List.length_cons, List.length_nil, Nat.zero_add] at er ev
          subst er ev
          have HE := hid H4
          have e23 := H4.b.cell (i := 23) (v := rv) rfl
          have e24 := H4.b.cell (i := 24) (v := vv) rfl
          have f23 := H4.b.frozen 23
          have f24 := H4.b.frozen 24
          refine wpAnyT_tail _ rfl (by kernel_rfl) ?_
          simp only [List.drop_succ_cons, List.drop_zero]
          clear hS HD
          go_wp2_with fail
          go_roundg gg
          case measure => omega
          case rel => exact ⟨i + 1, .slice ra2 (i + 1) rc2, .slice va2 (i + 1) vc2, IN.out, by go_num, by rw [show List.replicate (i + 1) (0 : Int) = List.replicate i 0 ++ [0] from List.replicate_succ', show List.replicate (i + 1) ((0, 0) : Int × Int) = List.replicate i (0, 0) ++ [(0, 0)] from List.replicate_succ']; exact (HE.out.set 23 _).set 24 _⟩
        · 
          have HD'' := HD'.step ((Only.refl [] _).alloc (.cells (cellsG vcC [(0, 0)]).toArray 36))
          have lb := holdsG_lit vcC_ok (wd.alloc (.cells (cellsG erC [0]).toArray 3)) 36 [(0, 0)] (by unfold maxLen; simp)
          refine step_bslice (by kernel_rfl) 25 1 #[(0, .tmp 53)] rfl #[(0, .agg #[.int .i64 0, .int .i64 0])] (by kernel_rfl) _ _ (run_vc1 0 0 _) ?_
          refine hJ.out _ _ HD''.b ?_
          clear hJ J
          (try simp only [Act.put, List.setIfInBounds_toArray, List.set_cons_zero, List.set_cons_succ])
          have la2 := la.only0 ((Only.refl [] _).alloc (.cells (cellsG vcC [(0, 0)]).toArray 36))
          refine wpAnyT_call 3 rfl (by kernel_rfl) (fun J hJ => ?_)
          obtain ⟨rv2, u_H2, run_H2, H2, on_H2⟩ := HD''.refs _ 0 la2 (by rw [List.length_replicate]; have := IB.out; omega)
          refine step_append_eqM rfl (.tmp 48) (.tmp 49) _ _ rfl _ _ rfl rfl rv2 u_H2 run_H2 ?_
          refine hJ.out _ _ H2.b ?_
          clear hJ J
          (try simp only [Act.put, List.setIfInBounds_toArray, List.set_cons_zero, List.set_cons_succ])
          refine wpAnyT_take 9 (v := ?va91) rfl (by kernel_rfl) (fun _ _ _ h => hQ _ _ _ _ _ h) (Or.inl ⟨by rfl, ?ya91⟩) H2.b ?ra91
          case ya91 =>
            intro w hSw
            have e23 := hSw.cell (i := 23) (v := rv) rfl
            have e24 := hSw.cell (i := 24) (v := vv) rfl
            go_simp
            (try with_reducible rfl)
          (try simp only [Act.put, List.setIfInBounds_toArray, List.set_cons_zero, List.set_cons_succ])
          have lb2 := lb.only on_H2 (fun a m c e hg => by have e1 := (Value.slice.inj e).1; simp only [Option.some.injEq] at e1; subst e1; have := HD'.r.lt _ hg; simp at this)
          refine wpAnyT_call 8 rfl (by kernel_rfl) (fun J hJ => ?_)
          obtain ⟨vv2, u_H4, run_H4, H4, on_H4⟩ := H2.mvds _ (0, 0) lb2 (by rw [List.length_replicate]; have := IB.out; omega)
          refine step_append_eqM rfl (.tmp 52) (.tmp 54) _ _ rfl _ _ rfl rfl vv2 u_H4 run_H4 ?_
          refine hJ.out _ _ H4.b ?_
          clear hJ J
          (try simp only [Act.put, List.setIfInBounds_toArray, List.set_cons_zero, List.set_cons_succ])
          obtain ⟨ra2, rc2, er, _⟩ := id (H4.r.holds erC_ok)
          obtain ⟨va2, vc2, ev, _⟩ := id (H4.v.holds vcC_ok)
          simp only [List.length_append, List.length_replicate, List.length_cons, List.length_nil, Nat.zero_add] at er ev
          subst er ev
          have HE := hid H4
          have e23 := H4.b.cell (i := 23) (v := rv) rfl
          have e24 := H4.b.cell (i := 24) (v := vv) rfl
          have f23 := H4.b.frozen 23
          have f24 := H4.b.frozen 24
          refine wpAnyT_tail _ rfl (by kernel_rfl) ?_
          simp only [List.drop_succ_cons, List.drop_zero]
          clear hS HD
          go_wp2_with fail
          go_roundg gg
          case measure => omega
          case rel => exact ⟨i + 1, .slice ra2 (i + 1) rc2, .slice va2 (i + 1) vc2, IN.out, by go_num, by rw [show List.replicate (i + 1) (0 : Int) = List.replicate i 0 ++ [0] from List.replicate_succ', show List.replicate (i + 1) ((0, 0) : Int × Int) = List.replicate i (0, 0) ++ [(0, 0)] from List.replicate_succ']; exact (HE.out.set 23 _).set 24 _⟩
      · 
        have HD' := HD.step ((Only.refl [] _).alloc (.cells (cellsG vcC [(0, 0)]).toArray 36))
        have lb := holdsG_lit vcC_ok wd 36 [(0, 0)] (by unfold maxLen; simp)
        refine step_bslice (by kernel_rfl) 25 1 #[(0, .tmp 53)] rfl #[(0, .agg #[.int .i64 0, .int .i64 0])] (by kernel_rfl) _ _ (run_vc1 0 0 _) ?_
        refine hJ.out _ _ HD'.b ?_
        clear hJ J
        (try simp only [Act.put, List.setIfInBounds_toArray, List.set_cons_zero, List.set_cons_succ])
        refine wpAnyT_call 2 rfl (by kernel_rfl) (fun J hJ => ?_)
        have HD'' := HD'.step ((Only.refl [] _).alloc (.cells (cellsG erC [0]).toArray 3))
        have la := holdsG_lit erC_ok (wd.alloc (.cells (cellsG vcC [(0, 0)]).toArray 36)) 3 [0] (by unfold maxLen; simp)
        refine step_bslice (by kernel_rfl) 24 1 #[(0, .const (.int .i64 0))] rfl #[(0, .int .i64 0)] (by kernel_rfl) _ _ (run_in1 0 _) ?_
        refine hJ.out _ _ HD''.b ?_
        clear hJ J
        (try simp only [Act.put, List.setIfInBounds_toArray, List.set_cons_zero, List.set_cons_succ])
        have lb1 := lb.only0 ((Only.refl [] _).alloc (.cells (cellsG erC [0]).toArray 3))
        refine wpAnyT_call 3 rfl (by kernel_rfl) (fun J hJ => ?_)
        obtain ⟨rv2, u_H2, run_H2, H2, on_H2⟩ := HD''.refs _ 0 la (by rw [List.length_replicate]; have := IB.out; omega)
        refine step_append_eqM rfl (.tmp 48) (.tmp 49) _ _ rfl _ _ rfl rfl rv2 u_H2 run_H2 ?_
        refine hJ.out _ _ H2.b ?_
        clear hJ J
        (try simp only [Act.put, List.setIfInBounds_toArray, List.set_cons_zero, List.set_cons_succ])
        refine wpAnyT_take 9 (v := ?va92) rfl (by kernel_rfl) (fun _ _ _ h => hQ _ _ _ _ _ h) (Or.inl ⟨by rfl, ?ya92⟩) H2.b ?ra92
        case ya92 =>
          intro w hSw
          have e23 := hSw.cell (i := 23) (v := rv) rfl
          have e24 := hSw.cell (i := 24) (v := vv) rfl
          go_simp
          (try with_reducible rfl)
        (try simp only [Act.put, List.setIfInBounds_toArray, List.set_cons_zero, List.set_cons_succ])
        have lb2 := lb1.only on_H2 (fun a m c e hg => by have e1 := (Value.slice.inj e).1; simp only [Option.some.injEq] at e1; subst e1; have := HD.r.lt _ hg; simp at this)
        refine wpAnyT_call 8 rfl (by kernel_rfl) (fun J hJ => ?_)
        obtain ⟨vv2, u_H4, run_H4, H4, on_H4⟩ := H2.mvds _ (0, 0) lb2 (by rw [List.length_replicate]; have := IB.out; omega)
        refine step_append_eqM rfl (.tmp 52) (.tmp 54) _ _ rfl _ _ rfl rfl vv2 u_H4 run_H4 ?_
        refine hJ.out _ _ H4.b ?_
        clear hJ J
        (try simp only [Act.put, List.setIfInBounds_toArray, List.set_cons_zero, List.set_cons_succ])
        obtain ⟨ra2, rc2, er, _⟩ := id (H4.r.holds erC_ok)
        obtain ⟨va2, vc2, ev, _⟩ := id (H4.v.holds vcC_ok)
        simp only [List.length_append, List.length_replicate, List.length_cons, List.length_nil, Nat.zero_add] at er ev
        subst er ev
        have HE := hid H4
        have e23 := H4.b.cell (i := 23) (v := rv) rfl
        have e24 := H4.b.cell (i := 24) (v := vv) rfl
        have f23 := H4.b.frozen 23
        have f24 := H4.b.frozen 24
        refine wpAnyT_tail _ rfl (by kernel_rfl) ?_
        simp only [List.drop_succ_cons, List.drop_zero]
        clear hS HD
        go_wp2_with fail
        go_roundg gg
        case measure => omega
        case rel => exact ⟨i + 1, .slice ra2 (i + 1) rc2, .slice va2 (i + 1) vc2, IN.out, by go_num, by rw [show List.replicate (i + 1) (0 : Int) = List.replicate i 0 ++ [0] from List.replicate_succ', show List.replicate (i + 1) ((0, 0) : Int × Int) = List.replicate i (0, 0) ++ [(0, 0)] from List.replicate_succ']; exact (HE.out.set 23 _).set 24 _⟩
end Go.Proofs.YtpmmnjeomdjakaaDoor

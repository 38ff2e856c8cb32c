/- NearCopies, where there is an object. -/
import Derived.Test.YtfmfknjjhemnoaaNcA
namespace Go.Proofs.Ytfmfknjjhemnoaa
open Go.RowKit
set_option linter.unusedVariables false
set_option linter.unusedSimpArgs false

set_option maxRecDepth 1000000 in
set_option maxHeartbeats 4000000 in
theorem ncopies_yes (f wd : Int) (b : Value) (us : List El) (x : MV) (s1 s2 s3 : SlV) (w : World) (hb : LIn w b us) (hm : MAt w x s1.sl s2.sl s3.sl) (h : okN f wd) (hn : f + us.length ≤ 8160) :
    Calls Try.prog 7 #[.int .i64 f, .int .i64 wd, b, mV x s1.sl s2.sl s3.sl] w fun e w' => e = .returned (.bool true) ∧ Only [] w w' := by
  obtain ⟨W, hW⟩ : ∃ W, W = w.alloc (.cells (mC x s1.sl s2.sl s3.sl).toArray 40) := ⟨_, rfl⟩
  have oW := hid (show Only [] w W from hW ▸ ((Only.refl [] w).alloc _))
  have BX := hid (show Blk W w.heap.size 40 (mC x s1.sl s2.sl s3.sl).toArray from hW ▸ Blk.new w _ _)
  obtain ⟨p, hp⟩ : ∃ p, p = w.heap.size := ⟨_, rfl⟩
  rw [← hp] at BX
  have HW := hid hW
  have HP := hid hp
  have FW := hid (few_any b us 30 W (hb.only0 oW.out) (by omega) (by omega))
  have FM := hid (fun w' (o : Only [] w w') => few_any _ [(x, s1, s2, s3)] 1 _ (lin_one (show EAt w' (x, s1, s2, s3) from hm.only0 o)) (by omega) (by omega))
  have AW := hid awake_any
  have HB := hid hb
  have HM := hid hm
  have LDX := hid (fun w' (o : Only [] W w') => (BX.out.only o (by simp)).mb)
  have MA := hid (fun w' (o : Only [] w w') hs hl => made_yes f wd b us w' h (hb.only0 o) hs hl hn)
  have CC := hid (fun w' (o : Only [] w w') (hs : ∀ e, e ∈ us → MSm e.1) (hl : us.length ≤ 100000) => copymbs_any b us w' (hb.only0 o).h (fun e he => ⟨(hb.only0 o).e e he, hs e he⟩) hl)
  obtain ⟨ba, bc, rfl, _⟩ := id hb.h
  obtain ⟨n, hn'⟩ : ∃ n, n = us.length := ⟨_, rfl⟩
  have N0 := hid hn'
  have f0 := h.1
  have f1 := h.2.1
  have EQ := hid (fun (hs : ∀ e, e ∈ us → MSm e.1) (w4 w5 : World) (g : Nat) (L : List El) (o : Only [] w w5) (q3 : Blk w5 g 40 (cellsG elC L).toArray) (q4 : L.map (·.1) = us.map (·.1)) (q5 : ∀ e, e ∈ L → Own (fun b => w4.heap.size ≤ b ∧ b ≠ g) w5 e) (hl : us.length ≤ 100) => (show Calls Try.prog 27 #[.slice (some ⟨g, 0, none⟩) us.length us.length, .slice ba us.length bc] w5 fun e w' => e = .returned (.bool true) ∧ Only [] w5 w' from by
    have ll : L.length = us.length := by
      have e1 := congrArg List.length q4
      rwa [List.length_map, List.length_map] at e1
    have HL : HoldsG elC 29 w5 (.slice (some ⟨g, 0, none⟩) us.length us.length) L := by
      have := (rowG_blk elC_ok q3 (by rw [ll]; unfold maxLen; omega)).holds elC_ok
      rwa [ll] at this
    exact eqmbs_same _ _ L us w5 HL (hb.only0 o).h (fun e he => ⟨(q5 e he).at, by
      have h1 : e.1 ∈ us.map (·.1) := by rw [← q4]; exact List.mem_map_of_mem he
      obtain ⟨d, hd, h2⟩ := List.mem_map.1 h1
      rw [← h2]
      exact hs d hd⟩) (hb.only0 o).e q4 (by omega)))
  obtain ⟨ms, hms⟩ : ∃ ms, ms = us.map (·.1) := ⟨_, rfl⟩
  have lm : ms.length = n := by rw [hms, List.length_map, hn']
  have LM := hid lm
  have MS := hid hms
  rw [← hms] at MA CC EQ
  rw [← hn'] at FW MA CC EQ hn ⊢
  have HN := hid hn
  clear hb hm h hn hn' hW hp lm hms
  unfold mV
  go_enter Try.func7, Try.ntmps7
  go_wp2_with (refine wp_box rfl 40 (.tmp 3) rfl (mC x s1.sl s2.sl s3.sl).toArray rfl HW.out HP.out ?_; simp only [Act.put, List.setIfInBounds_toArray, List.set_cons_zero, List.set_cons_succ])
  refine FW.out.mono ?_
  rintro e w1 ⟨rr, rfl, hr, o1⟩
  have HR := hid hr
  have O1 := hid (oW.out.trans o1)
  have L1 := hid (LDX.out _ o1)
  have R1 := hid (show Only [] W w1 from o1)
  clear hr o1
  cases rr with
  | false =>
    go_wp2_with fail
    go_ret
    exact ⟨rfl, O1.out⟩
  | true =>
    have SM := hid (HR.out rfl)
    have n40 : (n : Int) ≤ 30 := by have := SM.out.1; have := N0.out; omega
    clear HR
    go_wp2_with (first
      | (refine load_atG (by kernel_rfl) 40 (.tmp 7) rfl ⟨p, 0, none⟩ (mC x s1.sl s2.sl s3.sl) rfl L1.out ?_; simp only [Act.put, List.setIfInBounds_toArray, List.set_cons_zero, List.set_cons_succ])
      | (refine wp_buildSliceG (by kernel_rfl) 22 1 _ rfl #[(0, .agg (elC (x, s1, s2, s3)).toArray)] (by kernel_rfl) _ (run_mbs1 (x, s1, s2, s3) w1) ?_; simp only [Act.put, List.setIfInBounds_toArray, List.set_cons_zero, List.set_cons_succ]))
    refine (FM.out w1 O1.out).mono ?_
    rintro e w2 ⟨rm, rfl, hr, o2⟩
    have HR := hid hr
    have R2 := hid ((R1.out.alloc _).trans o2)
    have O2 := hid (oW.out.trans R2.out)
    clear hr o2
    cases rm with
    | false =>
      go_wp2_with fail
      go_ret
      exact ⟨rfl, O2.out⟩
    | true =>
      have SX := hid (show MSm x from (HR.out rfl).2 _ (List.mem_singleton.2 rfl))
      clear HR
      have M1 := hid (MA.out w2 O2.out SM.out.2 (by omega))
      go_wp2_with fail
      refine M1.out.mono ?_
      rintro e w3 ⟨na, FA, rfl, hA, fA, o3⟩
      have NA := hid hA
      have FN := hid fA
      have O3 := hid (O2.out.trans o3)
      have R3 := hid (R2.out.trans o3)
      have CP := hid (ncopy_any w3 hA)
      clear hA fA o3 M1 MA
      go_wp2_with fail
      refine CP.out.mono ?_
      rintro e w4 ⟨nc, FC, rfl, hC, fC, o4⟩
      have NC := hid hC
      have FCN := hid fC
      have O4 := hid (O3.out.trans o4)
      have P4 := hid (show Only [] w3 w4 from o4)
      have MB4 := hid (mbs_any w4 hC)
      clear hC fC o4 CP
      go_wp2_with fail
      refine MB4.out.mono ?_
      rintro e w5 ⟨g5, L5, rfl, _, q2, q3, q4, q5⟩
      rw [LM.out]
      have EQ5 := hid (EQ.out SM.out.2 w4 w5 g5 L5 (O4.out.trans q2) q3 q4 q5 (by omega))
      have O5 := hid (O4.out.trans q2)
      have P5 := hid (P4.out.trans q2)
      have Q5 := hid (show Only [] w4 w5 from q2)
      clear q2 q3 q4 q5 MB4
      go_wp2_with fail
      refine EQ5.out.mono ?_
      rintro e w6 ⟨rfl, o6⟩
      have O6 := hid (O5.out.trans o6)
      have P6 := hid (P5.out.trans o6)
      have Q6 := hid (Q5.out.trans o6)
      have MB6 := hid (mbs_any w6 (NA.out.only0 P6.out))
      clear o6 EQ5
      go_wp2_with fail
      refine MB6.out.mono ?_
      rintro e w7 ⟨g, L7, rfl, q1, q2, q3, q4, q5⟩
      rw [LM.out]
      have G7 := hid (show GotR w6.heap.size g n w7 from ⟨L7, by
        have e1 := congrArg List.length q4
        rwa [List.length_map, LM.out] at e1, q3, fun e he => (q5 e he).ints (by
        have h1 : e.1 ∈ us.map (·.1) := by rw [← MS.out, ← q4]; exact List.mem_map_of_mem he
        obtain ⟨d, hd, h2⟩ := List.mem_map.1 h1
        rw [← h2]
        exact SM.out.2 d hd)⟩)
      have T7 := hid (show Only [] w6 w7 from q2)
      have G6 := hid q1
      clear q1 q2 q3 q4 q5 MB6
      go_wp2_with fail
      go_loopg [12] n (fun k t wr => ∃ i : Nat, i + k = n ∧ t = .int .i64 i ∧ GotR w6.heap.size g n wr ∧ Only [] w6 wr)
      case atStart => exact ⟨0, by omega, rfl, G7.out, T7.out⟩
      case round =>
        obtain ⟨i, hi, rfl, hG, hO⟩ := hrel
        have GG := hid hG
        have TT := hid hO
        clear hG hO
        have i0 : (0 : Int) ≤ (i : Int) := by omega
        by_cases hg : gk = 0
        · have i1 : ¬ (i : Int) < (n : Int) := by omega
          clear hi hg
          have RW := hid (R3.out.trans (P6.out.trans TT.out))
          have OR := hid (oW.out.trans RW.out)
          have NR := hid (NA.out.only0 (P6.out.trans TT.out))
          have CR := hid (NC.out.only0 (Q6.out.trans TT.out))
          have LR := hid (LDX.out wr RW.out)
          clear GG TT G7 T7
          by_cases HF : f + (n : Int) < 8160
          · skip
            have HF : f + (n : Int) < 8160 := HF
            have AD := hid (add_yes x s1.sl s2.sl s3.sl wr NR.out (by rw [LM.out]; exact HF) (HM.out.only0 OR.out) SX.out)
            go_wp2_with (refine load_atA rfl 40 (.tmp 7) rfl ⟨p, 0, none⟩ (mC x s1.sl s2.sl s3.sl) rfl LR.out ?_; simp only [Act.put, List.setIfInBounds_toArray, List.set_cons_zero, List.set_cons_succ])
            refine AD.out.mono ?_
            rintro e x0 ⟨rfl, S, FA', h1, h2, h3, h4⟩
            have fa : ∀ y, FA y → w2.heap.size ≤ y ∧ y < w3.heap.size := fun y hy => ⟨FN.out y hy, NA.out.lt y hy⟩
            have WW : Only [] W x0 := RW.out.trans2 h1 (fun y hy => .inr (by have h5 := (fa y (h2 y hy)).1; have h6 := R2.out.size; omega))
            have NX := hid h3
            have CX := hid (CR.out.only h1 (fun y hy hc => by have h5 := (fa y (h2 y hy)).2; have h6 := FCN.out y hc; omega))
            clear h1 h2 h3 h4 fa AD
            have RX := hid WW
            have OX := hid (oW.out.trans WW)
            have MB0 := hid (mbs_any x0 CX.out)
            clear WW
            go_wp2_with fail
            refine MB0.out.mono ?_
            rintro e x1 ⟨g1, K1, rfl, _, q2, q3, q4, q5⟩
            rw [LM.out]
            have E1 := hid (EQ.out SM.out.2 x0 x1 g1 K1 (OX.out.trans q2) q3 q4 q5 (by omega))
            have V1 := hid (show Only [] x0 x1 from q2)
            clear q2 q3 q4 q5 MB0
            go_wp2_with fail
            refine E1.out.mono ?_
            rintro e x2 ⟨rfl, o2⟩
            have V2 := hid (V1.out.trans o2)
            have XN := hid (next_any x2 (CX.out.only0 V2.out))
            rw [LM.out] at XN
            clear o2 E1
            go_wp2_with fail
            refine XN.out.mono ?_
            rintro e x3 ⟨rfl, o3⟩
            have V3 := hid (V2.out.trans o3)
            have C3 := hid (CC.out x3 (OX.out.trans V3.out) SM.out.2 (by omega))
            clear o3 XN
            go_wp2_with fail
            refine C3.out.mono ?_
            rintro e x4 ⟨sv, rfl, KL, q1, q2, q3⟩
            have V4 := hid (V3.out.trans q1.only)
            have KQ := hid q2
            have KC := hid q1
            have KO := hid q3
            have LK : KL.length = n := by
              have e1 := congrArg List.length q2
              rwa [List.length_map, LM.out] at e1
            clear q1 q2 q3 C3
            obtain ⟨sv2, x5, hrun, hcol⟩ := (ColS.start KC.out).app1 elC_ok el_row (x, s1, s2, s3) (by rw [LK]; omega)
            have RUN := hid hrun
            have KS := hid hcol
            have LY := hid (LDX.out x4 (RX.out.trans V4.out))
            clear hrun hcol
            go_wp2_with (first
              | (refine load_atA rfl 40 (.tmp 7) rfl ⟨p, 0, none⟩ (mC x s1.sl s2.sl s3.sl) rfl LY.out ?_; simp only [Act.put, List.setIfInBounds_toArray, List.set_cons_zero, List.set_cons_succ])
              | (refine wp_buildSlice rfl 22 1 _ rfl #[(0, .agg (elC (x, s1, s2, s3)).toArray)] (by kernel_rfl) _ (run_mbs1 (x, s1, s2, s3) x4) ?_; simp only [Act.put, List.setIfInBounds_toArray, List.set_cons_zero, List.set_cons_succ])
              | (refine wp_append_eq (by kernel_rfl) (.tmp 100) (.tmp 102) _ _ rfl _ _ sv2 x5 rfl rfl RUN.out ?_; simp only [Act.put, List.setIfInBounds_toArray, List.set_cons_zero, List.set_cons_succ]))
            have sz : ∀ y, y ∈ ownG sv → x0.heap.size ≤ y := fun y hy => Nat.le_trans V3.out.size (KC.out.new y hy)
            have V5 := hid (show Only [] x0 x5 from V4.out.trans2 KS.out.only (fun y hy => .inr (sz y hy)))
            have N5 := hid (NX.out.only ((V4.out.mono (fun _ _ h => by cases h)).trans KS.out.only) (fun y hy hF => by have h5 := NX.out.lt y hF; have h6 := sz y hy; omega))
            have H5 := hid (KS.out.row.holds elC_ok)
            have E5 := hid (fun e (he : e ∈ KL ++ [(x, s1, s2, s3)]) => (show EAt x5 e from by
              rcases List.mem_append.1 he with h | h
              · exact ((KO.out e h).step KS.out.only (fun y hy hF => hF.2 hy)).at
              · simp at h
                rw [h]
                exact HM.out.only0 (OX.out.trans V5.out)))
            have Q5' := hid (show (KL ++ [(x, s1, s2, s3)]).map (·.1) = ms ++ [x] by rw [List.map_append, KQ.out]; rfl)
            clear sz
            refine (mbs_any x5 N5.out).mono ?_
            rintro e x6 ⟨g6, K6, rfl, _, q2, q3, q4, q5⟩
            have EF := hid (eqmbs_cpd q3 q4 q5 N5.out.sm sv2 (KL ++ [(x, s1, s2, s3)]) (H5.out.only0 q2) (fun e he => EAt.only0 (E5.out e he) q2) Q5'.out (by have h := LM.out; (try simp only [List.length_append, List.length_cons, List.length_nil]); omega))
            rw [List.length_append, List.length_singleton] at EF
            have V6 := hid (V5.out.trans q2)
            clear q2 q3 q4 q5
            go_wp2_with fail
            refine EF.out.mono ?_
            rintro e x7 ⟨rfl, o7⟩
            have V7 := hid (V6.out.trans o7)
            clear o7
            go_wp2_with fail
            refine (AW.out x7).mono ?_
            rintro e x8 ⟨rfl, o8⟩
            have V8 := hid (V7.out.trans o8)
            clear o8
            go_wp2_with fail
            go_ret
            exact ⟨rfl, OX.out.trans V8.out⟩
          · skip
            have HF : ¬ f + (n : Int) < 8160 := HF
            have AD := hid (add_long x s1.sl s2.sl s3.sl wr NR.out (by rw [LM.out]; exact HF))
            go_wp2_with (refine load_atA rfl 40 (.tmp 7) rfl ⟨p, 0, none⟩ (mC x s1.sl s2.sl s3.sl) rfl LR.out ?_; simp only [Act.put, List.setIfInBounds_toArray, List.set_cons_zero, List.set_cons_succ])
            refine AD.out.mono ?_
            rintro e x0 ⟨rfl, o0⟩
            have WW : Only [] W x0 := RW.out.trans o0
            have NX := hid (NR.out.only0 o0)
            have CX := hid (CR.out.only0 o0)
            clear o0 AD
            have RX := hid WW
            have OX := hid (oW.out.trans WW)
            have MB0 := hid (mbs_any x0 CX.out)
            clear WW
            go_wp2_with fail
            refine MB0.out.mono ?_
            rintro e x1 ⟨g1, K1, rfl, _, q2, q3, q4, q5⟩
            rw [LM.out]
            have E1 := hid (EQ.out SM.out.2 x0 x1 g1 K1 (OX.out.trans q2) q3 q4 q5 (by omega))
            have V1 := hid (show Only [] x0 x1 from q2)
            clear q2 q3 q4 q5 MB0
            go_wp2_with fail
            refine E1.out.mono ?_
            rintro e x2 ⟨rfl, o2⟩
            have V2 := hid (V1.out.trans o2)
            have XN := hid (next_any x2 (CX.out.only0 V2.out))
            rw [LM.out] at XN
            clear o2 E1
            go_wp2_with fail
            refine XN.out.mono ?_
            rintro e x3 ⟨rfl, o3⟩
            have V3 := hid (V2.out.trans o3)
            have C3 := hid (CC.out x3 (OX.out.trans V3.out) SM.out.2 (by omega))
            clear o3 XN
            go_wp2_with fail
            refine C3.out.mono ?_
            rintro e x4 ⟨sv, rfl, KL, q1, q2, q3⟩
            have V4 := hid (V3.out.trans q1.only)
            have KQ := hid q2
            have KC := hid q1
            have KO := hid q3
            have LK : KL.length = n := by
              have e1 := congrArg List.length q2
              rwa [List.length_map, LM.out] at e1
            clear q1 q2 q3 C3
            have V5 := V4
            have N5 := hid (NX.out.only0 V4.out)
            have H5 := hid (KC.out.row.holds elC_ok)
            have E5 := hid (fun e (he : e ∈ KL) => (KO.out e he).at)
            have Q5' := KQ
            go_wp2_with fail
            refine (mbs_any x4 N5.out).mono ?_
            rintro e x6 ⟨g6, K6, rfl, _, q2, q3, q4, q5⟩
            have EF := hid (eqmbs_cpd q3 q4 q5 N5.out.sm sv KL (H5.out.only0 q2) (fun e he => EAt.only0 (E5.out e he) q2) Q5'.out (by have h := LM.out; (try simp only [List.length_append, List.length_cons, List.length_nil]); omega))
            have V6 := hid (V5.out.trans q2)
            clear q2 q3 q4 q5
            go_wp2_with fail
            refine EF.out.mono ?_
            rintro e x7 ⟨rfl, o7⟩
            have V7 := hid (V6.out.trans o7)
            clear o7
            go_wp2_with fail
            refine (AW.out x7).mono ?_
            rintro e x8 ⟨rfl, o8⟩
            have V8 := hid (V7.out.trans o8)
            clear o8
            go_wp2_with fail
            go_ret
            exact ⟨rfl, OX.out.trans V8.out⟩
        · obtain ⟨gg, rfl⟩ : ∃ gg, gk = gg + 1 := ⟨gk - 1, by omega⟩
          have IN := hid (show i + 1 + gg = n by omega)
          have i1 : (i : Int) < (n : Int) := by omega
          have i2 : 0 ≤ (i : Int) ∧ (i : Int) < (n : Int) := ⟨i0, i1⟩
          obtain ⟨L, q1, q2, q3⟩ := GG.out
          obtain ⟨e, hL⟩ : ∃ e, L[i]? = some e := ⟨_, List.getElem?_eq_getElem (by omega)⟩
          obtain ⟨y, ⟨ra, rl, rc⟩, r2, r3⟩ := e
          have c26 := blk_at elC_ok q2 hL 26 _ rfl
          have y26 := q2.frozen (i * 29 + 26)
          have SET := hid (fun z => GotR.qp q1 q2 q3 hL z)
          have IL := hid (show i < L.length by omega)
          have BG := hid (show Only [] w6 wr ∧ w6.heap.size ≤ g from ⟨TT.out, G6.out⟩)
          have HLS := hid hL
          clear hi hg hL q1 q2 q3
          go_upto_region 14 with fail
          generalize hwz : World.setCell _ _ _ = ww
          obtain ⟨z, hz⟩ : ∃ z, ww = wr.setCell ⟨g, i * 29 + 26, none⟩ (.int .i64 z) := ⟨_, hwz.symm⟩
          have SZ := SET.out z
          have oz : Only [g] wr ww := by rw [hz]; exact (Only.refl _ _).setCell (.inl (by simp)) _
          rw [← hz] at SZ
          have TZ := hid (show Only [] w6 ww from TT.out.trans2 oz (fun b hb => .inr (by have := G6.out; simp at hb; omega)))
          obtain ⟨L', hL'⟩ : ∃ L', L' = L.set i ({ y with qp := z }, (ra, rl, rc), r2, r3) := ⟨_, rfl⟩
          rw [← hL'] at SZ
          have AT := hid (show L'[i]? = some ({ y with qp := z }, (ra, rl, rc), r2, r3) by rw [hL', List.getElem?_set_self IL.out])
          have S1 := hid SZ.1
          have S2 := hid SZ.2.1
          have S3 := hid SZ.2.2
          clear hwz hz SZ oz hL' SET c26 y26
          go_wp2_with fail
          go_loopg [13] rl (fun h t wi => ∃ k : Nat, k + h = rl ∧ t = .int .i64 k ∧ Blk wi g 40 (cellsG elC L').toArray ∧ (∀ e, e ∈ L' → IntsAt w6.heap.size g wi e.2.1) ∧ Only [] w6 wi)
          case atStart => exact ⟨0, by omega, rfl, S2.out, S3.out, TZ.out⟩
          case round =>
            obtain ⟨k, hk, rfl, hB, hI, hO⟩ := hrel
            have KI := hid hI
            have KB := hid hB
            have KO := hid hO
            have c23 := blk_at elC_ok hB AT.out 23 (.slice ra rl rc) rfl
            clear hI hB hO
            have k0 : (0 : Int) ≤ (k : Int) := by omega
            have rb40 : (rl : Int) ≤ 40 := by have : rl ≤ 40 := (KI.out _ (List.mem_of_getElem? AT.out)).1; omega
            by_cases hg : gk = 0
            · have k1 : ¬ (k : Int) < (rl : Int) := by omega
              have GN := hid (show GotR w6.heap.size g n wr from ⟨L', S1.out, KB.out, KI.out⟩)
              clear hk hg
              go_wp2_with fail
              go_roundg gg
              case measure => omega
              case rel => exact ⟨i + 1, IN.out, by go_num, GN.out, KO.out⟩
            · obtain ⟨hh, rfl⟩ : ∃ hh, gk = hh + 1 := ⟨gk - 1, by omega⟩
              have KN := hid (show k + 1 + hh = rl by omega)
              have k1 : (k : Int) < (rl : Int) := by omega
              have k2 : 0 ≤ (k : Int) ∧ (k : Int) < (rl : Int) := ⟨k0, k1⟩
              obtain ⟨rb, ro, vz, hra, cz, fz, bz, gz⟩ := (KI.out _ (List.mem_of_getElem? AT.out)).2 k (show k < rl by omega)
              have hra : ra = some ⟨rb, ro, none⟩ := hra
              subst hra
              have PK := hid (fun x e (he : e ∈ L') => (KI.out e he).poke cz x)
              have BZ := hid (show w6.heap.size ≤ rb ∧ rb ≠ g from ⟨bz, gz⟩)
              clear hk hg bz gz
              go_wp2_with fail
              go_roundg hh
              case measure => omega
              case rel => exact ⟨k + 1, KN.out, by go_num, KB.out.only ((Only.refl [rb] _).setCell (.inl (by simp)) _) (by have := BZ.out.2; simp; exact fun e => this e.symm), PK.out _, KO.out.trans2 ((Only.refl [rb] _).setCell (.inl (by simp)) _) (fun b hb => .inr (by have := BZ.out.1; simp at hb; omega))⟩
end Go.Proofs.Ytfmfknjjhemnoaa

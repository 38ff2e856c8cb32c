/- The contracts of the package mb, at the landed commit: check13_any, size13_any (MqS), blocks13_any (MqF), block13_any (MqH), copy13_any (MqI), equal13_any (MqM); MbV (MqV). -/
/- MbChecks. -/
/- Plain facts: what is valid for some reference indices is valid for more; mod. -/
/- Numbers in memory that are overwritten by others: what is left as it was. -/
/- MbEquals: the loops. -/
/- MbEquals: the beginning. -/
/- MbEquals. -/
/- The kit's EqualCodeds; the reference's Block. -/
import Derived.Test.YtpmmnjeomdjakaaDoorMmb12
import Derived.Test.YtpmmnjeomdjakaaDoorMcG
import Derived.Test.YtpmmnjeomdjakaaDoorMmb5
import Derived.Test.YtpmmnjeomdjakaaDoorMqS
import Derived.Test.YtpmmnjeomdjakaaDoorMmb14
import Derived.Test.YtpmmnjeomdjakaaDoorMmb15
import Derived.Test.YtpmmnjeomdjakaaDoorMqM
import Derived.IntWalk
import Derived.Test.YtpmmnjeomdjakaaDoorMmb8
section
set_option maxRecDepth 20000

end
section
set_option maxRecDepth 20000
namespace Go.Proofs.YtpmmnjeomdjakaaDoor
open Go.RowKit
set_option linter.unusedVariables false
set_option linter.unusedSimpArgs false

theorem fewM_in {x : MV} (h : MIn x) : MIn (fewM x) := ⟨h.k0, h.k1, h.m0, h.m1, h.h0, h.h1, h.p, h.s, h.c0, h.c1, h.q0, h.q1⟩
theorem fewM_few (x : MV) : MFew (fewM x) := ⟨by simp [fewM, List.length_take]; omega, by simp [fewM, List.length_take]; omega, by simp [fewM, List.length_take]; omega, fun l hl => by
  simp only [fewM, List.mem_map] at hl
  obtain ⟨y, _, rfl⟩ := hl
  have := List.length_take_le 20 y
  omega⟩
theorem few_len {x : MV} (h : MFew x) : MLen x := ⟨by have := h.r; omega, by have := h.v; omega, by have := h.b; omega, fun l hl => by have := h.i l hl; omega⟩
/-- What awake answers, wherever it is called. -/
def Awake13 : Prop := ∀ w : World, MbV w → Calls Tryd.prog 14 #[] w fun e w' => e = .returned (.bool true) ∧ Only [] w w'
set_option maxRecDepth 1000000 in
set_option maxHeartbeats 8000000 in
theorem mbchecks_any (hA : Awake13) (x : MV) (rv vv bv : Value) (refs : Int) (w : World) (hV : MbV w) (hx : MIn x) (hm : MAt w x rv vv bv) (l4 : ∀ l, l ∈ x.blocks → l.length ≤ 17592186043904) (lp : x.pcm.size ≤ maxLen) :
    Calls Tryd.prog 3 #[mV x rv vv bv, .int .i64 refs] w fun e w' => e = .returned (.bool true) ∧ Only [] w w' := by
  obtain ⟨W, hW⟩ : ∃ W, W = w.alloc (.cells (mC x rv vv bv).toArray 28) := ⟨_, rfl⟩
  have BX := hid (show Blk W w.heap.size 28 (mC x rv vv bv).toArray from hW ▸ Blk.new w _ _)
  obtain ⟨p, hp⟩ : ∃ p, p = w.heap.size := ⟨_, rfl⟩
  have oW := hid (show Only [] w W ∧ p < W.heap.size ∧ w.heap.size ≤ p from ⟨hW ▸ ((Only.refl [] w).alloc _), by rw [hp]; exact BX.out.lt, by omega⟩)
  rw [← hp] at BX
  have FW := hid (few13_any x rv vv bv W (hm.only0 oW.out.1) l4 lp)
  have V := hid (fun w' (o : Only [] w w') => hV.only0 o)
  have yi := fewM_in hx
  have yf := fewM_few x
  obtain ⟨y, hy⟩ : ∃ y, y = fewM x := ⟨_, rfl⟩
  rw [← hy] at FW yi yf
  have YI := hid yi
  have YF := hid yf
  have AW := hid hA
  have HW := hid hW
  have HP := hid hp
  clear hW hm l4 lp hV hx hy hp yi yf
  unfold mV
  go_enter Tryd.func3, Tryd.ntmps3
  go_wp2_with (first
    | (refine wp_box rfl 28 (.tmp 0) rfl (mC x rv vv bv).toArray rfl HW.out HP.out ?_; simp only [Act.put, List.setIfInBounds_toArray, List.set_cons_zero, List.set_cons_succ])
    | (refine load_atA rfl 28 (.tmp 2) rfl ⟨p, 0, none⟩ (mC x rv vv bv) rfl BX.out.mb ?_; simp only [Act.put, List.setIfInBounds_toArray, List.set_cons_zero, List.set_cons_succ]))
  refine FW.out.mono ?_
  rintro e w3 ⟨ra, va, ba, rfl, ha, o3⟩
  have b3 := BX.out.only o3 (by simp)
  have O3 := hid (oW.out.1.trans o3)
  have HA' := hid ha
  have one3 := (ha [] w3 (Only.refl _ _) (by simp)).one
  unfold mV
  go_upto_region 2 with (refine store_blk rfl 28 (.tmp 2) (.tmp 8) rfl p 0 _ _ (mC y ra va ba) rfl rfl (info_mb' _ _ _ _) b3 (by simp [mC]) (one_mC y one3.1 one3.2.1 one3.2.2) ?_; intro w4 hB4 hO4)
  rw [setsA_full (by simp [mC])] at hB4
  have P4 := hid hB4
  have S4 := hid (show Only [] w w4 ∧ w4.heap.size = w4.heap.size ∧ Only [p] w3 w4 from ⟨O3.out.trans2 hO4 (fun g hg => .inr (by have := oW.out.2.2; simp at hg; omega)), rfl, hO4⟩)
  have M4 := hid (show ∀ w', Only [] w4 w' → MAt w' y ra va ba from fun w' o => HA'.out [p] w' (hO4.trans (o.mono (fun _ _ h => by cases h))) (fun g hg => by have := oW.out.2.1; simp at hg; omega))
  have C4 := hid (copymb_any y ra va ba w4 (M4.out w4 (Only.refl _ _)) (by have := YF.out.r; omega) (by have := YF.out.v; omega) (by have := YF.out.b; omega) (fun l hl => by have := YF.out.i l hl; omega))
  clear hB4 hO4 b3 o3 ha one3
  go_wp2_with (refine load_atA rfl 28 (.tmp 2) rfl ⟨p, 0, none⟩ (mC y ra va ba) rfl P4.out.mb ?_; simp only [Act.put, List.setIfInBounds_toArray, List.set_cons_zero, List.set_cons_succ])
  refine C4.out.mono ?_
  rintro e w5 ⟨rb, vb, bb, rfl, ho⟩
  have one5 := ho.at.one
  have O5 := hid (S4.out.1.trans ho.only)
  have HO := hid ho
  clear ho
  go_upto_region 3 with (refine store_blk rfl 28 (.tmp 5) (.tmp 10) rfl w5.heap.size 0 _ _ (mC y rb vb bb) rfl rfl (info_mb' _ _ _ _) (Blk.new w5 _ _) (by simp [mC]) (one_mC y one5.1 one5.2.1 one5.2.2) ?_; intro w6 hB6 hO6)
  rw [setsA_full (by simp [mC])] at hB6
  have o6 : Only [] w5 w6 := ((Only.refl [] w5).alloc _).trans2 hO6 (fun g hg => .inr (by simp at hg; omega))
  obtain ⟨q, hq⟩ : ∃ q, q = w5.heap.size := ⟨_, rfl⟩
  rw [← hq] at hB6 ⊢
  have LP := hid (fun w' (o : Only [] w6 w') => ((P4.out.only HO.out.only (by simp)).only o6 (by simp)).only o (by simp))
  have LQ := hid (fun w' (o : Only [] w6 w') => hB6.only o (by simp))
  have MP := hid (fun w' (o : Only [] w6 w') => M4.out w' ((HO.out.only.trans o6).trans o))
  have MQ := hid (fun w' (o : Only [] w6 w') => HO.out.at.only0 (o6.trans o))
  have O6 := hid (show Only [] w w6 from O5.out.trans o6)
  have CK := hid (fun w' (o : Only [] w6 w') i r => check13_any y rb vb bb i r w' (V.out w' (O6.out.trans o)) YI.out (MQ.out w' o) YF.out)
  have RK := hid (fun w' (o : Only [] w6 w') i r => rcheck_any y ra va ba i r w' YI.out (MP.out w' o) YF.out)
  have EQ := hid (fun w' (o : Only [] w6 w') => eqmb_same y rb vb bb ra va ba w' (MQ.out w' o) (MP.out w' o) (few_len YF.out))
  have AV := hid (fun w' (o : Only [] w6 w') => AW.out w' (V.out w' (O6.out.trans o)))
  clear hq hB6 hO6 o6 one5 BX P4 M4 C4 HO O5 S4 HA' O3 oW FW HW HP
  go_wp2_with fail
  go_loopg [6] 2 (fun g t wr => ∃ i : Nat, i + g = 2 ∧ t = .int .i64 i ∧ Only [] w6 wr)
  case atStart => exact ⟨0, rfl, rfl, Only.refl _ _⟩
  case round =>
    obtain ⟨i, hi, rfl, hO⟩ := hrel
    have OO := hid hO
    clear hO
    have i0 : (0 : Int) ≤ (i : Int) := by omega
    by_cases hg : gk = 0
    · have i1 : ¬ (i : Int) < 2 := by omega
      clear hi hg
      go_upto_region 8 with fail
      refine wp_region_heldH (fun w' => Only [] w6 w') 21 (by kernel_rfl) rfl (OO.out).drew (fun hS => ?_)
      generalize wr.drew = wd at *
      refine wpAnyH_read 0 rfl (by kernel_rfl) (by kernel_rfl) (by kernel_rfl) (fun _ _ _ h => h) hS (yields_load 28 _ (by rfl) rfl ⟨q, 0, none⟩ (mC y rb vb bb) rfl (fun w' o => (LQ.out w' o).mb)) ?_
      (try simp only [Act.put, List.setIfInBounds_toArray, List.set_cons_zero, List.set_cons_succ])
      refine wpAnyH_read 2 rfl (by kernel_rfl) (by kernel_rfl) (by kernel_rfl) (fun _ _ _ h => h) hS (yields_load 28 _ (by rfl) rfl ⟨p, 0, none⟩ (mC y ra va ba) rfl (fun w' o => (LP.out w' o).mb)) ?_
      (try simp only [Act.put, List.setIfInBounds_toArray, List.set_cons_zero, List.set_cons_succ])
      refine wpAnyH_call 1 rfl (by kernel_rfl) (fun J hJ => ?_)
      rw [if_pos (by rfl)]
      go_simp
      refine (CK.out _ hS _ _).mono ?_
      rintro e x1 ⟨rfl, p_⟩
      have s1 := hS.trans p_
      clear p_
      refine hJ.out _ _ s1 ?_
      clear hJ J
      (try simp only [Act.put, List.setIfInBounds_toArray, List.set_cons_zero, List.set_cons_succ])
      refine wpAnyH_call 3 rfl (by kernel_rfl) (fun J hJ => ?_)
      rw [if_pos (by rfl)]
      go_simp
      refine (RK.out _ s1 _ _).mono ?_
      rintro e x3 ⟨rfl, p_⟩
      have s3 := s1.trans p_
      clear p_
      refine hJ.out _ _ s3 ?_
      clear hJ J
      (try simp only [Act.put, List.setIfInBounds_toArray, List.set_cons_zero, List.set_cons_succ])
      obtain ⟨ck, hck⟩ : ∃ c, c = checkI y true 0 := ⟨_, rfl⟩
      rw [← hck]
      clear hck
      refine wpAnyH_read 4 (v := ?va1) rfl (by kernel_rfl) (by kernel_rfl) (by kernel_rfl) (fun _ _ _ h => h) s3 (Or.inl ⟨by rfl, ?ya1⟩) ?ra1
      case ya1 =>
        intro w hSw
        skip
        go_simp
        (try with_reducible rfl)
      (try simp only [Act.put, List.setIfInBounds_toArray, List.set_cons_zero, List.set_cons_succ])
      refine wpAnyH_read 5 (v := ?va2) rfl (by kernel_rfl) (by kernel_rfl) (by kernel_rfl) (fun _ _ _ h => h) s3 (Or.inl ⟨by rfl, ?ya2⟩) ?ra2
      case ya2 =>
        intro w hSw
        skip
        go_simp
        (try with_reducible rfl)
      (try simp only [Act.put, List.setIfInBounds_toArray, List.set_cons_zero, List.set_cons_succ])
      refine wpAnyH_read 6 rfl (by kernel_rfl) (by kernel_rfl) (by kernel_rfl) (fun _ _ _ h => h) s3 (yields_load 28 _ (by rfl) rfl ⟨q, 0, none⟩ (mC y rb vb bb) rfl (fun w' o => (LQ.out w' o).mb)) ?_
      (try simp only [Act.put, List.setIfInBounds_toArray, List.set_cons_zero, List.set_cons_succ])
      refine wpAnyH_read 8 rfl (by kernel_rfl) (by kernel_rfl) (by kernel_rfl) (fun _ _ _ h => h) s3 (yields_load 28 _ (by rfl) rfl ⟨p, 0, none⟩ (mC y ra va ba) rfl (fun w' o => (LP.out w' o).mb)) ?_
      (try simp only [Act.put, List.setIfInBounds_toArray, List.set_cons_zero, List.set_cons_succ])
      refine wpAnyH_call 7 rfl (by kernel_rfl) (fun J hJ => ?_)
      rw [if_pos (by rfl)]
      go_simp
      refine (CK.out _ s3 _ _).mono ?_
      rintro e x7 ⟨rfl, p_⟩
      have s7 := s3.trans p_
      clear p_
      refine hJ.out _ _ s7 ?_
      clear hJ J
      (try simp only [Act.put, List.setIfInBounds_toArray, List.set_cons_zero, List.set_cons_succ])
      refine wpAnyH_call 9 rfl (by kernel_rfl) (fun J hJ => ?_)
      rw [if_pos (by rfl)]
      go_simp
      refine (RK.out _ s7 _ _).mono ?_
      rintro e x9 ⟨rfl, p_⟩
      have s9 := s7.trans p_
      clear p_
      refine hJ.out _ _ s9 ?_
      clear hJ J
      (try simp only [Act.put, List.setIfInBounds_toArray, List.set_cons_zero, List.set_cons_succ])
      obtain ⟨cl, hcl⟩ : ∃ c, c = checkI y false 2 := ⟨_, rfl⟩
      rw [← hcl]
      clear hcl
      refine wpAnyH_read 10 (v := ?va3) rfl (by kernel_rfl) (by kernel_rfl) (by kernel_rfl) (fun _ _ _ h => h) s9 (Or.inl ⟨by rfl, ?ya3⟩) ?ra3
      case ya3 =>
        intro w hSw
        skip
        go_simp
        (try with_reducible rfl)
      (try simp only [Act.put, List.setIfInBounds_toArray, List.set_cons_zero, List.set_cons_succ])
      refine wpAnyH_read 11 (v := ?va4) rfl (by kernel_rfl) (by kernel_rfl) (by kernel_rfl) (fun _ _ _ h => h) s9 (Or.inl ⟨by rfl, ?ya4⟩) ?ra4
      case ya4 =>
        intro w hSw
        skip
        go_simp
        (try with_reducible rfl)
      (try simp only [Act.put, List.setIfInBounds_toArray, List.set_cons_zero, List.set_cons_succ])
      refine wpAnyH_read 12 (v := ?va5) rfl (by kernel_rfl) (by kernel_rfl) (by kernel_rfl) (fun _ _ _ h => h) s9 (Or.inl ⟨by rfl, ?ya5⟩) ?ra5
      case ya5 =>
        intro w hSw
        skip
        go_simp
        (try with_reducible rfl)
      (try simp only [Act.put, List.setIfInBounds_toArray, List.set_cons_zero, List.set_cons_succ])
      refine wpAnyH_read 13 rfl (by kernel_rfl) (by kernel_rfl) (by kernel_rfl) (fun _ _ _ h => h) s9 (yields_load 28 _ (by rfl) rfl ⟨q, 0, none⟩ (mC y rb vb bb) rfl (fun w' o => (LQ.out w' o).mb)) ?_
      (try simp only [Act.put, List.setIfInBounds_toArray, List.set_cons_zero, List.set_cons_succ])
      refine wpAnyH_read 14 rfl (by kernel_rfl) (by kernel_rfl) (by kernel_rfl) (fun _ _ _ h => h) s9 (yields_load 28 _ (by rfl) rfl ⟨p, 0, none⟩ (mC y ra va ba) rfl (fun w' o => (LP.out w' o).mb)) ?_
      (try simp only [Act.put, List.setIfInBounds_toArray, List.set_cons_zero, List.set_cons_succ])
      refine wpAnyH_call 15 rfl (by kernel_rfl) (fun J hJ => ?_)
      rw [if_pos (by rfl)]
      go_simp
      refine (EQ.out _ s9).mono ?_
      rintro e x15 ⟨rfl, p_⟩
      have s15 := s9.trans p_
      clear p_
      refine hJ.out _ _ s15 ?_
      clear hJ J
      (try simp only [Act.put, List.setIfInBounds_toArray, List.set_cons_zero, List.set_cons_succ])
      refine wpAnyH_read 16 (v := ?va6) rfl (by kernel_rfl) (by kernel_rfl) (by kernel_rfl) (fun _ _ _ h => h) s15 (Or.inl ⟨by rfl, ?ya6⟩) ?ra6
      case ya6 =>
        intro w hSw
        skip
        go_simp
        (try with_reducible rfl)
      (try simp only [Act.put, List.setIfInBounds_toArray, List.set_cons_zero, List.set_cons_succ])
      refine wpAnyH_read 17 (v := ?va7) rfl (by kernel_rfl) (by kernel_rfl) (by kernel_rfl) (fun _ _ _ h => h) s15 (Or.inl ⟨by rfl, ?ya7⟩) ?ra7
      case ya7 =>
        intro w hSw
        skip
        go_simp
        (try with_reducible rfl)
      (try simp only [Act.put, List.setIfInBounds_toArray, List.set_cons_zero, List.set_cons_succ])
      refine wpAnyH_call 18 rfl (by kernel_rfl) (fun J hJ => ?_)
      rw [if_pos (by rfl)]
      go_simp
      refine (AV.out _ s15).mono ?_
      rintro e x18 ⟨rfl, p_⟩
      have s18 := s15.trans p_
      clear p_
      refine hJ.out _ _ s18 ?_
      clear hJ J
      (try simp only [Act.put, List.setIfInBounds_toArray, List.set_cons_zero, List.set_cons_succ])
      refine wpAnyH_read 19 (v := ?va8) rfl (by kernel_rfl) (by kernel_rfl) (by kernel_rfl) (fun _ _ _ h => h) s18 (Or.inl ⟨by rfl, ?ya8⟩) ?ra8
      case ya8 =>
        intro w hSw
        skip
        go_simp
        (try with_reducible rfl)
      (try simp only [Act.put, List.setIfInBounds_toArray, List.set_cons_zero, List.set_cons_succ])
      refine wpAnyH_read 20 (v := ?va9) rfl (by kernel_rfl) (by kernel_rfl) (by kernel_rfl) (fun _ _ _ h => h) s18 (Or.inl ⟨by rfl, ?ya9⟩) ?ra9
      case ya9 =>
        intro w hSw
        skip
        go_simp
        (try with_reducible rfl)
      (try simp only [Act.put, List.setIfInBounds_toArray, List.set_cons_zero, List.set_cons_succ])
      refine wpAnyH_done (by kernel_rfl) ?_ _
      have OF := hid (O6.out.trans s18)
      go_wp2_with fail
      go_ret
      exact ⟨rfl, OF.out⟩
    · obtain ⟨gg, rfl⟩ : ∃ gg, gk = gg + 1 := ⟨gk - 1, by omega⟩
      have IN := hid (show i + 1 + gg = 2 by omega)
      have i1 : (i : Int) < 2 := by omega
      clear hi hg
      go_upto_region 6 with fail
      refine wp_region_heldH (fun w' => Only [] w6 w') 11 (by kernel_rfl) rfl (OO.out).drew (fun hS => ?_)
      generalize wr.drew = wd at *
      refine wpAnyH_read 0 rfl (by kernel_rfl) (by kernel_rfl) (by kernel_rfl) (fun _ _ _ h => h) hS (yields_load 28 _ (by rfl) rfl ⟨q, 0, none⟩ (mC y rb vb bb) rfl (fun w' o => (LQ.out w' o).mb)) ?_
      (try simp only [Act.put, List.setIfInBounds_toArray, List.set_cons_zero, List.set_cons_succ])
      refine wpAnyH_read 1 (v := ?va101) rfl (by kernel_rfl) (by kernel_rfl) (by kernel_rfl) (fun _ _ _ h => h) hS (Or.inl ⟨by rfl, ?ya101⟩) ?ra101
      case ya101 =>
        intro w hSw
        skip
        go_simp
        (try with_reducible rfl)
      (try simp only [Act.put, List.setIfInBounds_toArray, List.set_cons_zero, List.set_cons_succ])
      refine wpAnyH_read 2 (v := ?va102) rfl (by kernel_rfl) (by kernel_rfl) (by kernel_rfl) (fun _ _ _ h => h) hS (Or.inl ⟨by rfl, ?ya102⟩) ?ra102
      case ya102 =>
        intro w hSw
        skip
        go_simp
        (try with_reducible rfl)
      (try simp only [Act.put, List.setIfInBounds_toArray, List.set_cons_zero, List.set_cons_succ])
      refine wpAnyH_read 3 (v := ?va103) rfl (by kernel_rfl) (by kernel_rfl) (by kernel_rfl) (fun _ _ _ h => h) hS (Or.inl ⟨by rfl, ?ya103⟩) ?ra103
      case ya103 =>
        intro w hSw
        skip
        go_simp
        (try with_reducible rfl)
      (try simp only [Act.put, List.setIfInBounds_toArray, List.set_cons_zero, List.set_cons_succ])
      refine wpAnyH_read 5 rfl (by kernel_rfl) (by kernel_rfl) (by kernel_rfl) (fun _ _ _ h => h) hS (yields_load 28 _ (by rfl) rfl ⟨p, 0, none⟩ (mC y ra va ba) rfl (fun w' o => (LP.out w' o).mb)) ?_
      (try simp only [Act.put, List.setIfInBounds_toArray, List.set_cons_zero, List.set_cons_succ])
      refine wpAnyH_read 6 (v := ?va104) rfl (by kernel_rfl) (by kernel_rfl) (by kernel_rfl) (fun _ _ _ h => h) hS (Or.inl ⟨by rfl, ?ya104⟩) ?ra104
      case ya104 =>
        intro w hSw
        skip
        go_simp
        (try with_reducible rfl)
      (try simp only [Act.put, List.setIfInBounds_toArray, List.set_cons_zero, List.set_cons_succ])
      refine wpAnyH_read 7 (v := ?va105) rfl (by kernel_rfl) (by kernel_rfl) (by kernel_rfl) (fun _ _ _ h => h) hS (Or.inl ⟨by rfl, ?ya105⟩) ?ra105
      case ya105 =>
        intro w hSw
        skip
        go_simp
        (try with_reducible rfl)
      (try simp only [Act.put, List.setIfInBounds_toArray, List.set_cons_zero, List.set_cons_succ])
      refine wpAnyH_read 8 (v := ?va106) rfl (by kernel_rfl) (by kernel_rfl) (by kernel_rfl) (fun _ _ _ h => h) hS (Or.inl ⟨by rfl, ?ya106⟩) ?ra106
      case ya106 =>
        intro w hSw
        skip
        go_simp
        (try with_reducible rfl)
      (try simp only [Act.put, List.setIfInBounds_toArray, List.set_cons_zero, List.set_cons_succ])
      refine wpAnyH_call 4 rfl (by kernel_rfl) (fun J hJ => ?_)
      rw [if_pos (by rfl)]
      go_simp
      refine (CK.out _ hS _ _).mono ?_
      rintro e x4 ⟨rfl, p_⟩
      have s4 := hS.trans p_
      clear p_
      refine hJ.out _ _ s4 ?_
      clear hJ J
      (try simp only [Act.put, List.setIfInBounds_toArray, List.set_cons_zero, List.set_cons_succ])
      refine wpAnyH_call 9 rfl (by kernel_rfl) (fun J hJ => ?_)
      rw [if_pos (by rfl)]
      go_simp
      refine (RK.out _ s4 _ _).mono ?_
      rintro e x9 ⟨rfl, p_⟩
      have s9 := s4.trans p_
      clear p_
      refine hJ.out _ _ s9 ?_
      clear hJ J
      (try simp only [Act.put, List.setIfInBounds_toArray, List.set_cons_zero, List.set_cons_succ])
      generalize checkI y _ refs = ck at *
      refine wpAnyH_read 10 (v := ?va107) rfl (by kernel_rfl) (by kernel_rfl) (by kernel_rfl) (fun _ _ _ h => h) s9 (Or.inl ⟨by rfl, ?ya107⟩) ?ra107
      case ya107 =>
        intro w hSw
        skip
        go_simp
        (try with_reducible rfl)
      (try simp only [Act.put, List.setIfInBounds_toArray, List.set_cons_zero, List.set_cons_succ])
      refine wpAnyH_done (by kernel_rfl) ?_ _
      have OF := hid s9
      go_wp2_with fail
      go_roundg gg
      case measure => omega
      case rel => exact ⟨i + 1, IN.out, by go_num, OF.out⟩
end Go.Proofs.YtpmmnjeomdjakaaDoor

end
section
set_option maxRecDepth 20000
namespace Go.Proofs.YtpmmnjeomdjakaaDoor
open Go.RowKit
set_option linter.unusedVariables false
set_option linter.unusedSimpArgs false

theorem rngE_zero {b : Bool} : rngE b = 0 ↔ b = true := by cases b <;> simp [rngE]
theorem absE_zero {b : Bool} : absE b = 0 ↔ b = true := by cases b <;> simp [absE]
theorem checkI_zero {x : MV} {i : Bool} {R : Int} : checkI x i R = 0 ↔ refsOk i R = true ∧ kindOk x.kind i = true ∧ ∀ e, e ∈ allE x R → e = 0 := by
  unfold checkI
  by_cases h1 : refsOk i R = false
  · rw [if_pos h1]; simp [h1]
  · by_cases h2 : kindOk x.kind i = false
    · rw [if_neg h1, if_pos h2]; simp [h2]
    · rw [if_neg h1, if_neg h2, firstE_zero]
      simp only [Bool.not_eq_false] at h1 h2
      simp [h1, h2]
theorem motion_mono {x : MV} {R M : Int} (h : R ≤ M) (hz : ∀ e, e ∈ motionE x R → e = 0) : ∀ e, e ∈ motionE x M → e = 0 := by
  intro e he
  unfold motionE at hz he
  split at he
  · rename_i hi
    rw [if_pos hi] at hz
    simp only [List.mem_append, List.mem_cons, List.not_mem_nil, or_false, List.mem_map] at he hz
    rcases he with ((he | ⟨r, hr, rfl⟩) | he) | he
    · exact hz e (.inl (.inl (.inl he)))
    · have := hz (refE R r) (.inl (.inl (.inr ⟨r, hr, rfl⟩)))
      unfold refE at this ⊢
      rw [rngE_zero] at this ⊢
      unfold inI at this ⊢
      simp only [Bool.and_eq_true, decide_eq_true_eq] at this ⊢
      omega
    · exact hz e (.inl (.inr he))
    · exact hz e (.inr he)
  · rename_i hi
    rw [if_neg hi] at hz
    exact hz e he
theorem check_mono {x : MV} {R M : Int} (h1 : 1 ≤ R) (h2 : R ≤ M) (h3 : M ≤ 32) (h : checkI x false R = 0) : checkI x false M = 0 := by
  rw [checkI_zero] at h ⊢
  refine ⟨by unfold refsOk inI; simp; omega, h.2.1, fun e he => ?_⟩
  unfold allE at h he
  simp only [List.mem_append] at h he
  rcases he with (he | he) | he
  · exact h.2.2 e (.inl (.inl he))
  · exact motion_mono h2 (fun e he => h.2.2 e (.inl (.inr he))) e he
  · exact h.2.2 e (.inr he)
theorem check_intra {x : MV} {R : Int} (h1 : 1 ≤ R) (h3 : R ≤ 32) (h : checkI x true 0 = 0) : checkI x false R = 0 := by
  rw [checkI_zero] at h ⊢
  have hk := h.2.1
  unfold kindOk at hk
  simp only [Bool.not_true, Bool.false_or, Bool.and_eq_true, decide_eq_true_eq] at hk
  have hi : interI x.kind = false := by
    have := hk.2
    unfold intraI at this
    simp only [decide_eq_true_eq] at this
    unfold interI
    simp
    omega
  refine ⟨by unfold refsOk inI; simp; omega, by unfold kindOk; simp [hk.1], fun e he => h.2.2 e ?_⟩
  unfold allE motionE at he ⊢
  rw [hi] at he ⊢
  exact he
theorem check_bad0 (x : MV) : checkI x false 0 = 2 := by simp [checkI, refsOk, inI]
theorem check_bad33 (x : MV) : checkI x false 33 = 2 := by simp [checkI, refsOk, inI]
def modI13 (n m : Int) : Int := if m < 1 then 0 else n % m
theorem emod_two13 (a m : Int) (h : 0 < m) : Int.tmod (Int.tmod a m + m) m = a % m := by
  have h2 : -m < Int.tmod a m := by have := Int.lt_tmod_of_pos a h; omega
  rw [Int.tmod_eq_emod_of_nonneg (by omega), Int.add_emod_right, Int.tmod_def, Int.sub_eq_add_neg, ← Int.mul_neg, Int.add_mul_emod_self_left]
theorem mod13_any (a m : Int) (h2 : m ≤ 4611686018427387904) (w : World) : Calls Tryd.prog 22 #[.int .i64 a, .int .i64 m] w fun e w' => e = .returned (.int .i64 (modI13 a m)) ∧ w' = w := by
  by_cases h0 : m < 1
  · rw [show modI13 a m = 0 from by unfold modI13; rw [if_pos h0]]
    go_enter Tryd.func22, Tryd.ntmps22
    go_wp2_with fail
    go_ret
    exact ⟨rfl, rfl⟩
  · have h : 0 < m := by omega
    rw [show modI13 a m = a % m from by unfold modI13; rw [if_neg h0]]
    have b1 := Int.tmod_lt_of_pos a h
    have b2 := Int.lt_tmod_of_pos a h
    have e := emod_two13 a m h
    have e0 : (m == 0) = false := by rw [beq_eq_false_iff_ne]; omega
    have e1 : ¬ m = 0 := by omega
    have g1 : IntKind.i64.wrap (Int.tmod a m) = Int.tmod a m := IntWalk.i64_in _ ⟨by omega, by omega⟩
    have g2 : IntKind.i64.wrap (Int.tmod a m + m) = Int.tmod a m + m := IntWalk.i64_in _ ⟨by omega, by omega⟩
    have b3 := Int.emod_nonneg a e1
    have b4 := Int.emod_lt_of_pos a h
    have g3 : IntKind.i64.wrap (a % m) = a % m := IntWalk.i64_in _ ⟨by omega, by omega⟩
    obtain ⟨t, ht⟩ : ∃ t, t = Int.tmod a m := ⟨_, rfl⟩
    rw [← ht] at b1 b2 e g1 g2
    obtain ⟨r, hr⟩ : ∃ r, r = a % m := ⟨_, rfl⟩
    rw [← hr] at e g3 b3 b4 ⊢
    have g4 : a.tmod m = t := ht.symm
    clear ht hr b1 b2 b3 b4
    go_enter Tryd.func22, Tryd.ntmps22
    go_wp2_with fail
    go_ret
    exact ⟨rfl, rfl⟩
theorem modI13_in (n m : Int) (h : 1 ≤ m) : 0 ≤ modI13 n m ∧ modI13 n m < m := by
  unfold modI13
  rw [if_neg (by omega)]
  exact ⟨Int.emod_nonneg _ (by omega), Int.emod_lt_of_pos _ (by omega)⟩
end Go.Proofs.YtpmmnjeomdjakaaDoor

end
section
set_option maxRecDepth 20000
namespace Go.Proofs.YtpmmnjeomdjakaaDoor
open Go.RowKit
set_option linter.unusedVariables false
set_option linter.unusedSimpArgs false

/-- Numbers of int slices and of vectors may have become others; nothing else is changed. -/
structure Tame (w w' : World) : Prop where
  size : w.heap.size ≤ w'.heap.size
  blk : ∀ (k : Nat) (cur : Array Value) (T : TypeId), w.heap[k]? = some (.cells cur T (0, 0)) → ∃ cur', w'.heap[k]? = some (.cells cur' T (0, 0)) ∧ (T ≠ 3 → T ≠ 36 → cur' = cur) ∧ ∀ (j : Nat) (z : Int), cur[j]? = some (.int .i64 z) → ∃ z', cur'[j]? = some (.int .i64 z')
theorem Tame.refl (w : World) : Tame w w := ⟨Nat.le_refl _, fun k cur T h => ⟨cur, h, fun _ _ => rfl, fun j z hz => ⟨z, hz⟩⟩⟩
theorem Tame.same {w w' : World} {k : Nat} {T : TypeId} {a : Array Value} (h : Tame w w') (b : Blk w k T a) (h1 : T ≠ 3) (h2 : T ≠ 36) : Blk w' k T a := by
  obtain ⟨cur', hb, he, _⟩ := h.blk k a T b
  rw [he h1 h2] at hb
  exact hb
theorem Tame.num {w w' : World} {k : Nat} {T : TypeId} {a : Array Value} (h : Tame w w') (b : Blk w k T a) {j : Nat} {z : Int} (hz : a[j]? = some (.int .i64 z)) : ∃ z', w'.cell? ⟨k, j, none⟩ = some (.int .i64 z') ∧ w'.frozen? ⟨k, j, none⟩ = false := by
  obtain ⟨cur', hb, _, hn⟩ := h.blk k a T b
  obtain ⟨z', hz'⟩ := hn j z hz
  have B : Blk w' k T cur' := hb
  exact ⟨z', B.cell hz', B.frozen j⟩
theorem Tame.set {w w' : World} {k : Nat} {T : TypeId} {a : Array Value} (h : Tame w w') (b : Blk w k T a) {j : Nat} {z : Int} (hz : a[j]? = some (.int .i64 z)) (hT : T = 3 ∨ T = 36) (v : Int) : Tame w (w'.setCell ⟨k, j, none⟩ (.int .i64 v)) := by
  refine ⟨by have := h.size; simp; omega, fun k2 cur T2 h2 => ?_⟩
  obtain ⟨cur', hb, he, hn⟩ := h.blk k2 cur T2 h2
  by_cases e : k2 = k
  · subst e
    have hh : w.heap[k2]? = some (.cells a T (0, 0)) := b
    rw [hh] at h2
    simp only [Option.some.injEq, Obj.cells.injEq] at h2
    obtain ⟨rfl, rfl, _⟩ := h2
    have B : Blk w' k2 T cur' := hb
    refine ⟨cur'.setIfInBounds j (.int .i64 v), B.set j _, fun q1 q2 => by rcases hT with q | q <;> contradiction, fun i y hy => ?_⟩
    obtain ⟨y', hy'⟩ := hn i y hy
    by_cases ij : j = i
    · subst ij
      have hl := (Array.getElem?_eq_some_iff.1 hy').1
      exact ⟨v, by rw [Array.getElem?_setIfInBounds_self_of_lt hl]⟩
    · exact ⟨y', by rw [Array.getElem?_setIfInBounds_ne ij]; exact hy'⟩
  · refine ⟨cur', ?_, he, hn⟩
    rw [Below.heap_setCell _ _ _ _ (fun x => e x)]
    exact hb
/-- The block of a row of numbers. -/
theorem RowI.blk {w : World} {sv : Value} {l : List Int} (h : RowI w sv l) {i : Nat} {x : Int} (hx : l[i]? = some x) : ∃ g c cur, sv = .slice (some ⟨g, 0, none⟩) l.length c ∧ Blk w g 3 cur ∧ cur[i]? = some (.int .i64 x) := by
  rcases h.2 with ⟨rfl, h0⟩ | ⟨g, cap, cur, rfl, hb, hh, h1, h2, h3, h4⟩
  · rw [List.length_eq_zero_iff.1 h0] at hx; simp at hx
  · refine ⟨g, cap, cur, rfl, hh, ?_⟩
    have h5 : (cur.toList.take (l.length * 1))[i]? = some (.int .i64 x) := by rw [h4]; simp [hx]
    have hi : i < l.length := (List.getElem?_eq_some_iff.1 hx).1
    rw [List.getElem?_take, if_pos (by omega)] at h5
    simpa using h5
theorem RowG.blk {α : Type} {C : α → List Value} {n : Nat} {E : TypeId} (K : CellsN C n) {w : World} {sv : Value} {l : List α} (h : RowG C n E w sv l) {i : Nat} {x : α} (hx : l[i]? = some x) : ∃ g c cur, sv = .slice (some ⟨g, 0, none⟩) l.length c ∧ Blk w g E cur ∧ ∀ (k : Nat) (v : Value), (C x)[k]? = some v → cur[i * n + k]? = some v := by
  rcases h.2 with ⟨rfl, h0⟩ | ⟨g, cap, cur, rfl, hb, hh, h1, h2, h3, h4⟩
  · rw [List.length_eq_zero_iff.1 h0] at hx; simp at hx
  · refine ⟨g, cap, cur, rfl, hh, fun k v hv => ?_⟩
    have h5 := cellsG_at K l i x hx k v hv
    have hlt : i * n + k < l.length * n := by rw [← cellsG_length K]; exact (List.getElem?_eq_some_iff.1 h5).1
    rw [← h4, List.getElem?_take, if_pos hlt] at h5
    simpa using h5
end Go.Proofs.YtpmmnjeomdjakaaDoor

end
section
set_option maxRecDepth 20000
namespace Go.Proofs.YtpmmnjeomdjakaaDoor
open Go.RowKit
set_option linter.unusedVariables false
set_option linter.unusedSimpArgs false

noncomputable def eqB : Code := Tryd.f4.body.getD .skip
theorem ne_types : (28 : TypeId) ≠ 3 ∧ (28 : TypeId) ≠ 36 ∧ (24 : TypeId) ≠ 3 ∧ (24 : TypeId) ≠ 36 := by decide
set_option maxRecDepth 1000000 in
set_option maxHeartbeats 8000000 in
theorem eq_refs (rest : Code) (Q : Exit → Act → World → Prop)  (y : MV) (ra va ba : Option Addr) (rc vc bc px : Nat) (WX w6 w : World) (hf : MFew y) (hT : Tame w6 w) (hO : Only [] WX w) (hX : WX.heap.size ≤ px) (hB : Blk w6 px 28 (mC y (.slice ra y.refs.length rc) (.slice va y.mvds.length vc) (.slice ba y.blocks.length bc)).toArray) (hM : OwnM WX w6 y (.slice ra y.refs.length rc) (.slice va y.mvds.length vc) (.slice ba y.blocks.length bc)) (u0 u1 u2 u3 u4 u5 u7 u8 u9 u10 u11 u12 u13 u14 u15 u16 u17 u18 u19 u20 u21 u22 u23 u24 u25 u26 u27 u28 u29 u30 u31 u32 u33 u34 u35 u36 u37 u38 u39 u40 u41 u42 u43 u44 u45 u46 u47 u48 u49 u50 u51 u52 u53 u54 u55 u56 u57 u58 u59 u60 u61 u62 u63 u64 u65 u66 u67 u68 u69 u70 u71 u72 u73 u74 u75 u76 u77 u78 u79 u80 u81 u82 u83 u84 u85 u86 u87 u88 u89 u90 u91 u92 u93 u94 u95 u96 u97 u98 u99 : Value)
    (hr : ∀ (w' : World) (v7 v37 v38 v39 v40 v41 v42 v43 v44 v45 v46 v47 v48 v49 v50 : Value), Tame w6 w' → Only [] WX w' → rest.wp Tryd.prog Q ⟨#[u0, u1, u2, u3, u4, u5, .pointer (some ⟨px, 0, none⟩), v7, u8, u9, u10, u11, u12, u13, u14, u15, u16, u17, u18, u19, u20, u21, u22, u23, u24, u25, u26, u27, u28, u29, u30, u31, u32, u33, u34, u35, u36, v37, v38, v39, v40, v41, v42, v43, v44, v45, v46, v47, v48, v49, v50, u51, u52, u53, u54, u55, u56, u57, u58, u59, u60, u61, u62, u63, u64, u65, u66, u67, u68, u69, u70, u71, u72, u73, u74, u75, u76, u77, u78, u79, u80, u81, u82, u83, u84, u85, u86, u87, u88, u89, u90, u91, u92, u93, u94, u95, u96, u97, u98, u99], []⟩ w') :
    (endWith 1 (dropSeq 6 eqB) rest).wp Tryd.prog Q ⟨#[u0, u1, u2, u3, u4, u5, .pointer (some ⟨px, 0, none⟩), u7, u8, u9, u10, u11, u12, u13, u14, u15, u16, u17, u18, u19, u20, u21, u22, u23, u24, u25, u26, u27, u28, u29, u30, u31, u32, u33, u34, u35, u36, u37, u38, u39, u40, u41, u42, u43, u44, u45, u46, u47, u48, u49, u50, u51, u52, u53, u54, u55, u56, u57, u58, u59, u60, u61, u62, u63, u64, u65, u66, u67, u68, u69, u70, u71, u72, u73, u74, u75, u76, u77, u78, u79, u80, u81, u82, u83, u84, u85, u86, u87, u88, u89, u90, u91, u92, u93, u94, u95, u96, u97, u98, u99], []⟩ w := by
  conv => arg 2; whnf; arg 2; whnf
  have HR := hid hr
  clear hr
  have F := hid hf
  have TT := hid hT
  have OO := hid hO
  have BX := hid hB
  have MX := hid hM
  clear hT hO hB hM
  obtain ⟨n, hn⟩ : ∃ n, n = y.refs.length := ⟨_, rfl⟩
  have HN := hid hn
  have nb : (n : Int) ≤ 1000 := by have := hf.r; omega
  clear hf
  go_wp2_with fail
  go_loopg [7] n (fun g t wr => ∃ i : Nat, i + g = n ∧ t = .int .i64 i ∧ Tame w6 wr ∧ Only [] WX wr)
  case atStart => exact ⟨0, by omega, rfl, TT.out, OO.out⟩
  case round =>
    obtain ⟨i, hi, rfl, hT, hO⟩ := hrel
    have T := hid hT
    have O := hid hO
    have c0 := (T.out.same BX.out ne_types.1 ne_types.2.1).cell (i := 23) (v := .slice ra y.refs.length rc) rfl
    rw [← HN.out] at c0
    have i0 : (0 : Int) ≤ (i : Int) := by omega
    clear hT hO hn
    by_cases hg : gk = 0
    · have i1 : ¬ (i : Int) < (n : Int) := by omega
      clear hi hg
      go_wp2_with fail
      exact HR.out _ _ _ _ _ _ _ _ _ _ _ _ _ _ _ _ T.out O.out
    · obtain ⟨gg, rfl⟩ : ∃ gg, gk = gg + 1 := ⟨gk - 1, by omega⟩
      have IN := hid (show i + 1 + gg = n by omega)
      have i1 : (i : Int) < (n : Int) := by omega
      obtain ⟨z, hz⟩ : ∃ z, y.refs[i]? = some z := ⟨_, List.getElem?_eq_getElem (by have := HN.out; omega)⟩
      obtain ⟨g, c, cur, e, hb, hc⟩ := MX.out.r.blk hz
      simp only [Value.slice.injEq] at e
      obtain ⟨rfl, _, rfl⟩ := e
      
      obtain ⟨z', cz, fz⟩ := T.out.num hb hc
      have G := hid (show WX.heap.size ≤ g from MX.out.rn g (by simp [ownI, Value.ownBlock]))
      have TS := hid (fun v => T.out.set hb hc (.inl rfl) v)
      
      
      clear hi hg hz hb hc
      go_wp2_with fail
      go_roundg gg
      case measure => omega
      case rel => exact ⟨i + 1, IN.out, by go_num, TS.out _, O.out.setCell (.inr G.out) _⟩
set_option maxRecDepth 1000000 in
set_option maxHeartbeats 8000000 in
theorem eq_mvds (rest : Code) (Q : Exit → Act → World → Prop)  (y : MV) (ra va ba : Option Addr) (rc vc bc px : Nat) (WX w6 w : World) (hf : MFew y) (hT : Tame w6 w) (hO : Only [] WX w) (hX : WX.heap.size ≤ px) (hB : Blk w6 px 28 (mC y (.slice ra y.refs.length rc) (.slice va y.mvds.length vc) (.slice ba y.blocks.length bc)).toArray) (hM : OwnM WX w6 y (.slice ra y.refs.length rc) (.slice va y.mvds.length vc) (.slice ba y.blocks.length bc)) (u0 u1 u2 u3 u4 u5 u7 u8 u9 u10 u11 u12 u13 u14 u15 u16 u17 u18 u19 u20 u21 u22 u23 u24 u25 u26 u27 u28 u29 u30 u31 u32 u33 u34 u35 u36 u37 u38 u39 u40 u41 u42 u43 u44 u45 u46 u47 u48 u49 u50 u51 u52 u53 u54 u55 u56 u57 u58 u59 u60 u61 u62 u63 u64 u65 u66 u67 u68 u69 u70 u71 u72 u73 u74 u75 u76 u77 u78 u79 u80 u81 u82 u83 u84 u85 u86 u87 u88 u89 u90 u91 u92 u93 u94 u95 u96 u97 u98 u99 : Value)
    (hr : ∀ (w' : World) (v8 v51 v52 v53 v54 v55 v56 v57 v58 v59 v60 v61 v62 v63 v64 v65 v66 : Value), Tame w6 w' → Only [] WX w' → rest.wp Tryd.prog Q ⟨#[u0, u1, u2, u3, u4, u5, .pointer (some ⟨px, 0, none⟩), u7, v8, u9, u10, u11, u12, u13, u14, u15, u16, u17, u18, u19, u20, u21, u22, u23, u24, u25, u26, u27, u28, u29, u30, u31, u32, u33, u34, u35, u36, u37, u38, u39, u40, u41, u42, u43, u44, u45, u46, u47, u48, u49, u50, v51, v52, v53, v54, v55, v56, v57, v58, v59, v60, v61, v62, v63, v64, v65, v66, u67, u68, u69, u70, u71, u72, u73, u74, u75, u76, u77, u78, u79, u80, u81, u82, u83, u84, u85, u86, u87, u88, u89, u90, u91, u92, u93, u94, u95, u96, u97, u98, u99], []⟩ w') :
    (endWith 1 (dropSeq 7 eqB) rest).wp Tryd.prog Q ⟨#[u0, u1, u2, u3, u4, u5, .pointer (some ⟨px, 0, none⟩), u7, u8, u9, u10, u11, u12, u13, u14, u15, u16, u17, u18, u19, u20, u21, u22, u23, u24, u25, u26, u27, u28, u29, u30, u31, u32, u33, u34, u35, u36, u37, u38, u39, u40, u41, u42, u43, u44, u45, u46, u47, u48, u49, u50, u51, u52, u53, u54, u55, u56, u57, u58, u59, u60, u61, u62, u63, u64, u65, u66, u67, u68, u69, u70, u71, u72, u73, u74, u75, u76, u77, u78, u79, u80, u81, u82, u83, u84, u85, u86, u87, u88, u89, u90, u91, u92, u93, u94, u95, u96, u97, u98, u99], []⟩ w := by
  conv => arg 2; whnf; arg 2; whnf
  have HR := hid hr
  clear hr
  have F := hid hf
  have TT := hid hT
  have OO := hid hO
  have BX := hid hB
  have MX := hid hM
  clear hT hO hB hM
  obtain ⟨n, hn⟩ : ∃ n, n = y.mvds.length := ⟨_, rfl⟩
  have HN := hid hn
  have nb : (n : Int) ≤ 1000 := by have := hf.v; omega
  clear hf
  go_wp2_with fail
  go_loopg [8] n (fun g t wr => ∃ i : Nat, i + g = n ∧ t = .int .i64 i ∧ Tame w6 wr ∧ Only [] WX wr)
  case atStart => exact ⟨0, by omega, rfl, TT.out, OO.out⟩
  case round =>
    obtain ⟨i, hi, rfl, hT, hO⟩ := hrel
    have T := hid hT
    have O := hid hO
    have c0 := (T.out.same BX.out ne_types.1 ne_types.2.1).cell (i := 24) (v := .slice va y.mvds.length vc) rfl
    rw [← HN.out] at c0
    have i0 : (0 : Int) ≤ (i : Int) := by omega
    clear hT hO hn
    by_cases hg : gk = 0
    · have i1 : ¬ (i : Int) < (n : Int) := by omega
      clear hi hg
      go_wp2_with fail
      exact HR.out _ _ _ _ _ _ _ _ _ _ _ _ _ _ _ _ _ _ T.out O.out
    · obtain ⟨gg, rfl⟩ : ∃ gg, gk = gg + 1 := ⟨gk - 1, by omega⟩
      have IN := hid (show i + 1 + gg = n by omega)
      have i1 : (i : Int) < (n : Int) := by omega
      obtain ⟨z, hz⟩ : ∃ z, y.mvds[i]? = some z := ⟨_, List.getElem?_eq_getElem (by have := HN.out; omega)⟩
      obtain ⟨g, c, cur, e, hb, hc⟩ := RowG.blk vcC_ok MX.out.v hz
      simp only [Value.slice.injEq] at e
      obtain ⟨rfl, _, rfl⟩ := e
      have hc := hc 0 (.int .i64 z.1) rfl
      obtain ⟨z', cz, fz⟩ := T.out.num hb hc
      have G := hid (show WX.heap.size ≤ g from MX.out.vn g (by simp [ownG, Value.ownBlock]))
      have TS := hid (fun v => T.out.set hb hc (.inr rfl) v)
      rw [Nat.add_zero] at cz fz
      simp only [Nat.add_zero] at TS
      clear hi hg hz hb hc
      go_wp2_with fail
      go_roundg gg
      case measure => omega
      case rel => exact ⟨i + 1, IN.out, by go_num, TS.out _, O.out.setCell (.inr G.out) _⟩
set_option maxRecDepth 1000000 in
set_option maxHeartbeats 8000000 in
theorem eq_blocks (rest : Code) (Q : Exit → Act → World → Prop)  (y : MV) (ra va ba : Option Addr) (rc vc bc px : Nat) (WX w6 w : World) (hf : MFew y) (hT : Tame w6 w) (hO : Only [] WX w) (hX : WX.heap.size ≤ px) (hB : Blk w6 px 28 (mC y (.slice ra y.refs.length rc) (.slice va y.mvds.length vc) (.slice ba y.blocks.length bc)).toArray) (hM : OwnM WX w6 y (.slice ra y.refs.length rc) (.slice va y.mvds.length vc) (.slice ba y.blocks.length bc)) (u0 u1 u2 u3 u4 u5 u7 u8 u9 u10 u11 u12 u13 u14 u15 u16 u17 u18 u19 u20 u21 u22 u23 u24 u25 u26 u27 u28 u29 u30 u31 u32 u33 u34 u35 u36 u37 u38 u39 u40 u41 u42 u43 u44 u45 u46 u47 u48 u49 u50 u51 u52 u53 u54 u55 u56 u57 u58 u59 u60 u61 u62 u63 u64 u65 u66 u67 u68 u69 u70 u71 u72 u73 u74 u75 u76 u77 u78 u79 u80 u81 u82 u83 u84 u85 u86 u87 u88 u89 u90 u91 u92 u93 u94 u95 u96 u97 u98 u99 : Value)
    (hr : ∀ (w' : World) (v9 v10 v67 v68 v69 v70 v71 v72 v73 v74 v75 v76 v77 v78 v79 v80 v81 v82 v83 v84 v85 v86 v87 v88 v89 v90 v91 v92 v93 : Value), Tame w6 w' → Only [] WX w' → rest.wp Tryd.prog Q ⟨#[u0, u1, u2, u3, u4, u5, .pointer (some ⟨px, 0, none⟩), u7, u8, v9, v10, u11, u12, u13, u14, u15, u16, u17, u18, u19, u20, u21, u22, u23, u24, u25, u26, u27, u28, u29, u30, u31, u32, u33, u34, u35, u36, u37, u38, u39, u40, u41, u42, u43, u44, u45, u46, u47, u48, u49, u50, u51, u52, u53, u54, u55, u56, u57, u58, u59, u60, u61, u62, u63, u64, u65, u66, v67, v68, v69, v70, v71, v72, v73, v74, v75, v76, v77, v78, v79, v80, v81, v82, v83, v84, v85, v86, v87, v88, v89, v90, v91, v92, v93, u94, u95, u96, u97, u98, u99], []⟩ w') :
    (endWith 1 (dropSeq 8 eqB) rest).wp Tryd.prog Q ⟨#[u0, u1, u2, u3, u4, u5, .pointer (some ⟨px, 0, none⟩), u7, u8, u9, u10, u11, u12, u13, u14, u15, u16, u17, u18, u19, u20, u21, u22, u23, u24, u25, u26, u27, u28, u29, u30, u31, u32, u33, u34, u35, u36, u37, u38, u39, u40, u41, u42, u43, u44, u45, u46, u47, u48, u49, u50, u51, u52, u53, u54, u55, u56, u57, u58, u59, u60, u61, u62, u63, u64, u65, u66, u67, u68, u69, u70, u71, u72, u73, u74, u75, u76, u77, u78, u79, u80, u81, u82, u83, u84, u85, u86, u87, u88, u89, u90, u91, u92, u93, u94, u95, u96, u97, u98, u99], []⟩ w := by
  conv => arg 2; whnf; arg 2; whnf
  have HR := hid hr
  clear hr
  have F := hid hf
  have TT := hid hT
  have OO := hid hO
  have BX := hid hB
  have MX := hid hM
  clear hT hO hB hM
  obtain ⟨us, hu, hul, hh⟩ := MX.out.b
  have HU := hid hu
  have UL := hid hul
  have HH := hid hh
  obtain ⟨n, hn⟩ : ∃ n, n = y.blocks.length := ⟨_, rfl⟩
  have HN := hid hn
  have nb : (n : Int) ≤ 1000 := by have := hf.b; omega
  have FI := hid hf.i
  clear hf hu hul hh
  go_wp2_with fail
  go_loopg [9] n (fun g t wr => ∃ i : Nat, i + g = n ∧ t = .int .i64 i ∧ Tame w6 wr ∧ Only [] WX wr)
  case atStart => exact ⟨0, by omega, rfl, TT.out, OO.out⟩
  case round =>
    obtain ⟨i, hi, rfl, hT, hO⟩ := hrel
    have T := hid hT
    have O := hid hO
    have c0 := (T.out.same BX.out ne_types.1 ne_types.2.1).cell (i := 27) (v := .slice ba y.blocks.length bc) rfl
    rw [← HN.out] at c0
    have i0 : (0 : Int) ≤ (i : Int) := by omega
    clear hT hO hn
    by_cases hg : gk = 0
    · have i1 : ¬ (i : Int) < (n : Int) := by omega
      clear hi hg
      go_wp2_with fail
      exact HR.out _ _ _ _ _ _ _ _ _ _ _ _ _ _ _ _ _ _ _ _ _ _ _ _ _ _ _ _ _ _ T.out O.out
    · obtain ⟨gg, rfl⟩ : ∃ gg, gk = gg + 1 := ⟨gk - 1, by omega⟩
      have IN := hid (show i + 1 + gg = n by omega)
      have i1 : (i : Int) < (n : Int) := by omega
      obtain ⟨bl, hbl⟩ : ∃ z, y.blocks[i]? = some z := ⟨_, List.getElem?_eq_getElem (by have := HN.out; omega)⟩
      obtain ⟨u, hu⟩ : ∃ z, us[i]? = some z := ⟨_, List.getElem?_eq_getElem (by have := HN.out; have := UL.out; omega)⟩
      obtain ⟨g, c, cur, e, hb, hc⟩ := RowG.blk slC_ok HU.out.row hu
      simp only [Value.slice.injEq] at e
      obtain ⟨rfl, _, rfl⟩ := e
      have RI := hid (HH.out i u bl hu hbl)
      obtain ⟨ua, uc, hus⟩ := RI.out.1.form
      have RI := hid (show RowI w6 (.slice ua bl.length uc) bl ∧ ∀ g, g ∈ ownI (.slice ua bl.length uc) → WX.heap.size ≤ g from by have := RI.out; rw [hus] at this; exact ⟨this.1, fun g hg => (this.2 g hg).1⟩)
      have hcu := hc 0 u.sl rfl
      rw [Nat.mul_one, Nat.add_zero, hus] at hcu
      have CU := hid (fun w' (h : Tame w6 w') => (h.same hb ne_types.2.2.1 ne_types.2.2.2).cell hcu)
      obtain ⟨q, hq⟩ : ∃ q, q = bl.length := ⟨_, rfl⟩
      have HQ := hid hq
      have qb : (q : Int) ≤ 500 := by have := FI.out bl (List.mem_of_getElem? hbl); omega
      rw [← hq] at CU
      clear hi hg hbl hu hb hc hus hcu hq
      go_wp2_with fail
      go_loopg [10] q (fun g t w' => ∃ k : Nat, k + g = q ∧ t = .int .i64 k ∧ Tame w6 w' ∧ Only [] WX w')
      case atStart => exact ⟨0, by omega, rfl, T.out, O.out⟩
      case round =>
        obtain ⟨k, hk, rfl, hT, hO⟩ := hrel
        have T2 := hid hT
        have O2 := hid hO
        have d0 := (T2.out.same BX.out ne_types.1 ne_types.2.1).cell (i := 27) (v := .slice (some ⟨g, 0, none⟩) y.blocks.length bc) rfl
        rw [← HN.out] at d0
        have cu := CU.out _ T2.out
        have k0 : (0 : Int) ≤ (k : Int) := by omega
        clear hT hO c0
        by_cases hg : gk = 0
        · have k1 : ¬ (k : Int) < (q : Int) := by omega
          clear hk hg
          go_wp2_with fail
          go_roundg gg
          case measure => omega
          case rel => exact ⟨i + 1, IN.out, by go_num, T2.out, O2.out⟩
        · obtain ⟨g2, rfl⟩ : ∃ gg, gk = gg + 1 := ⟨gk - 1, by omega⟩
          have KN := hid (show k + 1 + g2 = q by omega)
          have k1 : (k : Int) < (q : Int) := by omega
          obtain ⟨z, hz⟩ : ∃ z, bl[k]? = some z := ⟨_, List.getElem?_eq_getElem (by have := HQ.out; omega)⟩
          obtain ⟨h, c2, cur2, e, hb, hc⟩ := RI.out.1.blk hz
          simp only [Value.slice.injEq] at e
          obtain ⟨rfl, _, rfl⟩ := e
          obtain ⟨z', cz, fz⟩ := T2.out.num hb hc
          have G := hid (show WX.heap.size ≤ h from RI.out.2 h (by simp [ownI, Value.ownBlock]))
          have TS := hid (fun v => T2.out.set hb hc (.inl rfl) v)
          clear hk hg hz hb hc
          go_wp2_with fail
          go_roundg g2
          case measure => omega
          case rel => exact ⟨k + 1, KN.out, by go_num, TS.out _, O2.out.setCell (.inr G.out) _⟩
end Go.Proofs.YtpmmnjeomdjakaaDoor

end
section
set_option maxRecDepth 20000
namespace Go.Proofs.YtpmmnjeomdjakaaDoor
open Go.RowKit
set_option linter.unusedVariables false
set_option linter.unusedSimpArgs false

set_option maxRecDepth 1000000 in
set_option maxHeartbeats 8000000 in
theorem eq_begin (rest : Code) (Q : Exit → Act → World → Prop) (hQ : ∀ c (a : Act) d v w, Q (.panic c) (a.put (some d) v) w → Q (.panic c) a w) (x z : MV) (r1 v1 b1 r2 v2 b2 : Value) (w : World) (hV : MbV w) (hm1 : MAt w x r1 v1 b1) (hm2 : MAt w z r2 v2 b2) (k1 : ∀ l, l ∈ x.blocks → l.length ≤ 17592186043904) (p1 : x.pcm.size ≤ maxLen) (k2 : ∀ l, l ∈ z.blocks → l.length ≤ 17592186043904) (p2 : z.pcm.size ≤ maxLen) (u2 u3 u4 u5 u6 u7 u8 u9 u10 u11 u12 u13 u14 u15 u16 u17 u18 u19 u20 u21 u22 u23 u24 u25 u26 u27 u28 u29 u30 u31 u32 u33 u34 u35 u36 u37 u38 u39 u40 u41 u42 u43 u44 u45 u46 u47 u48 u49 u50 u51 u52 u53 u54 u55 u56 u57 u58 u59 u60 u61 u62 u63 u64 u65 u66 u67 u68 u69 u70 u71 u72 u73 u74 u75 u76 u77 u78 u79 u80 u81 u82 u83 u84 u85 u86 u87 u88 u89 u90 u91 u92 u93 u94 u95 u96 u97 u98 u99 : Value)
    (hr : ∀ (WX w' : World) (pa po px : Nat) (qa qv qb rb vb bb : Value) (ra va ba : Option Addr) (rc vc bc : Nat) (v4 v11 v12 v13 v14 v15 v16 v17 v18 v19 v20 v21 v22 v23 v24 v25 v26 v27 v28 v29 v30 v31 v32 v33 v34 v35 v36 : Value), Only [] w WX → Blk WX pa 28 (mC (fewM x) qa qv qb).toArray → Blk WX po 28 (mC (fewM x) rb vb bb).toArray → MAt WX (fewM x) qa qv qb → MAt WX (fewM x) rb vb bb → WX.heap.size ≤ px → Blk w' px 28 (mC (fewM x) (.slice ra (fewM x).refs.length rc) (.slice va (fewM x).mvds.length vc) (.slice ba (fewM x).blocks.length bc)).toArray → OwnM WX w' (fewM x) (.slice ra (fewM x).refs.length rc) (.slice va (fewM x).mvds.length vc) (.slice ba (fewM x).blocks.length bc) → rest.wp Tryd.prog Q ⟨#[mV x r1 v1 b1, mV z r2 v2 b2, .pointer (some ⟨pa, 0, none⟩), .pointer (some ⟨pa + 1, 0, none⟩), v4, .pointer (some ⟨po, 0, none⟩), .pointer (some ⟨px, 0, none⟩), u7, u8, u9, u10, v11, v12, v13, v14, v15, v16, v17, v18, v19, v20, v21, v22, v23, v24, v25, v26, v27, v28, v29, v30, v31, v32, v33, v34, v35, v36, u37, u38, u39, u40, u41, u42, u43, u44, u45, u46, u47, u48, u49, u50, u51, u52, u53, u54, u55, u56, u57, u58, u59, u60, u61, u62, u63, u64, u65, u66, u67, u68, u69, u70, u71, u72, u73, u74, u75, u76, u77, u78, u79, u80, u81, u82, u83, u84, u85, u86, u87, u88, u89, u90, u91, u92, u93, u94, u95, u96, u97, u98, u99], []⟩ w') :
    (endWith 6 eqB rest).wp Tryd.prog Q ⟨#[mV x r1 v1 b1, mV z r2 v2 b2, u2, u3, u4, u5, u6, u7, u8, u9, u10, u11, u12, u13, u14, u15, u16, u17, u18, u19, u20, u21, u22, u23, u24, u25, u26, u27, u28, u29, u30, u31, u32, u33, u34, u35, u36, u37, u38, u39, u40, u41, u42, u43, u44, u45, u46, u47, u48, u49, u50, u51, u52, u53, u54, u55, u56, u57, u58, u59, u60, u61, u62, u63, u64, u65, u66, u67, u68, u69, u70, u71, u72, u73, u74, u75, u76, u77, u78, u79, u80, u81, u82, u83, u84, u85, u86, u87, u88, u89, u90, u91, u92, u93, u94, u95, u96, u97, u98, u99], []⟩ w := by
  conv => arg 2; whnf; arg 2; whnf; arg 2; whnf; arg 2; whnf; arg 2; whnf; arg 2; whnf; arg 2; whnf
  have HR := hid hr
  clear hr
  obtain ⟨W1, hW1⟩ : ∃ W, W = w.alloc (.cells (mC x r1 v1 b1).toArray 28) := ⟨_, rfl⟩
  obtain ⟨W, hW⟩ : ∃ W, W = W1.alloc (.cells (mC z r2 v2 b2).toArray 28) := ⟨_, rfl⟩
  obtain ⟨pa, hp⟩ : ∃ X, X = w.heap.size := ⟨_, rfl⟩
  have hp1 : pa + 1 = W1.heap.size := by rw [hW1, hp]; exact (World.size_alloc _ _).symm
  have o1 : Only [] w W1 := hW1 ▸ ((Only.refl [] w).alloc _)
  have o2 : Only [] W1 W := hW ▸ ((Only.refl [] W1).alloc _)
  have BA : Blk W pa 28 (mC x r1 v1 b1).toArray := by
    have := Blk.new w 28 (mC x r1 v1 b1).toArray
    rw [← hW1, ← hp] at this
    exact this.only o2 (by simp)
  have BB : Blk W (pa + 1) 28 (mC z r2 v2 b2).toArray := by
    have := Blk.new W1 28 (mC z r2 v2 b2).toArray
    rwa [← hW, ← hp1] at this
  have oW := hid (show Only [] w W ∧ pa + 1 < W.heap.size ∧ w.heap.size ≤ pa from ⟨o1.trans o2, BB.lt, by omega⟩)
  have LA := hid (fun w' (o : Only [] W w') => BA.only o (by simp))
  have LB := hid (fun w' (o : Only [] W w') => BB.only o (by simp))
  have FA := hid (fun w' (o : Only [] W w') => few13_any x r1 v1 b1 w' (hm1.only0 (oW.out.1.trans o)) k1 p1)
  have FB := hid (fun w' (o : Only [] W w') => few13_any z r2 v2 b2 w' (hm2.only0 (oW.out.1.trans o)) k2 p2)
  have V := hid (fun w' (o : Only [] w w') => hV.only0 o)
  obtain ⟨ya, hya⟩ : ∃ y, y = fewM x := ⟨_, rfl⟩
  obtain ⟨yb, hyb⟩ : ∃ y, y = fewM z := ⟨_, rfl⟩
  have YA := hid (show MFew ya from hya ▸ fewM_few x)
  have YB := hid (show MFew yb from hyb ▸ fewM_few z)
  rw [← hya] at FA HR
  rw [← hyb] at FB
  have HW1 := hid hW1
  have HW := hid hW
  have HP := hid hp
  have HP1 := hid hp1
  clear hW1 hW hp1 o1 o2 BA BB hm1 hm2 k1 k2 p1 p2 hV hya hyb hp
  unfold mV at HR ⊢
  go_upto_region 1 with (first
    | (refine wp_box rfl 28 (.tmp 0) rfl (mC x r1 v1 b1).toArray rfl HW1.out HP.out ?_; simp only [Act.put, List.setIfInBounds_toArray, List.set_cons_zero, List.set_cons_succ])
    | (refine wp_box rfl 28 (.tmp 1) rfl (mC z r2 v2 b2).toArray rfl HW.out HP1.out ?_; simp only [Act.put, List.setIfInBounds_toArray, List.set_cons_zero, List.set_cons_succ]))
  refine wp_region_tail (fun w' => Only [] W w') 4 6 (by kernel_rfl) rfl (Only.refl [] W).drew (fun hS => ?_)
  generalize W.drew = wd at *
  refine wpAnyT_take 0 rfl (by kernel_rfl) (fun _ _ _ h => hQ _ _ _ _ _ h) (yields_load 28 _ (by rfl) rfl ⟨pa, 0, none⟩ (mC x r1 v1 b1) rfl (fun w' o => (LA.out w' o).mb)) hS ?_
  (try simp only [Act.put, List.setIfInBounds_toArray, List.set_cons_zero, List.set_cons_succ])
  refine wpAnyT_take 2 rfl (by kernel_rfl) (fun _ _ _ h => hQ _ _ _ _ _ h) (yields_load 28 _ (by rfl) rfl ⟨pa + 1, 0, none⟩ (mC z r2 v2 b2) rfl (fun w' o => (LB.out w' o).mb)) hS ?_
  (try simp only [Act.put, List.setIfInBounds_toArray, List.set_cons_zero, List.set_cons_succ])
  refine wpAnyT_call 1 rfl (by kernel_rfl) (fun K hK => ?_)
  rw [if_pos (by rfl)]
  go_simp
  refine (FA.out _ hS).mono ?_
  rintro e w3 ⟨qa, qv, qb, rfl, ha, o3⟩
  have hS3 : Only [] W w3 := hS.trans o3
  refine hK.out _ _ hS3 ?_
  clear hK K
  (try simp only [Act.put, List.setIfInBounds_toArray, List.set_cons_zero, List.set_cons_succ])
  refine wpAnyT_call 3 rfl (by kernel_rfl) (fun K hK => ?_)
  rw [if_pos (by rfl)]
  go_simp
  refine (FB.out _ hS3).mono ?_
  rintro e w4 ⟨ka, kv, kb, rfl, hb, o4⟩
  have hS4 : Only [] W w4 := hS3.trans o4
  refine hK.out _ _ hS4 ?_
  clear hK K
  (try simp only [Act.put, List.setIfInBounds_toArray, List.set_cons_zero, List.set_cons_succ])
  have onea := (ha [] w3 (Only.refl _ _) (by simp)).one
  have oneb := (hb [] w4 (Only.refl _ _) (by simp)).one
  have ba4 := LA.out w4 hS4
  have bb4 := LB.out w4 hS4
  refine wpAnyT_tail _ rfl (by kernel_rfl) ?_
  simp only [List.drop_succ_cons, List.drop_zero]
  unfold mV
  go_upto_region 2 with (first
    | (refine store_blk rfl 28 (.tmp 2) (.tmp 12) rfl pa 0 _ _ (mC ya qa qv qb) rfl rfl (info_mb' _ _ _ _) ba4 (by simp [mC]) (one_mC ya onea.1 onea.2.1 onea.2.2) ?_; intro w5 hB5 hO5; have bb5 := bb4.only hO5 (by simp))
    | (refine store_blk rfl 28 (.tmp 3) (.tmp 14) rfl (pa + 1) 0 _ _ (mC yb ka kv kb) rfl rfl (info_mb' _ _ _ _) bb5 (by simp [mC]) (one_mC yb oneb.1 oneb.2.1 oneb.2.2) ?_; intro w6 hB6 hO6))
  rw [setsA_full (by simp [mC])] at hB5 hB6
  have o46 : Only [pa, pa + 1] w4 w6 := (hO5.mono (fun g _ h => by simp at h ⊢; exact .inl h)).trans (hO6.mono (fun g _ h => by simp at h ⊢; exact .inr h))
  have lt2 : ∀ g, g ∈ [pa, pa + 1] → w.heap.size ≤ g ∧ g < W.heap.size := fun g hg => by have := oW.out.2; simp at hg; omega
  have MA := hid (show ∀ w', Only [] w6 w' → MAt w' ya qa qv qb from fun w' o => ha [pa, pa + 1] w' (((o4.mono (fun _ _ h => by cases h)).trans o46).trans (o.mono (fun _ _ h => by cases h))) (fun g hg => by have := (lt2 g hg).2; have := hS.size; omega))
  have MB := hid (show ∀ w', Only [] w6 w' → MAt w' yb ka kv kb from fun w' o => hb [pa, pa + 1] w' (o46.trans (o.mono (fun _ _ h => by cases h))) (fun g hg => by have := (lt2 g hg).2; have := hS3.size; omega))
  have KA := hid (fun w' (o : Only [] w6 w') => (hB5.only hO6 (by simp)).only o (by simp))
  have KB := hid (fun w' (o : Only [] w6 w') => hB6.only o (by simp))
  have O6 := hid (show Only [] w w6 from (oW.out.1.trans hS4).trans2 o46 (fun g hg => .inr (lt2 g hg).1))
  have EQ := hid (fun w' (o : Only [] w6 w') => equal13_any ya yb qa qv qb ka kv kb w' (V.out w' (O6.out.trans o)) (MA.out w' o) (MB.out w' o) (few_len YA.out) (few_len YB.out))
  have EK := hid (fun w' (o : Only [] w6 w') => eqmb_dec ya yb qa qv qb ka kv kb w' (MA.out w' o) (MB.out w' o) (few_len YA.out) (few_len YB.out))
  have CP := hid (fun w' (o : Only [] w6 w') => copymb_any ya qa qv qb w' (MA.out w' o) (by have := YA.out.r; omega) (by have := YA.out.v; omega) (by have := YA.out.b; omega) (fun l hl => by have := YA.out.i l hl; omega))
  have ES := hid (fun rb vb bb w' (o : Only [] w6 w') (h : MAt w' ya rb vb bb) => equal13_any ya ya qa qv qb rb vb bb w' (V.out w' (O6.out.trans o)) (MA.out w' o) h (few_len YA.out) (few_len YA.out))
  obtain ⟨dq, hdq⟩ : ∃ b, b = decide (ya = yb) := ⟨_, rfl⟩
  rw [← hdq] at EQ EK
  clear hB5 hO5 bb5 hB6 hO6 o46 lt2 ba4 bb4 ha hb o3 o4 hS hS3 hS4 onea oneb FA FB LA LB HW1 HW HP1 hdq YB MB
  refine wp_region_heldH (fun w' => Only [] w6 w') 14 (by kernel_rfl) rfl (Only.refl [] w6).drew (fun hS => ?_)
  generalize w6.drew = we at *
  refine wpAnyH_read 0 rfl (by kernel_rfl) (by kernel_rfl) (by kernel_rfl) (fun _ _ _ h => hQ _ _ _ _ _ h) hS (yields_load 28 _ (by rfl) rfl ⟨pa, 0, none⟩ (mC ya qa qv qb) rfl (fun w' o => (KA.out w' o).mb)) ?_
  (try simp only [Act.put, List.setIfInBounds_toArray, List.set_cons_zero, List.set_cons_succ])
  refine wpAnyH_read 1 rfl (by kernel_rfl) (by kernel_rfl) (by kernel_rfl) (fun _ _ _ h => hQ _ _ _ _ _ h) hS (yields_load 28 _ (by rfl) rfl ⟨pa + 1, 0, none⟩ (mC yb ka kv kb) rfl (fun w' o => (KB.out w' o).mb)) ?_
  (try simp only [Act.put, List.setIfInBounds_toArray, List.set_cons_zero, List.set_cons_succ])
  refine wpAnyH_read 3 rfl (by kernel_rfl) (by kernel_rfl) (by kernel_rfl) (fun _ _ _ h => hQ _ _ _ _ _ h) hS (yields_load 28 _ (by rfl) rfl ⟨pa, 0, none⟩ (mC ya qa qv qb) rfl (fun w' o => (KA.out w' o).mb)) ?_
  (try simp only [Act.put, List.setIfInBounds_toArray, List.set_cons_zero, List.set_cons_succ])
  refine wpAnyH_read 4 rfl (by kernel_rfl) (by kernel_rfl) (by kernel_rfl) (fun _ _ _ h => hQ _ _ _ _ _ h) hS (yields_load 28 _ (by rfl) rfl ⟨pa + 1, 0, none⟩ (mC yb ka kv kb) rfl (fun w' o => (KB.out w' o).mb)) ?_
  (try simp only [Act.put, List.setIfInBounds_toArray, List.set_cons_zero, List.set_cons_succ])
  refine wpAnyH_call 2 rfl (by kernel_rfl) (fun J hJ => ?_)
  rw [if_pos (by rfl)]
  go_simp
  refine (EQ.out _ hS).mono ?_
  rintro e x2 ⟨rfl, p_⟩
  have s2 := hS.trans p_
  clear p_
  refine hJ.out _ _ s2 ?_
  clear hJ J
  (try simp only [Act.put, List.setIfInBounds_toArray, List.set_cons_zero, List.set_cons_succ])
  refine wpAnyH_call 5 rfl (by kernel_rfl) (fun J hJ => ?_)
  rw [if_pos (by rfl)]
  go_simp
  refine (EK.out _ s2).mono ?_
  rintro e x5 ⟨rfl, p_⟩
  have s5 := s2.trans p_
  clear p_
  refine hJ.out _ _ s5 ?_
  clear hJ J
  (try simp only [Act.put, List.setIfInBounds_toArray, List.set_cons_zero, List.set_cons_succ])
  refine wpAnyH_read 6 (v := ?va1) rfl (by kernel_rfl) (by kernel_rfl) (by kernel_rfl) (fun _ _ _ h => hQ _ _ _ _ _ h) s5 (Or.inl ⟨by rfl, ?ya1⟩) ?ra1
  case ya1 =>
    intro w hSw
    skip
    go_simp
    (try with_reducible rfl)
  (try simp only [Act.put, List.setIfInBounds_toArray, List.set_cons_zero, List.set_cons_succ])
  refine wpAnyH_read 7 (v := ?va2) rfl (by kernel_rfl) (by kernel_rfl) (by kernel_rfl) (fun _ _ _ h => hQ _ _ _ _ _ h) s5 (Or.inl ⟨by rfl, ?ya2⟩) ?ra2
  case ya2 =>
    intro w hSw
    skip
    go_simp
    (try with_reducible rfl)
  (try simp only [Act.put, List.setIfInBounds_toArray, List.set_cons_zero, List.set_cons_succ])
  refine wpAnyH_read 8 rfl (by kernel_rfl) (by kernel_rfl) (by kernel_rfl) (fun _ _ _ h => hQ _ _ _ _ _ h) s5 (yields_load 28 _ (by rfl) rfl ⟨pa, 0, none⟩ (mC ya qa qv qb) rfl (fun w' o => (KA.out w' o).mb)) ?_
  (try simp only [Act.put, List.setIfInBounds_toArray, List.set_cons_zero, List.set_cons_succ])
  refine wpAnyH_read 9 rfl (by kernel_rfl) (by kernel_rfl) (by kernel_rfl) (fun _ _ _ h => hQ _ _ _ _ _ h) s5 (yields_load 28 _ (by rfl) rfl ⟨pa, 0, none⟩ (mC ya qa qv qb) rfl (fun w' o => (KA.out w' o).mb)) ?_
  (try simp only [Act.put, List.setIfInBounds_toArray, List.set_cons_zero, List.set_cons_succ])
  refine wpAnyH_call 10 rfl (by kernel_rfl) (fun J hJ => ?_)
  rw [if_pos (by rfl)]
  go_simp
  refine (CP.out _ s5).mono ?_
  rintro e x10 ⟨tb, tv, tw, rfl, ho⟩
  have s10 := s5.trans ho.only
  have ES' := ES.out tb tv tw x10 s10 ho.at
  rw [decide_eq_true rfl] at ES'
  refine hJ.out _ _ s10 ?_
  clear hJ J
  (try simp only [Act.put, List.setIfInBounds_toArray, List.set_cons_zero, List.set_cons_succ])
  refine wpAnyH_call 11 rfl (by kernel_rfl) (fun J hJ => ?_)
  rw [if_pos (by rfl)]
  go_simp
  refine (ES').mono ?_
  rintro e x11 ⟨rfl, p_⟩
  have s11 := s10.trans p_
  clear p_
  refine hJ.out _ _ s11 ?_
  clear hJ J
  (try simp only [Act.put, List.setIfInBounds_toArray, List.set_cons_zero, List.set_cons_succ])
  refine wpAnyH_read 12 (v := ?va3) rfl (by kernel_rfl) (by kernel_rfl) (by kernel_rfl) (fun _ _ _ h => hQ _ _ _ _ _ h) s11 (Or.inl ⟨by rfl, ?ya3⟩) ?ra3
  case ya3 =>
    intro w hSw
    skip
    go_simp
    (try with_reducible rfl)
  (try simp only [Act.put, List.setIfInBounds_toArray, List.set_cons_zero, List.set_cons_succ])
  refine wpAnyH_read 13 (v := ?va4) rfl (by kernel_rfl) (by kernel_rfl) (by kernel_rfl) (fun _ _ _ h => hQ _ _ _ _ _ h) s11 (Or.inl ⟨by rfl, ?ya4⟩) ?ra4
  case ya4 =>
    intro w hSw
    skip
    go_simp
    (try with_reducible rfl)
  (try simp only [Act.put, List.setIfInBounds_toArray, List.set_cons_zero, List.set_cons_succ])
  refine wpAnyH_done (by kernel_rfl) ?_ _
  have S11 := hid s11
  clear hS s2 s5 s10 s11 ho ES'
  go_wp2_with (refine load_atA rfl 28 (.tmp 2) rfl ⟨pa, 0, none⟩ (mC ya qa qv qb) rfl (KA.out _ S11.out).mb ?_; simp only [Act.put, List.setIfInBounds_toArray, List.set_cons_zero, List.set_cons_succ])
  refine (CP.out _ S11.out).mono ?_
  rintro e y1 ⟨rb, vb, bb, rfl, ho⟩
  have one1 := ho.at.one
  have HO := hid ho
  have T1 := hid (S11.out.trans ho.only)
  clear ho
  unfold mV
  go_upto_region 5 with (refine store_blk rfl 28 (.tmp 5) (.tmp 30) rfl y1.heap.size 0 _ _ (mC ya rb vb bb) rfl rfl (info_mb' _ _ _ _) (Blk.new y1 _ _) (by simp [mC]) (one_mC ya one1.1 one1.2.1 one1.2.2) ?_; intro WX hBX hOX)
  rw [setsA_full (by simp [mC])] at hBX
  have ox : Only [] y1 WX := ((Only.refl [] y1).alloc _).trans2 hOX (fun g hg => .inr (by simp at hg; omega))
  obtain ⟨po, hpo⟩ : ∃ q, q = y1.heap.size := ⟨_, rfl⟩
  rw [← hpo] at hBX ⊢
  have TX := hid (T1.out.trans ox)
  have MO := hid (HO.out.at.only0 ox)
  have BO := hid hBX
  have CC := hid (copy13_any ya rb vb bb WX (V.out WX (O6.out.trans TX.out)) MO.out (by have := YA.out.r; omega) (by have := YA.out.v; omega) (by have := YA.out.b; omega) (fun l hl => by have := YA.out.i l hl; omega))
  clear hBX hOX ox hpo one1 HO
  go_wp2_with (refine load_atA rfl 28 (.tmp 5) rfl ⟨po, 0, none⟩ (mC ya rb vb bb) rfl BO.out.mb ?_; simp only [Act.put, List.setIfInBounds_toArray, List.set_cons_zero, List.set_cons_succ])
  refine CC.out.mono ?_
  rintro e y2 ⟨tr, tv, tb, rfl, ho⟩
  obtain ⟨ra, rc, rfl, _⟩ := id ho.at.r
  obtain ⟨va, vc, e2, _⟩ := id ho.at.v
  subst e2
  obtain ⟨ba, bc, rfl⟩ : ∃ a c, tb = .slice a ya.blocks.length c := by
    obtain ⟨us, h1, h2, _⟩ := ho.at.b
    obtain ⟨a, c, e, _⟩ := h1
    exact ⟨a, c, by rw [e, h2]⟩
  have HO := hid ho
  clear ho
  unfold mV
  go_upto_region 6 with (refine store_blk rfl 28 (.tmp 6) (.tmp 32) rfl y2.heap.size 0 _ _ (mC ya (.slice ra ya.refs.length rc) (.slice va ya.mvds.length vc) (.slice ba ya.blocks.length bc)) rfl rfl (info_mb' _ _ _ _) (Blk.new y2 _ _) (by simp [mC]) (one_mC ya rfl rfl rfl) ?_; intro y3 hB3 hO3)
  rw [setsA_full (by simp [mC])] at hB3
  have o3 : Only [] y2 y3 := ((Only.refl [] y2).alloc _).trans2 hO3 (fun g hg => .inr (by simp at hg; omega))
  obtain ⟨px, hpx⟩ : ∃ q, q = y2.heap.size := ⟨_, rfl⟩
  rw [← hpx] at hB3 ⊢
  have PXL := hid (show WX.heap.size ≤ px from by rw [hpx]; exact HO.out.only.size)
  have X3 := hid (HO.out.step o3)
  have B3 := hid hB3
  have K3 := hid (show Only [] WX y3 from X3.out.only)
  have EZ := hid (eqmb_same ya (.slice ra ya.refs.length rc) (.slice va ya.mvds.length vc) (.slice ba ya.blocks.length bc) qa qv qb y3 X3.out.at (MA.out y3 (TX.out.trans K3.out)) (few_len YA.out))
  have BQ := hid (KA.out y3 (TX.out.trans K3.out))
  clear hB3 hO3 o3 hpx HO
  go_wp2_with (first
    | (refine load_atA rfl 28 (.tmp 6) rfl ⟨px, 0, none⟩ (mC ya (.slice ra ya.refs.length rc) (.slice va ya.mvds.length vc) (.slice ba ya.blocks.length bc)) rfl B3.out.mb ?_; simp only [Act.put, List.setIfInBounds_toArray, List.set_cons_zero, List.set_cons_succ])
    | (refine load_atA rfl 28 (.tmp 2) rfl ⟨pa, 0, none⟩ (mC ya qa qv qb) rfl BQ.out.mb ?_; simp only [Act.put, List.setIfInBounds_toArray, List.set_cons_zero, List.set_cons_succ]))
  refine EZ.out.mono ?_
  rintro e y4 ⟨rfl, o4⟩
  have X4 := hid (X3.out.step o4)
  have B4 := hid (B3.out.only o4 (by simp))
  clear o4
  go_wp2_with fail
  exact HR.out WX y4 pa po px qa qv qb rb vb bb ra va ba rc vc bc _ _ _ _ _ _ _ _ _ _ _ _ _ _ _ _ _ _ _ _ _ _ _ _ _ _ _ (O6.out.trans TX.out) (KA.out WX TX.out) BO.out (MA.out WX TX.out) MO.out PXL.out B4.out X4.out
end Go.Proofs.YtpmmnjeomdjakaaDoor

end
section
set_option maxRecDepth 20000
namespace Go.Proofs.YtpmmnjeomdjakaaDoor
open Go.RowKit
set_option linter.unusedVariables false
set_option linter.unusedSimpArgs false

set_option maxRecDepth 1000000 in
set_option maxHeartbeats 8000000 in
theorem mbequals_any (hA : Awake13) (x z : MV) (r1 v1 b1 r2 v2 b2 : Value) (w : World) (hV : MbV w) (hm1 : MAt w x r1 v1 b1) (hm2 : MAt w z r2 v2 b2) (k1 : ∀ l, l ∈ x.blocks → l.length ≤ 17592186043904) (p1 : x.pcm.size ≤ maxLen) (k2 : ∀ l, l ∈ z.blocks → l.length ≤ 17592186043904) (p2 : z.pcm.size ≤ maxLen) :
    Calls Tryd.prog 4 #[mV x r1 v1 b1, mV z r2 v2 b2] w fun e w' => e = .returned (.bool true) ∧ Only [] w w' := by
  go_enter Tryd.func4, Tryd.ntmps4
  generalize hq : (Code.seq _ _) = cc
  have hcc : cc = endWith 6 eqB (dropSeq 6 eqB) := by rw [← hq]; kernel_rfl
  rw [hcc]
  clear hq hcc
  refine eq_begin _ _ (fun _ _ _ _ _ h => h) x z r1 v1 b1 r2 v2 b2 w hV hm1 hm2 k1 p1 k2 p2 _ _ _ _ _ _ _ _ _ _ _ _ _ _ _ _ _ _ _ _ _ _ _ _ _ _ _ _ _ _ _ _ _ _ _ _ _ _ _ _ _ _ _ _ _ _ _ _ _ _ _ _ _ _ _ _ _ _ _ _ _ _ _ _ _ _ _ _ _ _ _ _ _ _ _ _ _ _ _ _ _ _ _ _ _ _ _ _ _ _ _ _ _ _ _ _ _ _ (fun WX w1 pa po px qa qv qb rb vb bb ra va ba rc vc bc v4 v11 v12 v13 v14 v15 v16 v17 v18 v19 v20 v21 v22 v23 v24 v25 v26 v27 v28 v29 v30 v31 v32 v33 v34 v35 v36 oX bA bO mA mO hX hB hM => ?_)
  have yf := fewM_few x
  rw [show dropSeq 6 eqB = endWith 1 (dropSeq 6 eqB) (dropSeq 7 eqB) from by kernel_rfl]
  refine eq_refs _ _ (fewM x) ra va ba rc vc bc px WX w1 w1 yf (Tame.refl _) hM.only hX hB hM _ _ _ _ _ _ _ _ _ _ _ _ _ _ _ _ _ _ _ _ _ _ _ _ _ _ _ _ _ _ _ _ _ _ _ _ _ _ _ _ _ _ _ _ _ _ _ _ _ _ _ _ _ _ _ _ _ _ _ _ _ _ _ _ _ _ _ _ _ _ _ _ _ _ _ _ _ _ _ _ _ _ _ _ _ _ _ _ _ _ _ _ _ _ _ _ _ _ _ (fun w2 v7 v37 v38 v39 v40 v41 v42 v43 v44 v45 v46 v47 v48 v49 v50 t2 o2 => ?_)
  rw [show dropSeq 7 eqB = endWith 1 (dropSeq 7 eqB) (dropSeq 8 eqB) from by kernel_rfl]
  refine eq_mvds _ _ (fewM x) ra va ba rc vc bc px WX w1 w2 yf t2 o2 hX hB hM _ _ _ _ _ _ _ _ _ _ _ _ _ _ _ _ _ _ _ _ _ _ _ _ _ _ _ _ _ _ _ _ _ _ _ _ _ _ _ _ _ _ _ _ _ _ _ _ _ _ _ _ _ _ _ _ _ _ _ _ _ _ _ _ _ _ _ _ _ _ _ _ _ _ _ _ _ _ _ _ _ _ _ _ _ _ _ _ _ _ _ _ _ _ _ _ _ _ _ (fun w3 v8 v51 v52 v53 v54 v55 v56 v57 v58 v59 v60 v61 v62 v63 v64 v65 v66 t3 o3 => ?_)
  rw [show dropSeq 8 eqB = endWith 1 (dropSeq 8 eqB) (dropSeq 9 eqB) from by kernel_rfl]
  refine eq_blocks _ _ (fewM x) ra va ba rc vc bc px WX w1 w3 yf t3 o3 hX hB hM _ _ _ _ _ _ _ _ _ _ _ _ _ _ _ _ _ _ _ _ _ _ _ _ _ _ _ _ _ _ _ _ _ _ _ _ _ _ _ _ _ _ _ _ _ _ _ _ _ _ _ _ _ _ _ _ _ _ _ _ _ _ _ _ _ _ _ _ _ _ _ _ _ _ _ _ _ _ _ _ _ _ _ _ _ _ _ _ _ _ _ _ _ _ _ _ _ _ _ (fun w4 v9 v10 v67 v68 v69 v70 v71 v72 v73 v74 v75 v76 v77 v78 v79 v80 v81 v82 v83 v84 v85 v86 v87 v88 v89 v90 v91 v92 v93 t4 o4 => ?_)
  have BA := hid (bA.only o4 (by simp))
  have BO := hid (bO.only o4 (by simp))
  have EQ := hid (eqmb_same (fewM x) rb vb bb qa qv qb w4 (mO.only0 o4) (mA.only0 o4) (few_len yf))
  have AV := hid (fun w' (o : Only [] w4 w') => hA w' (hV.only0 ((oX.trans o4).trans o)))
  have O4 := hid (oX.trans o4)
  clear t2 o2 t3 o3 t4 o4 hX hB hM bA bO mA mO oX yf hV hm1 hm2 k1 p1 k2 p2 hA
  generalize fewM x = y at *
  conv => arg 2; whnf
  go_wp2_with (first
    | (refine load_atA rfl 28 (.tmp 5) rfl ⟨po, 0, none⟩ (mC y rb vb bb) rfl BO.out.mb ?_; simp only [Act.put, List.setIfInBounds_toArray, List.set_cons_zero, List.set_cons_succ])
    | (refine load_atA rfl 28 (.tmp 2) rfl ⟨pa, 0, none⟩ (mC y qa qv qb) rfl BA.out.mb ?_; simp only [Act.put, List.setIfInBounds_toArray, List.set_cons_zero, List.set_cons_succ]))
  refine EQ.out.mono ?_
  rintro e w5 ⟨rfl, o5⟩
  have O5 := hid o5
  clear o5
  go_wp2_with fail
  refine (AV.out _ O5.out).mono ?_
  rintro e w6 ⟨rfl, o6⟩
  have O6 := hid (O4.out.trans (O5.out.trans o6))
  clear o6
  go_wp2_with fail
  go_ret
  exact ⟨rfl, O6.out⟩
end Go.Proofs.YtpmmnjeomdjakaaDoor

end
section
set_option maxRecDepth 20000
namespace Go.Proofs.YtpmmnjeomdjakaaDoor
open Go.RowKit
set_option linter.unusedVariables false
set_option linter.unusedSimpArgs false

set_option maxHeartbeats 2000000 in
theorem eqcd_any (a b : Value) (ss ts : List Cod) (w : World) (ha : HoldsG cdC 3 w a ss) (hb : HoldsG cdC 3 w b ts) (h1 : ss.length ≤ 1000000) (h2 : ts.length ≤ 1000000) :
    Calls Tryd.prog 59 #[a, b] w fun e w' => e = .returned (.bool (decide (ss = ts))) ∧ Only [] w w' := by
  have HA := hid ha
  have HB := hid hb
  obtain ⟨a, c, rfl, _⟩ := ha
  obtain ⟨b, d, rfl, _⟩ := hb
  by_cases hl : ss.length = ts.length
  · have TL := hid hl
    obtain ⟨n, hn⟩ : ∃ n, n = ss.length := ⟨_, rfl⟩
    have N1 := hid hn
    have N2 := hid (hn.trans hl)
    rw [← hl, ← hn]
    rw [← hn] at h1
    clear hl h2 hn
    obtain ⟨r, hr⟩ : ∃ r, r = decide (ss = ts) := ⟨_, rfl⟩
    rw [← hr]
    have R := hid hr
    clear hr
    have nb : (n : Int) ≤ 1000000 := by omega
    go_enter Tryd.func59, Tryd.ntmps59
    go_wp2_with fail
    go_loopg [5] n (fun g t wr => ∃ j : Nat, j + g = n ∧ t = .int .i64 j ∧ ss.take j = ts.take j ∧ Only [] w wr)
    case atStart => exact ⟨0, by omega, rfl, rfl, Only.refl _ _⟩
    case round =>
      obtain ⟨j, hj, rfl, ht, hO⟩ := hrel
      have J := hid hj
      have T := hid ht
      have O := hid hO
      clear ht hO
      have jb : (j : Int) ≤ 1000000 := by omega
      have j0 : (0 : Int) ≤ (j : Int) := by omega
      by_cases hg : gk = 0
      · obtain rfl : j = n := by omega
        have i1 : ¬ (j : Int) < (j : Int) := by omega
        have E := R.out
        have e := T.out
        rw [List.take_of_length_le (by have := N1.out; omega), List.take_of_length_le (by have := N2.out; omega)] at e
        rw [decide_eq_true e] at E
        subst E
        clear hj hg e
        go_wp2_with fail
        go_ret
        exact ⟨rfl, O.out⟩
      · have i1 : (j : Int) < (n : Int) := by omega
        obtain ⟨g, rfl⟩ : ∃ g, gk = g + 1 := ⟨gk - 1, by omega⟩
        have l1 : j < ss.length := by have := N1.out; omega
        have l2 : j < ts.length := by have := N2.out; omega
        obtain ⟨x, X, T1⟩ := take_oneG ss j l1
        obtain ⟨y, Y, T2⟩ := take_oneG ts j l2
        obtain ⟨xb, xo, rfl, hx⟩ := HA.out.at X
        obtain ⟨yb, yo, rfl, hy⟩ := HB.out.at Y
        have x0 := O.out.cell (hx 0 (.int .u8 x.1) rfl) (by simp)
        have x1 := O.out.cell (hx 1 (.int .u8 x.2.1) rfl) (by simp)
        have x2 := O.out.cell (hx 2 (.int .i64 x.2.2) rfl) (by simp)
        have y0 := O.out.cell (hy 0 (.int .u8 y.1) rfl) (by simp)
        have y1 := O.out.cell (hy 1 (.int .u8 y.2.1) rfl) (by simp)
        have y2 := O.out.cell (hy 2 (.int .i64 y.2.2) rfl) (by simp)
        rw [Nat.add_zero] at x0 y0
        have EQ := neq_cod x y
        have X := hid X
        have Y := hid Y
        have T1 := hid T1
        have T2 := hid T2
        clear hj hg l1 l2 hx hy
        by_cases e : x = y
        · rw [decide_eq_true e] at EQ
          have EE := hid e
          clear e
          go_wp2_with fail
          go_quiet (fail)
          go_wp2_with fail
          go_roundg g
          case measure => omega
          case rel => exact ⟨j + 1, by have := J.out; omega, by go_num, by rw [T1.out, T2.out, T.out, EE.out], O.out.drewN _⟩
        · rw [decide_eq_false e] at EQ
          have NE : decide (ss = ts) = false := by
            rw [decide_eq_false_iff_not]
            intro h
            subst h
            exact e (Option.some.inj (X.out.symm.trans Y.out))
          have E := R.out
          rw [NE] at E
          subst E
          clear e NE
          go_wp2_with fail
          go_quiet (fail)
          go_wp2_with fail
          go_ret
          exact ⟨rfl, O.out.drewN _⟩
  · have hne : ((ss.length : Int) == (ts.length : Int)) = false := by rw [beq_eq_false_iff_ne]; omega
    have hne2 : ((ss.length : Int) != (ts.length : Int)) = true := by rw [bne_iff_ne]; omega
    rw [decide_eq_false (fun e => hl (by rw [e]))]
    clear hl
    go_enter Tryd.func59, Tryd.ntmps59
    go_wp2_with fail
    go_ret
    exact ⟨rfl, Only.refl _ _⟩
end Go.Proofs.YtpmmnjeomdjakaaDoor

end

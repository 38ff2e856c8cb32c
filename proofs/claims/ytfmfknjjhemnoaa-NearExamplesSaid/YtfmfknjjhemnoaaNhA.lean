/- The laws' finds, at, awake. -/
import Derived.Test.YtfmfknjjhemnoaaNpE
namespace Go.Proofs.Ytfmfknjjhemnoaa
open Go.RowKit
set_option linter.unusedVariables false
set_option linter.unusedSimpArgs false

/-- The macroblocks that the law's at lays: their Qp are 1, 2, 3 and so on. -/
def qpM (i : Nat) : MV := { m0 with qp := i + 1 }
def qpsM (n : Nat) : List MV := (List.range n).map qpM
theorem qpsM_succ (n : Nat) : qpsM (n + 1) = qpsM n ++ [qpM n] := by simp [qpsM, List.range_succ]
theorem qpsM_len (n : Nat) : (qpsM n).length = n := by simp [qpsM]
theorem qpsM_at {n i : Nat} (h : i < n) : (qpsM n)[i]? = some (qpM i) := by simp [qpsM, List.getElem?_range h]
theorem msm_qpM (i : Nat) : MSm (qpM i) := ⟨Nat.zero_le _, Nat.zero_le _, Nat.zero_le _, by intro l h; cases h⟩
theorem new_any (f wd : Int) (w : World) (h : okN f wd) : Calls Try.prog 10 #[.int .i64 f, .int .i64 wd] w fun e w' => e = .returned (.tuple #[.pointer (some ⟨w.heap.size, 0, none⟩), .int .i64 0]) ∧ NAt 59 (fun g => g = w.heap.size) w' w.heap.size f wd [] ∧ Only [] w w' :=
  (new_yes f wd w h).mono fun e w' ⟨he, hw⟩ => ⟨he, by rw [hw]; exact nat_new _ w f wd h.1 h.2.1 h.2.2.1 h.2.2.2, by rw [hw]; exact (Only.refl [] w).alloc _⟩
/-- What has grown is still all new. -/
theorem Grown.new {T : TypeId} {F : Nat → Prop} {w0 w w' : World} {nb : Nat} {f wd : Int} {ms : List MV} (h : Grown T F w w' nb f wd ms) (o : Only [] w0 w) (hF : ∀ g, F g → w0.heap.size ≤ g) : ∃ F', NAt T F' w' nb f wd ms ∧ (∀ g, F' g → w0.heap.size ≤ g) ∧ Only [] w0 w' := by
  obtain ⟨S, F', h1, h2, h3, h4⟩ := h
  exact ⟨F', h3, fun g hg => (h4 g hg).elim (hF g) (fun q => Nat.le_trans o.size q), o.trans2 h1 (fun g hg => .inr (hF g (h2 g hg)))⟩
set_option maxRecDepth 1000000 in
set_option maxHeartbeats 4000000 in
theorem finds_none (x : MV) (rv vv bv : Value) (h : x.qp = 0) (w : World) : Calls Try.prog 22 #[mV x rv vv bv, .bool false, .int .i64 0] w fun e w' => e = .returned (.bool true) ∧ Only [] w w' := by
  obtain ⟨W, hW⟩ : ∃ W, W = w.alloc (.cells (mC x rv vv bv).toArray 40) := ⟨_, rfl⟩
  have oW := hid (show Only [] w W from hW ▸ ((Only.refl [] w).alloc _))
  have cq : W.cell? ⟨w.heap.size, 26, none⟩ = some (.int .i64 x.qp) := (show Blk W w.heap.size 40 (mC x rv vv bv).toArray from hW ▸ Blk.new w _ _).cell rfl
  rw [h] at cq
  obtain ⟨p, hp⟩ : ∃ p, p = w.heap.size := ⟨_, rfl⟩
  rw [← hp] at cq
  have HW := hid hW
  have HP := hid hp
  clear hW hp h
  unfold mV
  go_enter Try.func22, Try.ntmps22
  go_wp2_with (refine wp_box rfl 40 (.tmp 0) rfl (mC x rv vv bv).toArray rfl HW.out HP.out ?_; simp only [Act.put, List.setIfInBounds_toArray, List.set_cons_zero, List.set_cons_succ])
  go_ret
  exact ⟨rfl, oW.out⟩
set_option maxRecDepth 1000000 in
set_option maxHeartbeats 4000000 in
theorem finds_some (x : MV) (rv vv bv : Value) (q : Int) (h : x.qp = q) (hq : q ≠ 0) (w : World) : Calls Try.prog 22 #[mV x rv vv bv, .bool true, .int .i64 q] w fun e w' => e = .returned (.bool true) ∧ Only [] w w' := by
  obtain ⟨W, hW⟩ : ∃ W, W = w.alloc (.cells (mC x rv vv bv).toArray 40) := ⟨_, rfl⟩
  have oW := hid (show Only [] w W from hW ▸ ((Only.refl [] w).alloc _))
  have cq : W.cell? ⟨w.heap.size, 26, none⟩ = some (.int .i64 x.qp) := (show Blk W w.heap.size 40 (mC x rv vv bv).toArray from hW ▸ Blk.new w _ _).cell rfl
  rw [h] at cq
  obtain ⟨p, hp⟩ : ∃ p, p = w.heap.size := ⟨_, rfl⟩
  rw [← hp] at cq
  have HW := hid hW
  have HP := hid hp
  clear hW hp h
  have q1 : (q == 0) = false := by rw [beq_eq_false_iff_ne]; exact hq
  have q2 : (q != 0) = true := by rw [bne_iff_ne]; exact hq
  unfold mV
  go_enter Try.func22, Try.ntmps22
  go_wp2_with (refine wp_box rfl 40 (.tmp 0) rfl (mC x rv vv bv).toArray rfl HW.out HP.out ?_; simp only [Act.put, List.setIfInBounds_toArray, List.set_cons_zero, List.set_cons_succ])
  go_ret
  exact ⟨rfl, oW.out⟩
theorem finds_any (o : Option MV) (q : Int) (hn : o = none → q = 0) (hs : ∀ x, o = some x → x.qp = q ∧ q ≠ 0) (rv vv bv : Value) (w : World) : Calls Try.prog 22 #[mV (ansM o) rv vv bv, .bool o.isSome, .int .i64 q] w fun e w' => e = .returned (.bool true) ∧ Only [] w w' := by
  cases o with
  | none =>
    rw [hn rfl]
    exact finds_none m0 rv vv bv rfl w
  | some x => exact finds_some x rv vv bv q (hs x rfl).1 (hs x rfl).2 w
set_option maxRecDepth 1000000 in
set_option maxHeartbeats 4000000 in
theorem lat_any (f wd : Int) (n : Nat) (w : World) (h : okN f wd) (hn : f + n ≤ 8160) : Calls Try.prog 17 #[.int .i64 f, .int .i64 wd, .int .i64 n] w fun e w' => NewN 59 w w' f wd (qpsM n) e := by
  have h0 := h.1
  have NW := hid (new_any f wd w h)
  have HN := hid hn
  have nb : (n : Int) ≤ 8160 := by omega
  have H0 := hid h0
  clear h hn h0
  go_enter Try.func17, Try.ntmps17
  go_wp2_with fail
  refine NW.out.mono ?_
  rintro e w1 ⟨rfl, hN, o1⟩
  have N1 := hid hN
  have O1 := hid o1
  obtain ⟨p, hp⟩ : ∃ p, p = w.heap.size := ⟨_, rfl⟩
  rw [← hp] at N1 ⊢
  have HP := hid hp
  clear hN o1 hp
  go_wp2_with fail
  go_loopg [9] n (fun g t wr => ∃ i : Nat, i + g = n ∧ t = .int .i64 i ∧ ∃ F, NAt 59 F wr p f wd (qpsM i) ∧ (∀ g, F g → w.heap.size ≤ g) ∧ Only [] w wr)
  case atStart => exact ⟨0, by omega, rfl, _, N1.out, fun g hg => by have := HP.out; omega, O1.out⟩
  case round =>
    obtain ⟨i, hi, rfl, F, hN, hF, hO⟩ := hrel
    have NN := hid hN
    have FF := hid hF
    have OO := hid hO
    clear hN hF hO
    have i0 : (0 : Int) ≤ (i : Int) := by omega
    by_cases hg : gk = 0
    · have i1 : ¬ (i : Int) < (n : Int) := by omega
      obtain rfl : i = n := by omega
      clear hi hg
      go_wp2_with fail
      go_ret
      exact ⟨p, F, rfl, NN.out, FF.out, OO.out⟩
    · obtain ⟨gg, rfl⟩ : ∃ gg, gk = gg + 1 := ⟨gk - 1, by omega⟩
      have IN := hid (show i + 1 + gg = n by omega)
      have i1 : (i : Int) < (n : Int) := by omega
      have AD := hid (add_yes (qpM i) (.slice none 0 0) (.slice none 0 0) (.slice none 0 0) wr NN.out (by rw [qpsM_len]; have := HN.out; omega) (by exact mAt_m0 wr |> fun h => ⟨h.r, h.v, h.b⟩) (msm_qpM i))
      clear hi hg
      go_wp2_with fail
      refine AD.out.mono ?_
      rintro e w2 ⟨rfl, G⟩
      rw [← qpsM_succ] at G
      have NX := hid (G.new OO.out FF.out)
      clear G
      go_wp2_with fail
      go_roundg gg
      case measure => omega
      case rel => exact ⟨i + 1, IN.out, by go_num, NX.out⟩
set_option maxRecDepth 1000000 in
set_option maxHeartbeats 4000000 in
theorem awake_any (w : World) : Calls Try.prog 12 #[] w fun e w' => e = .returned (.bool true) ∧ Only [] w w' := by
  have LA := hid (show Calls Try.prog 17 #[.int .i64 0, .int .i64 2, .int .i64 3] w fun e w' => NewN 59 w w' 0 2 (qpsM 3) e from lat_any 0 2 3 w ⟨by omega, by omega, by omega, by omega⟩ (by omega))
  go_enter Try.func12, Try.ntmps12
  go_wp2_with fail
  refine LA.out.mono ?_
  rintro e w1 ⟨nb, F, rfl, hN, _, o1⟩
  have NN := hid hN
  have OO := hid o1
  have LL := hid (fun w' (o : Only [] w1 w') => left_any w' (hN.only0 o))
  have AB := hid (fun w' (o : Only [] w1 w') => above_any w' (hN.only0 o))
  have e1 : leftO 0 2 (qpsM 3) = some (qpM 2) := rfl
  have e2 : aboveO 0 2 (qpsM 3) = some (qpM 1) := rfl
  rw [e1] at LL
  rw [e2] at AB
  have F1 := hid (fun rv vv bv w' => finds_any (some (qpM 2)) 3 (by simp) (by intro x h; cases h; exact ⟨rfl, by decide⟩) rv vv bv w')
  have F2 := hid (fun rv vv bv w' => finds_any (some (qpM 1)) 2 (by simp) (by intro x h; cases h; exact ⟨rfl, by decide⟩) rv vv bv w')
  clear hN o1 e1 e2
  go_wp2_with fail
  refine (LL.out _ (Only.refl [] _)).mono ?_
  rintro e v1 ⟨rv, vv, bv, rfl, ow⟩
  obtain ⟨a1, b1, c1, rfl, rfl, rfl⟩ := ow.at.sl
  have bz := blk_m0 v1
  have OV1 := hid ((Only.refl [] w1).trans ow.only)
  have MV1 := hid ow.at
  have PV1 := hid ow.only
  obtain ⟨q1, hq⟩ : ∃ q, q = v1.heap.size := ⟨_, rfl⟩
  have one := hid (one_mC (ansM (some (qpM 2))) (rv := a1.sl) (vv := b1.sl) (bv := c1.sl) rfl rfl rfl)
  clear ow
  unfold mV
  go_upto_region 5 with (refine store_blk rfl 40 (.tmp 2) (.tmp 12) rfl v1.heap.size 0 _ _ (mC (ansM (some (qpM 2))) a1.sl b1.sl c1.sl) rfl rfl (info_mb' _ _ _ _) bz (by simp [mC]) one.out ?_; intro u1 hB2 hO2)
  rw [setsA_full (by simp [mC])] at hB2
  rw [← hq] at hB2 hO2 ⊢
  have W1 := hid (show Only [] v1 u1 from ((Only.refl [] v1).alloc _).trans2 hO2 (fun g hg => .inr (by simp at hg; omega)))
  have O1 := hid (OV1.out.trans W1.out)
  have P1 := hid (PV1.out.trans W1.out)
  have B1 := hid (fun w' (o : Only [] u1 w') => (hB2.only o (by simp)).mb)
  have M1 := hid (fun w' (o : Only [] u1 w') => MV1.out.only0 (W1.out.trans o))
  clear hq hB2 hO2 bz one MV1
  go_wp2_with fail
  refine (AB.out u1 O1.out).mono ?_
  rintro e v2 ⟨rv, vv, bv, rfl, ow⟩
  obtain ⟨a2, b2, c2, rfl, rfl, rfl⟩ := ow.at.sl
  have bz := blk_m0 v2
  have OV2 := hid ((O1.out).trans ow.only)
  have MV2 := hid ow.at
  have PV2 := hid ow.only
  obtain ⟨q2, hq⟩ : ∃ q, q = v2.heap.size := ⟨_, rfl⟩
  have one := hid (one_mC (ansM (some (qpM 1))) (rv := a2.sl) (vv := b2.sl) (bv := c2.sl) rfl rfl rfl)
  clear ow
  unfold mV
  go_upto_region 6 with (refine store_blk rfl 40 (.tmp 4) (.tmp 17) rfl v2.heap.size 0 _ _ (mC (ansM (some (qpM 1))) a2.sl b2.sl c2.sl) rfl rfl (info_mb' _ _ _ _) bz (by simp [mC]) one.out ?_; intro u2 hB2 hO2)
  rw [setsA_full (by simp [mC])] at hB2
  rw [← hq] at hB2 hO2 ⊢
  have W2 := hid (show Only [] v2 u2 from ((Only.refl [] v2).alloc _).trans2 hO2 (fun g hg => .inr (by simp at hg; omega)))
  have O2 := hid (OV2.out.trans W2.out)
  have P2 := hid (PV2.out.trans W2.out)
  have B2 := hid (fun w' (o : Only [] u2 w') => (hB2.only o (by simp)).mb)
  have M2 := hid (fun w' (o : Only [] u2 w') => MV2.out.only0 (W2.out.trans o))
  clear hq hB2 hO2 bz one MV2
  go_wp2_with (refine load_atA rfl 40 (.tmp 2) rfl ⟨q1, 0, none⟩ (mC (ansM (some (qpM 2))) a1.sl b1.sl c1.sl) rfl (B1.out _ P2.out) ?_; simp only [Act.put, List.setIfInBounds_toArray, List.set_cons_zero, List.set_cons_succ])
  refine (F1.out _ _ _ _).mono ?_
  rintro e w5 ⟨rfl, o5⟩
  have L5 := hid (B2.out _ o5)
  have O5 := hid (O2.out.trans o5)
  clear o5
  go_wp2_with (refine load_atG (by kernel_rfl) 40 (.tmp 4) rfl ⟨q2, 0, none⟩ (mC (ansM (some (qpM 1))) a2.sl b2.sl c2.sl) rfl L5.out ?_; simp only [Act.put, List.setIfInBounds_toArray, List.set_cons_zero, List.set_cons_succ])
  refine (F2.out _ _ _ _).mono ?_
  rintro e w6 ⟨rfl, o6⟩
  have O6 := hid (O5.out.trans o6)
  clear o6
  go_wp2_with fail
  go_ret
  exact ⟨rfl, OO.out.trans O6.out⟩
end Go.Proofs.Ytfmfknjjhemnoaa

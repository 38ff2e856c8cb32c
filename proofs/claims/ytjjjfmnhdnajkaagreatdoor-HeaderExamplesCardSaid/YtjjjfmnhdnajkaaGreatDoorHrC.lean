/- The reference's Read. -/
import Derived.Test.YtjjjfmnhdnajkaaGreatDoorHrB
import Derived.Test.YtjjjfmnhdnajkaaGreatDoorMg22
import Derived.Test.YtjjjfmnhdnajkaaGreatDoorReG
import Derived.Test.YtjjjfmnhdnajkaaGreatDoorMg7
import Derived.Test.YtjjjfmnhdnajkaaGreatDoorMg12
import Derived.Test.YtjjjfmnhdnajkaaGreatDoorHdB
import Derived.Deep.RegionLaw
namespace Go.Proofs.YtjjjfmnhdnajkaaGreatDoor
open Go.RowKit
set_option linter.unusedVariables false
set_option linter.unusedSimpArgs false

theorem ueS_bd (s : ByteArray) (E : Int) (q : Nat) : 0 ≤ (ueS s E q).1 ∧ (ueS s E q).1 ≤ 4294967295 := by
  unfold ueS
  have hlt := rdUk_lt s q 0
  have p32 : (2 : Nat) ^ (32 + 0) = 4294967296 := by decide
  rw [p32] at hlt
  split
  · exact ⟨by simp, by simp⟩
  · dsimp only; omega
theorem seS_bd (s : ByteArray) (E : Int) (q : Nat) : -4294967296 ≤ (seS s E q).1 ∧ (seS s E q).1 ≤ 4294967296 := by
  unfold seS
  have hlt := rdUk_lt s q 0
  have p32 : (2 : Nat) ^ (32 + 0) = 4294967296 := by decide
  rw [p32] at hlt
  split
  · exact ⟨by simp, by simp⟩
  · dsimp only
    unfold seVal
    split <;> omega
theorem okP_qpR {p : PV} (h : okP p = true) : -26 ≤ p.qp ∧ p.qp ≤ 25 := by
  unfold okP at h
  simp only [Bool.and_eq_true] at h
  exact inB_true h.1.1.2
theorem kindOk_eq (k : Int) : kindOk k = (decide (k = 0) || (decide (k = 2) || (decide (k = 5) || decide (k = 7)))) := rfl
set_option maxRecDepth 100000 in
set_option maxHeartbeats 16000000 in
theorem rhread_any {ref : Int} {idr : Bool} {w : World} {b lb : Nat} {s : ByteArray} {pos : Nat} {Ls : List Nat} {ls : List SV} {lp : List PV} (r0 : 0 ≤ ref) (hR : Rd w b s pos) (hS : RStL w lb Ls ls lp) (n1 : ls.length < 1000) (n2 : lp.length < 1000)
    (hf : AllS (fS ls)) (hg : AllP (fP lp)) :
    Calls Tryz.prog 40 #[.pointer (some ⟨b, 0, none⟩), .int .u8 ref, .bool idr, .pointer (some ⟨lb, 0, none⟩)] w (HReadPost w b s (readH s pos ref idr (fS ls) (fP lp))) := by
  have HR := hid hR
  have HS := hid hS
  have IU := hid (fun w => runit_any ref idr r0 w)
  have RH0 : readH s pos ref idr (fS ls) (fP lp) = if ¬ (ref ≤ 3 ∧ (0 < ref ∨ idr = false)) then (2, h0, pos) else if (readT s (readB s pos ref idr (fS ls) (fP lp))).1 ≠ 0 then ((readT s (readB s pos ref idr (fS ls) (fP lp))).1, h0, pos) else readT s (readB s pos ref idr (fS ls) (fP lp)) := rfl
  have hu : (ref ≤ 3 ∧ (0 < ref ∨ idr = false)) ↔ (decide (ref ≤ 3) && (decide (0 < ref) || !idr)) = true := by simp
  obtain ⟨u, hu1⟩ : ∃ u, u = (decide (ref ≤ 3) && (decide (0 < ref) || !idr)) := ⟨_, rfl⟩
  rw [← hu1] at IU hu
  have FG := hid (And.intro hf (And.intro hg (And.intro n1 n2)))
  have LB := hid HR.out.lt
  obtain ⟨w1, hw1⟩ : ∃ w1, w1 = w.alloc (.cells (hC h0 (.slice none 0 0) (.slice none 0 0)).toArray 34) := ⟨_, rfl⟩
  have o1 : Only [] w w1 := hw1 ▸ (Only.refl [] w).alloc _
  have b1 : Blk w1 w.heap.size 34 (hC h0 (.slice none 0 0) (.slice none 0 0)).toArray := hw1 ▸ Blk.new w _ _
  have O1 := hid o1
  have B1 := hid b1
  obtain ⟨R, hR⟩ : ∃ R, R = w.heap.size := ⟨_, rfl⟩
  rw [← hR] at B1
  have RN := hid hR
  have hw2 := hw1
  simp only [hC, h0] at hw2
  clear o1 b1 hw1 hS hf hg n1 n2 hu1
  cases u
  · rw [RH0, if_pos (fun k => by have := hu.1 k; cases this)]
    rw [if_neg (by simp)] at IU
    clear hu RH0
    go_enter Tryz.func40, Tryz.ntmps40
    go_upto_region 1 with (fail)
    rw [← hw2, ← hR]
    clear hw2 hR
    go_wp2_with fail
    refine (IU.out _).mono ?_
    rintro e w3 ⟨rfl, hw3⟩
    rw [hw3]
    clear hw3
    go_wp2_with (refine store_blk rfl 34 _ _ rfl R 0 _ _ (hC h0 (.slice none 0 0) (.slice none 0 0)) rfl rfl (info_hdr' _ _ _) B1.out (by decide) (one_hC _ rfl rfl) ?_; intro w2 hB2 hO2)
    rw [setsA_h] at hB2
    have O2 : Only [b] w w2 := (O1.out.mono (by simp)).trans2 hO2 (fun y hy => by have := RN.out; simp at hy; exact .inr (by omega))
    exact bodyPost_ret (res_ct rfl rfl rfl (lv_hdr hB2)) rfl (hRead_err rfl ((HR.out.only O1.out (by simp)).only hO2 (by have := RN.out; have := LB.out; simp; omega)) O2)
  have UU := hid (hu.2 rfl)
  rw [if_pos rfl] at IU
  clear hu RH0
  have BG := hid (fun v1 v2 v3 E1 E2 E5 q1 q2 q3 h1 h2 h3 => rbegin_of (s := s) (pos := pos) (ref := ref) (idr := idr) (f := fS ls) (g := fP lp) (v1 := v1) (v2 := v2) (v3 := v3) (E1 := E1) (E2 := E2) (E5 := E5) (q1 := q1) (q2 := q2) (q3 := q3) h1 h2 h3)
  have BE := hid (fun E hb hE => rb_err (s := s) (pos := pos) (ref := ref) (idr := idr) (f := fS ls) (g := fP lp) (E := E) UU.out hb hE)
  have BF := hid (fun un e0 E x0 x q0 q hb h => rf_end (s := s) (pos := pos) (ref := ref) (idr := idr) (f := fS ls) (g := fP lp) (un := un) (e0 := e0) (E := E) (x0 := x0) (x := x) (q0 := q0) (q := q) UU.out hb h)
  obtain ⟨rd, hrd⟩ : ∃ r, r = readH s pos ref idr (fS ls) (fP lp) := ⟨_, rfl⟩
  rw [← hrd] at BE BF ⊢
  obtain ⟨rb, hrb⟩ : ∃ r, r = readB s pos ref idr (fS ls) (fP lp) := ⟨_, rfl⟩
  rw [← hrb] at BG BE BF
  clear hrd
  have RB0 := hid hrb
  clear hrb
  go_enter Tryz.func40, Tryz.ntmps40
  go_upto_region 1 with (fail)
  rw [← hw2, ← hR]
  clear hw2 hR
  go_wp2_with fail
  refine (IU.out _).mono ?_
  rintro e w3 ⟨rfl, hw3⟩
  rw [hw3]
  clear hw3
  go_wp2_with fail
  refine (rcopy_any b s pos w1 (HR.out.only O1.out (by simp))).mono ?_
  rintro e w2 ⟨rfl, hR2, hO2⟩
  obtain ⟨c, hc⟩ : ∃ c, c = w1.heap.size := ⟨_, rfl⟩
  rw [← hc] at hR2 ⊢
  have C2 := hid hR2
  have O2 := hid (O1.out.trans hO2)
  have RC := hid (show R < c by rw [hc]; exact B1.out.lt)
  have B2 := hid (B1.out.only hO2 (by simp))
  clear hR2 hO2 hc B1 O1
  go_upto_region 7 with (fail)
  generalize hw3 : w2.alloc _ = w3
  have oA : Only [] w2 w3 := hw3 ▸ (Only.refl [] w2).alloc _
  obtain ⟨D, hD⟩ : ∃ D, D = w2.heap.size := ⟨_, rfl⟩
  have S3 := hid (show Sc w3 D c 0 from by rw [← hw3, hD]; exact ⟨by simp, by simp, by simp⟩)
  have C3 := hid (C2.out.only oA (by simp))
  have B3 := hid (B2.out.only oA (by simp))
  have O3 := hid (O2.out.trans oA)
  have DC := hid (show c < D by rw [hD]; exact C2.out.lt)
  rw [← hD]
  clear hw3 oA hD C2 B2 O2
  have NE := hid (show D ≠ c by have := DC.out; omega)
  obtain ⟨v1, E1, q1, hu1⟩ : ∃ v e q, ueS s 0 pos = (v, e, q) := ⟨_, _, _, rfl⟩
  have U1 := hid (sue_any D c s pos 0 w3 S3.out C3.out NE.out)
  rw [hu1] at U1
  have X1 := hid hu1
  have V1 := hid (show 0 ≤ v1 from by have := (ueS_bd s 0 pos).1; rw [hu1] at this; exact this)
  clear hu1
  go_wp2_with fail
  refine U1.out.mono ?_
  rintro e w4 ⟨rfl, hS4, hC4, hO4⟩
  have S4 := hid hS4
  have C4 := hid hC4
  have B4 := hid (B3.out.only hO4 (by have := RC.out; have := DC.out; simp; omega))
  have O4 := hid (O3.out.trans2 hO4 (fun y hy => .inr (by have := RN.out; have := RC.out; have := DC.out; simp at hy; omega)))
  clear hS4 hC4 hO4 S3 C3 B3 U1
  obtain ⟨X, hX⟩ : ∃ X, X = w4.heap.size := ⟨_, rfl⟩
  have XN := hid (show D < X by rw [hX]; exact S4.out.lt)
  have XH := hid hX
  have R0 := hid (Rd.le (HR.out))
  go_wp2_with (refine store_blk rfl 34 _ _ rfl w4.heap.size 0 _ _ (hC { h0 with fi := v1 } (.slice none 0 0) (.slice none 0 0)) rfl rfl (info_hdr' _ _ _) (Blk.new w4 _ _) (by simp [hC]) (one_hC _ rfl rfl) ?_; intro w5 hB5 hO5; rw [setsA_full (by simp [hC])] at hB5; rw [← hX]; rw [← hX] at hB5 hO5; clear hX)
  have oX : Only [] w4 w5 := ((Only.refl [] w4).alloc _).trans2 hO5 (fun y hy => by simp at hy; exact .inr (by have := XH.out; omega))
  have H5 := hid (show RH w5 D c X w5.heap.size s w5 E1 q1 { h0 with fi := v1 } (.slice none 0 0) (.slice none 0 0) from
    ⟨S4.out.only oX (by simp), C4.out.only oX (by simp), hB5, holdsM_none _, holdsM_none _, (fun _ _ _ e => by cases e), (fun _ _ _ e => by cases e), Only.refl _ _, (C4.out.only oX (by simp)).lt, (S4.out.only oX (by simp)).lt, hB5.lt, NE.out, by have := DC.out; have := XN.out; omega, by have := XN.out; omega, Nat.le_refl _⟩)
  have O5 := hid (O4.out.trans oX)
  have B5 := hid (B4.out.only oX (by simp))
  clear hB5 hO5 oX S4 C4 O4 B4
  obtain ⟨v2, E2, q2, hu2⟩ : ∃ v e q, ueS s E1 q1 = (v, e, q) := ⟨_, _, _, rfl⟩
  have U2 := hid (sue_any D c s q1 E1 w5 H5.out.sc H5.out.rd NE.out)
  rw [hu2] at U2
  have X2 := hid hu2
  have v2b : 0 ≤ v2 ∧ v2 ≤ 4294967295 := by
    have := ueS_bd s E1 q1
    rw [hu2] at this
    exact this
  clear hu2
  refine U2.out.mono ?_
  rintro e w6 ⟨rfl, k1, k2, k3⟩
  have H6 := hid (H5.out.scan k1 k2 k3)
  clear k1 k2 k3 U2 H5
  go_upto_region 9 with (fail)
  go_cut [] from 40 to 55 (fun wx => RH w5 D c X w5.heap.size s wx (kindS E2 (kindOk v2)) q2 { h0 with fi := v1 } (.slice none 0 0) (.slice none 0 0))
  case first =>
    have KS := hid (fun (k : Bool) => skind_any D c E2 k w6 H6.out.sc)
    have HN := hid (fun (k : Bool) (hk : kindOk v2 = k) w' (h : Sc w' D c (kindS E2 k)) (o : Only [D] w6 w') => show RH w5 D c X w5.heap.size s w' (kindS E2 (kindOk v2)) q2 { h0 with fi := v1 } (.slice none 0 0) (.slice none 0 0) from hk ▸ H6.out.note h o)
    have hk : (v2 = 0 ∨ v2 = 2 ∨ v2 = 5 ∨ v2 = 7) ∨ (¬ v2 = 0 ∧ ¬ v2 = 2 ∧ ¬ v2 = 5 ∧ ¬ v2 = 7) := by omega
    clear v2b X2
    rcases hk with (rfl | rfl | rfl | rfl) | ⟨n0, n2, n5, n7⟩
    · go_wp2_with fail
      refine (KS.out true).mono ?_
      rintro e w7 ⟨⟨z, rfl⟩, hS, hO⟩
      go_wp2_with fail
      go_meet
      exact HN.out true rfl _ hS hO
    · go_wp2_with fail
      refine (KS.out true).mono ?_
      rintro e w7 ⟨⟨z, rfl⟩, hS, hO⟩
      go_wp2_with fail
      go_meet
      exact HN.out true rfl _ hS hO
    · go_wp2_with fail
      refine (KS.out true).mono ?_
      rintro e w7 ⟨⟨z, rfl⟩, hS, hO⟩
      go_wp2_with fail
      go_meet
      exact HN.out true rfl _ hS hO
    · go_wp2_with fail
      refine (KS.out true).mono ?_
      rintro e w7 ⟨⟨z, rfl⟩, hS, hO⟩
      go_wp2_with fail
      go_meet
      exact HN.out true rfl _ hS hO
    · have f0 : (v2 == 0) = false := beq_eq_false_iff_ne.2 n0
      have f2 : (v2 == 2) = false := beq_eq_false_iff_ne.2 n2
      have f5 : (v2 == 5) = false := beq_eq_false_iff_ne.2 n5
      have f7 : (v2 == 7) = false := beq_eq_false_iff_ne.2 n7
      have hf := hid (show kindOk v2 = false by rw [kindOk_eq, decide_eq_false n0, decide_eq_false n2, decide_eq_false n5, decide_eq_false n7]; rfl)
      clear n0 n2 n5 n7
      go_wp2_with fail
      refine (KS.out false).mono ?_
      rintro e w7 ⟨⟨z, rfl⟩, hS, hO⟩
      go_wp2_with fail
      go_meet
      exact HN.out false hf.out _ hS hO
  case rest =>
  have H7 := hid hcut
  clear hcut H6
  obtain ⟨E3, hE3⟩ : ∃ E, E = kindS E2 (kindOk v2) := ⟨_, rfl⟩
  rw [← hE3] at H7
  have K3 := hid hE3
  clear hE3
  obtain ⟨i0, hi0⟩ : ∃ i, i = decide (v2 % 5 = 2) := ⟨_, rfl⟩
  obtain ⟨wh, hwh⟩ : ∃ i, i = decide (5 ≤ v2) := ⟨_, rfl⟩
  have I0 := hid hi0
  have WH := hid hwh
  have g1 : (v2 % 5 == 2) = i0 := by rw [hi0]; rfl
  have g2 : decide (v2 % 5 = 2) = i0 := hi0.symm
  have g3 : decide (5 ≤ v2) = wh := hwh.symm
  have v20 := v2b.1
  have v21 := v2b.2
  clear hi0 hwh v2b
  have x1 := H7.out.bx.cell (i := 1) (v := .bool false) rfl
  have x2 := H7.out.bx.cell (i := 2) (v := .bool false) rfl
  have y1 := H7.out.bx.frozen 1
  have y2 := H7.out.bx.frozen 2
  go_upto_region 11 with (fail)
  have H8 := hid ((H7.out.set 2 (.bool wh) (x' := { h0 with fi := v1, whole := wh }) rfl rfl rfl).set 1 (.bool i0) (x' := { h0 with fi := v1, intra := i0, whole := wh }) rfl rfl rfl)
  obtain ⟨w8, hw8⟩ : ∃ w8, w8 = (wc.setCell ⟨X, 2, none⟩ (.bool wh)).setCell ⟨X, 1, none⟩ (.bool i0) := ⟨_, rfl⟩
  rw [← hw8] at H8 ⊢
  clear hw8 x1 x2 y1 y2 g1 g2 g3 H7 v20 v21
  go_cut [] from 63 to 70 (fun wx => RH w5 D c X w5.heap.size s wx (kindS E3 (!idr || i0)) q2 { h0 with fi := v1, intra := i0, whole := wh } (.slice none 0 0) (.slice none 0 0))
  case first =>
    have KS := hid (fun (k : Bool) => skind_any D c E3 k w8 H8.out.sc)
    have x1 := H8.out.bx.cell (i := 1) (v := .bool i0) rfl
    cases idr
    · go_wp2_with fail
      refine (KS.out true).mono ?_
      rintro e w9 ⟨⟨z, rfl⟩, hS, hO⟩
      go_wp2_with fail
      go_meet
      exact H8.out.note hS hO
    · go_wp2_with fail
      refine (KS.out i0).mono ?_
      rintro e w9 ⟨⟨z, rfl⟩, hS, hO⟩
      go_wp2_with fail
      go_meet
      exact H8.out.note hS hO
  case rest =>
  have H9 := hid hcut
  clear hcut H8
  obtain ⟨v3, E5, q3, hu3⟩ : ∃ v e q, ueS s (kindS E3 (!idr || i0)) q2 = (v, e, q) := ⟨_, _, _, rfl⟩
  have U3 := hid (sue_any D c s q2 (kindS E3 (!idr || i0)) _ H9.out.sc H9.out.rd NE.out)
  rw [hu3] at U3
  have bg := BG.out v1 v2 v3 E1 E2 E5 q1 q2 q3 X1.out X2.out (by rw [← K3.out, ← I0.out]; exact hu3)
  have BH := hid bg
  clear hu3 bg BG X1 X2 K3
  go_wp2_with fail
  refine U3.out.mono ?_
  rintro e w10 ⟨rfl, k1, k2, k3⟩
  have H10 := hid (H9.out.scan k1 k2 k3)
  have x3 := H10.out.bx.cell (i := 3) (v := .int .i64 0) rfl
  have y3 := H10.out.bx.frozen 3
  clear k1 k2 k3 U3 H9
  go_upto_region 13 with (fail)
  have H11 := hid (H10.out.set 3 (.int .i64 v3) (x' := { h0 with fi := v1, intra := i0, whole := wh, pps := v3 }) rfl rfl rfl)
  obtain ⟨w11, hw11⟩ : ∃ w11, w11 = w10.setCell ⟨X, 3, none⟩ (.int .i64 v3) := ⟨_, rfl⟩
  rw [← hw11] at H11 ⊢
  clear hw11 x3 y3 H10
  obtain ⟨x0, hx0⟩ : ∃ x0 : HV, x0 = { h0 with fi := v1, intra := i0, whole := wh, pps := v3 } := ⟨_, rfl⟩
  rw [← hx0] at H11
  have X0 := hid hx0
  have O11 := hid (O5.out.trans2 H11.out.only (fun y hy => .inr (by have := RN.out; have := RC.out; have := DC.out; have := XN.out; simp at hy; omega)))
  have B11 := hid (B5.out.only H11.out.only (by have := RC.out; have := DC.out; have := XN.out; simp; omega))
  clear hx0 O5 B5
  have e5 := H11.out.sc.e
  by_cases z5 : ¬ E5 = 0
  · have Z5 := hid z5
    have z5' : (E5 != 0) = true := bne_iff_ne.2 z5
    have rdE := BE.out E5 (BH.out.1 z5) z5
    have RDE := hid rdE
    clear z5 rdE BE BF BH I0 WH
    go_upto_region 14 with (fail)
    have BR := hid (fun w' (h : ∃ n, w' = w11.drewN n) => show Blk w' R 34 (hC h0 (.slice none 0 0) (.slice none 0 0)).toArray from by obtain ⟨n, rfl⟩ := h; exact B11.out)
    have P12 := hid (fun n => hRead_err (w := w) (w' := w11.drewN n) (b := b) (s := s) (e1 := E5) (pos := pos) (e := .returned (.tuple #[hV h0 (.slice none 0 0) (.slice none 0 0), .int .i64 E5])) rfl ((HR.out.only O11.out (by simp)).drewN n) ((O11.out.mono (by simp)).drewN n))
    clear HR O11 H11 X0
    refine wp_region_quiet_lit (by kernel_rfl) (by kernel_rfl) ?_
    repeat (first | (go_big_quiet_step (fail)) | (go_big_quiet_want; refine quiet_store_same 34 _ _ rfl R _ (hC h0 (.slice none 0 0) (.slice none 0 0)) rfl rfl (info_hdr' _ _ _) BR.out (one_hC _ rfl rfl) rfl ?_; go_big_quiet_on))
    refine wpQuiet_nil ?_
    rintro _ ⟨n, rfl⟩
    go_wp2_with fail
    exact bodyPost_ret (v := .tuple #[hV h0 (.slice none 0 0) (.slice none 0 0), .int .i64 E5]) (res_ct rfl rfl rfl (lv_hdr B11.out)) rfl (by rw [RDE.out]; exact P12.out n)
  obtain rfl : E5 = 0 := Classical.not_not.1 z5
  clear z5
  obtain ⟨p, s', e4, hg4⟩ : ∃ p s' e, getR (fS ls) (fP lp) v3 = (p, s', e) := ⟨_, _, _, rfl⟩
  have GT := hid (fun w (h : RStL w lb Ls ls lp) => rget_any h v3 hg4 FG.out.2.2.1 FG.out.2.2.2)
  have BH2 := hid (BH.out.2 rfl)
  rw [hg4] at BH2
  have G4 := hid hg4
  clear hg4 BH
  have x3 := H11.out.bx.cell (i := 3) (v := .int .i64 v3) (by rw [X0.out]; rfl)
  go_wp2_with fail
  refine (GT.out w11 (HS.out.only O11.out (by simp))).mono ?_
  rintro e w12 ⟨rfl, hO12⟩
  have H12 := hid (H11.out.up hO12)
  have O12 := hid (O11.out.trans hO12)
  have B12 := hid (B11.out.only hO12 (by simp))
  clear hO12 H11 O11 B11 x3 e5 GT
  have BSx : ∀ (oP : Obj) w', Only [w12.heap.size] ((w12.alloc oP).alloc (.cells (sL s0).toArray 27)) w' → Blk w' (w12.heap.size + 1) 27 (sL s0).toArray := fun oP w' o => by
    have := Blk.new (w12.alloc oP) 27 (sL s0).toArray
    rw [World.size_alloc] at this
    exact this.only o (by simp)
  have BSX := hid BSx
  clear BSx
  have OPS := hid (fun (oP oS : Obj) (w13 w14 : World) (h1 : Only [w12.heap.size] ((w12.alloc oP).alloc oS) w13) (h2 : Only [w12.heap.size + 1] w13 w14) => show Only [] w12 w14 from
    ((((Only.refl [] w12).alloc oP).alloc oS).trans2 h1 (fun y hy => by simp at hy; exact .inr (by omega))).trans2 h2 (fun y hy => by simp at hy; exact .inr (by omega)))
  by_cases z4 : ¬ e4 = 0
  · have z4' : (e4 != 0) = true := bne_iff_ne.2 z4
    have rdE := BE.out e4 (BH2.out.1 z4) z4
    have RDE := hid rdE
    clear z4 rdE BE BF BH2 I0 WH X0 H12
    go_wp2_with (first
      | (refine store_blk rfl 24 _ _ rfl w12.heap.size 0 _ _ (pL p) rfl rfl info_pps ((Blk.new w12 _ _).only ((Only.refl [] _).alloc _) (by simp)) (by simp [pL]) (one_pL p) ?_; intro w13 hB13 hO13; rw [setsA_full (by simp [pL])] at hB13; have hS13 := BSX.out _ _ hO13)
      | (refine store_blk rfl 27 _ _ rfl (w12.heap.size + 1) 0 _ _ (sL s') rfl rfl info_sps hS13 (by simp [sL]) (one_sL s') ?_; intro w14 hB14 hO14; rw [setsA_full (by simp [sL])] at hB14)
      | (refine store_blk rfl 34 _ _ rfl R 0 _ _ (hC h0 (.slice none 0 0) (.slice none 0 0)) rfl rfl (info_hdr' _ _ _) (B12.out.only (OPS.out _ _ _ _ hO13 hO14) (by simp)) (by decide) (one_hC _ rfl rfl) ?_; intro w15 hB15 hO15; rw [setsA_h] at hB15))
    refine bodyPost_ret (v := .tuple #[hV h0 (.slice none 0 0) (.slice none 0 0), .int .i64 e4]) (res_ct rfl rfl rfl (lv_hdr hB15)) rfl (by rw [RDE.out]; exact hRead_err rfl ((HR.out.only (O12.out.trans (OPS.out _ _ _ _ hO13 hO14)) (by simp)).only hO15 (by have := RN.out; have := LB.out; simp; omega)) (((O12.out.trans (OPS.out _ _ _ _ hO13 hO14)).mono (by simp)).trans2 hO15 (fun y hy => by have := RN.out; simp at hy; exact .inr (by omega))))
  obtain rfl : e4 = 0 := Classical.not_not.1 z4
  have b4 := BH2.out.2 rfl
  obtain ⟨okp, oks, pid, psid⟩ := getR_ok FG.out.1 FG.out.2.1 G4.out
  have OK := hid (And.intro oks okp)
  have sz := okS_size oks
  have qb := okP_qpR okp
  obtain ⟨un, hun⟩ : ∃ un : UN, un = ⟨ref, idr, p, s'⟩ := ⟨_, rfl⟩
  obtain ⟨e0, he0⟩ : ∃ e, e = numC (firstC un) v1 := ⟨_, rfl⟩
  have RB := hid (show rb = (e0, un, x0, q3) by rw [b4, he0, hun, X0.out, I0.out, WH.out])
  have UN0 := hid hun
  have E00 := hid he0
  have SZ := hid sz
  have QB := hid qb
  have RF := hid (show RfOk s un e0 x0 q3 0 e0 x0 q3 from rf_start (by rw [X0.out]; rfl))
  have X0I := hid (show x0.intra = i0 by rw [X0.out])
  have X0F := hid (show x0.fi = v1 by rw [X0.out])
  obtain ⟨P, hP⟩ : ∃ P, P = s'.wd * s'.ht := ⟨_, rfl⟩
  have g1 : IntKind.i64.wrap (s'.wd * s'.ht) = P := by rw [hP]; exact IntWalk.i64_in _ ⟨by omega, by omega⟩
  have PP := hid hP
  clear z4 b4 okp oks pid psid sz qb hun he0 BE BH2 hP
  go_upto_region 18 with (first
    | (refine store_blk rfl 24 _ _ rfl w12.heap.size 0 _ _ (pL p) rfl rfl info_pps ((Blk.new w12 _ _).only ((Only.refl [] _).alloc _) (by simp)) (by simp [pL]) (one_pL p) ?_; intro w13 hB13 hO13; rw [setsA_full (by simp [pL])] at hB13; have hS13 := BSX.out _ _ hO13)
    | (refine store_blk rfl 27 _ _ rfl (w12.heap.size + 1) 0 _ _ (sL s') rfl rfl info_sps hS13 (by simp [sL]) (one_sL s') ?_; intro w14 hB14 hO14; rw [setsA_full (by simp [sL])] at hB14))
  have o14 := OPS.out _ _ _ _ hO13 hO14
  have hB13' := hB13.only hO14 (by simp)
  have H := hid (H12.out.up o14)
  have O14 := hid (O12.out.trans o14)
  have B14 := hid (B12.out.only o14 (by simp))
  obtain ⟨Pb, hPb⟩ : ∃ P, P = w12.heap.size := ⟨_, rfl⟩
  rw [← hPb] at hB13' hB14 ⊢
  have lt := H12.out.lt
  rw [← hPb] at lt
  have BP := hid (fun w' (o : Only [c, D, X] w14 w') => hB13'.only o (by simp; omega))
  have BS := hid (fun w' (o : Only [c, D, X] w14 w') => hB14.only o (by simp; omega))
  clear hB13 hB13' hB14 hS13 hO13 hO14 o14 hPb lt OPS BSX H12 O12 B12
  have US := hid (show un.s = s' by rw [UN0.out])
  have UP := hid (show un.p = p by rw [UN0.out])
  have UI := hid (show un.idr = idr by rw [UN0.out])
  have UR := hid (show un.ref = ref by rw [UN0.out])
  have OKU := hid (show okS un.s = true ∧ okP un.p = true by rw [US.out, UP.out]; exact OK.out)
  have cx := H.out.bx.cell (i := 0) (v := .int .i64 v1) (by rw [← X0F.out]; rfl)
  have s7 := (BS.out _ H.out.only).cell (i := 7) (v := .int .i64 s'.wd) rfl
  have s8 := (BS.out _ H.out.only).cell (i := 8) (v := .int .i64 s'.ht) rfl
  go_wp2_with fail
  refine (srange_any D c 0 (decide (v1 < P)) w14 H.out.sc).mono ?_
  rintro e w' ⟨⟨z, rfl⟩, k1, k2⟩
  have e18 : rangeS 0 (decide (v1 < P)) = e0 := by
    rw [E00.out, PP.out]
    unfold firstC numC rangeS Cd.lo Cd.hi
    rw [US.out]
    have := X0F.out
    by_cases h : v1 < s'.wd * s'.ht
    · rw [decide_eq_true h, if_neg (by simp), if_neg (by have := V1.out; simp; omega)]
    · rw [decide_eq_false h, if_pos ⟨rfl, rfl⟩, if_pos (by simp; omega)]
  rw [e18] at k1
  have H' := hid (H.out.note k1 k2)
  clear k1 k2 e18 cx s7 s8 H
  have H := H'
  have F := RF
  have I := X0I
  clear H' RF
  have G : RG w14 D c X w5.heap.size s un e0 x0 q3 i0 0 _ := ⟨_, _, _, _, _, H.out, F.out, I.out⟩
  clear H F I
  obtain ⟨E, q, x, mv, kv, H0, F0, I0⟩ := G
  have H := hid H0
  have F := hid F0
  have I := hid I0
  clear H0 F0 I0
  have s4 := (BS.out _ H.out.only).cell (i := 4) (v := .int .i64 s'.fb) rfl
  have U := hid (su_any D c s q E s'.fb (US.out ▸ (unOk_cd OKU.out.1 OKU.out.2).1.1) (US.out ▸ (unOk_cd OKU.out.1 OKU.out.2).1.2) _ H.out.sc H.out.rd NE.out)
  have F' := rf_frame OKU.out.1 OKU.out.2 F.out
  rw [US.out] at F'
  obtain ⟨v, E', q', hu⟩ : ∃ v_ e_ q_, uS s E q s'.fb = (v_, e_, q_) := ⟨_, _, _, rfl⟩
  rw [hu] at U F'
  dsimp only at F'
  clear hu
  have F2 := hid F'
  clear F' F
  go_wp2_with fail
  refine U.out.mono ?_
  rintro e w' ⟨rfl, k1, k2, k3⟩
  have H' := hid (H.out.scan k1 k2 k3)
  clear k1 k2 k3 U H
  have cx := H'.out.bx.cell (i := 4) (v := .int .i64 x.fr) rfl
  have cy := H'.out.bx.frozen 4
  go_upto_if 111 with (fail)
  have H := hid (H'.out.set 4 (.int .i64 v) (x' := { x with fr := v }) rfl rfl rfl)
  clear s4
  obtain ⟨w'', hw''⟩ : ∃ w'', w'' = World.setCell w' ⟨X, 4, none⟩ (.int .i64 v) := ⟨_, rfl⟩
  rw [← hw''] at H ⊢
  clear hw''
  have G := (show RG w14 D c X w5.heap.size s un e0 x0 q3 i0 1 _ from ⟨_, _, _, _, _, H.out, F2.out, I.out⟩)
  clear H F2 H' cx cy I
  obtain ⟨E, q, x, mv, kv, H0, F0, I0⟩ := G
  have H := hid H0
  have F := hid F0
  have I := hid I0
  clear H0 F0 I0
  go_cut [] from 112 to 114 (fun wx => RG w14 D c X w5.heap.size s un e0 x0 q3 i0 2 wx)
  case first =>
    cases idr
    · go_wp2_with fail
      go_meet
      exact ⟨_, _, _, _, _, H.out, rf_noidr UI.out F.out, I.out⟩
    · have U := hid (srng_any D c s q E 65535 _ H.out.sc H.out.rd NE.out)
      have F' := rf_idr UI.out F.out
      obtain ⟨v, E', q', hu⟩ : ∃ v_ e_ q_, rngS s E q 65535 = (v_, e_, q_) := ⟨_, _, _, rfl⟩
      rw [hu] at U F'
      dsimp only at F'
      clear hu
      have F2 := hid F'
      clear F' F
      go_wp2_with fail
      refine U.out.mono ?_
      rintro e w' ⟨rfl, k1, k2, k3⟩
      have H' := hid (H.out.scan k1 k2 k3)
      clear k1 k2 k3 U H
      have cx := H'.out.bx.cell (i := 5) (v := .int .i64 x.idr) rfl
      have cy := H'.out.bx.frozen 5
      go_wp2_with fail
      have H := hid (H'.out.set 5 (.int .i64 v) (x' := { x with idr := v }) rfl rfl rfl)
      go_meet
      exact ⟨_, _, _, _, _, H.out, F2.out, I.out⟩
  case rest =>
  obtain ⟨E, q, x, mv, kv, H0, F0, I0⟩ := hcut
  have H := hid H0
  have F := hid F0
  have I := hid I0
  clear H0 F0 I0
  have s5 := (BS.out _ H.out.only).cell (i := 5) (v := .int .i64 s'.pb) rfl
  have U := hid (su_any D c s q E s'.pb (US.out ▸ (unOk_cd OKU.out.1 OKU.out.2).2.1.1) (US.out ▸ (unOk_cd OKU.out.1 OKU.out.2).2.1.2) _ H.out.sc H.out.rd NE.out)
  have F' := rf_poc OKU.out.1 OKU.out.2 F.out
  rw [US.out] at F'
  obtain ⟨v, E', q', hu⟩ : ∃ v_ e_ q_, uS s E q s'.pb = (v_, e_, q_) := ⟨_, _, _, rfl⟩
  rw [hu] at U F'
  dsimp only at F'
  clear hu
  have F2 := hid F'
  clear F' F
  go_wp2_with fail
  refine U.out.mono ?_
  rintro e w' ⟨rfl, k1, k2, k3⟩
  have H' := hid (H.out.scan k1 k2 k3)
  clear k1 k2 k3 U H
  have cx := H'.out.bx.cell (i := 6) (v := .int .i64 x.poc) rfl
  have cy := H'.out.bx.frozen 6
  go_upto_region 23 with (fail)
  have H := hid (H'.out.set 6 (.int .i64 v) (x' := { x with poc := v }) rfl rfl rfl)
  clear s5
  obtain ⟨w'', hw''⟩ : ∃ w'', w'' = World.setCell w' ⟨X, 6, none⟩ (.int .i64 v) := ⟨_, rfl⟩
  rw [← hw''] at H ⊢
  clear hw''
  have G := (show RG w14 D c X w5.heap.size s un e0 x0 q3 i0 3 _ from ⟨_, _, _, _, _, H.out, F2.out, I.out⟩)
  clear H F2 H' cx cy I
  obtain ⟨E, q, x, mv, kv, H0, F0, I0⟩ := G
  have H := hid H0
  have F := hid F0
  have I := hid I0
  clear H0 F0 I0
  have x1 := H.out.bx.cell (i := 1) (v := .bool i0) (by rw [← I.out]; rfl)
  go_upto_if 122 with (fail)
  go_cut [] from 123 to 141 (fun wx => RG w14 D c X w5.heap.size s un e0 x0 q3 i0 7 wx)
  case first =>
    cases i0
    · skip
      have U := hid (su_any D c s q E 1 (by omega) (by omega) _ H.out.sc H.out.rd NE.out)
      have F' := rf_over I.out F.out
      obtain ⟨v, E', q', hu⟩ : ∃ v_ e_ q_, uS s E q 1 = (v_, e_, q_) := ⟨_, _, _, rfl⟩
      rw [hu] at U F'
      dsimp only at F'
      clear hu
      have F2 := hid F'
      clear F' F
      go_wp2_with fail
      refine U.out.mono ?_
      rintro e w' ⟨rfl, k1, k2, k3⟩
      have H' := hid (H.out.scan k1 k2 k3)
      clear k1 k2 k3 U H
      obtain ⟨o, ho⟩ : ∃ o, o = isOne v := ⟨_, rfl⟩
      have h1 : decide (v = 1) = o := ho.symm
      have h2 : (v == 1) = o := ho.symm
      rw [← ho] at F2
      clear ho
      have cx := H'.out.bx.cell (i := 7) (v := .bool x.over) rfl
      have cy := H'.out.bx.frozen 7
      go_upto_region 25 with (fail)
      have H := hid (H'.out.set 7 (.bool o) (x' := { x with over := o }) rfl rfl rfl)
      clear h1 h2
      obtain ⟨w'', hw''⟩ : ∃ w'', w'' = World.setCell w' ⟨X, 7, none⟩ (.bool o) := ⟨_, rfl⟩
      rw [← hw''] at H ⊢
      clear hw''
      have G := (show RG w14 D c X w5.heap.size s un e0 x0 q3 false 4 _ from ⟨_, _, _, _, _, H.out, F2.out, I.out⟩)
      clear H F2 H' cx cy I
      obtain ⟨E, q, x, mv, kv, H0, F0, I0⟩ := G
      have H := hid H0
      have F := hid F0
      have I := hid I0
      clear H0 F0 I0
      obtain ⟨t, ht⟩ : ∃ t, t = x.over := ⟨_, rfl⟩
      have T := hid ht.symm
      have cx := H.out.bx.cell (i := 7) (v := .bool t) (by rw [ht]; rfl)
      clear ht
      go_upto_if 128 with (fail)
      go_cut [] from 129 to 132 (fun wx => RG w14 D c X w5.heap.size s un e0 x0 q3 false 5 wx)
      case first =>
        cases t
        · skip
          go_wp2_with fail
          go_meet
          exact ⟨_, _, _, _, _, H.out, rf_norefs T.out F.out, I.out⟩
        · skip
          have U := hid (srng_any D c s q E 31 _ H.out.sc H.out.rd NE.out)
          have F' := rf_refs T.out F.out
          obtain ⟨v, E', q', hu⟩ : ∃ v_ e_ q_, rngS s E q 31 = (v_, e_, q_) := ⟨_, _, _, rfl⟩
          rw [hu] at U F'
          dsimp only at F'
          have g1 : IntKind.i64.wrap (1 + v) = 1 + v := by
            have vb := ueS_bd s E q
            have e : (ueS s E q).1 = v := congrArg Prod.fst hu
            rw [e] at vb
            exact IntWalk.i64_in _ ⟨by omega, by omega⟩
          clear hu
          have F2 := hid F'
          clear F' F
          go_wp2_with fail
          refine U.out.mono ?_
          rintro e w' ⟨rfl, k1, k2, k3⟩
          have H' := hid (H.out.scan k1 k2 k3)
          clear k1 k2 k3 U H
          have cx := H'.out.bx.cell (i := 8) (v := .int .i64 x.refs) rfl
          have cy := H'.out.bx.frozen 8
          go_wp2_with fail
          have H := hid (H'.out.set 8 (.int .i64 (1 + v)) (x' := { x with refs := 1 + v }) rfl rfl rfl)
          go_meet
          exact ⟨_, _, _, _, _, H.out, F2.out, I.out⟩
      case rest =>
      obtain ⟨E, q, x, mv, kv, H0, F0, I0⟩ := hcut
      have H := hid H0
      have F := hid F0
      have I := hid I0
      clear H0 F0 I0
      have U := hid (su_any D c s q E 1 (by omega) (by omega) _ H.out.sc H.out.rd NE.out)
      have F' := rf_listed I.out F.out
      obtain ⟨v, E', q', hu⟩ : ∃ v_ e_ q_, uS s E q 1 = (v_, e_, q_) := ⟨_, _, _, rfl⟩
      rw [hu] at U F'
      dsimp only at F'
      clear hu
      have F2 := hid F'
      clear F' F
      go_wp2_with fail
      refine U.out.mono ?_
      rintro e w' ⟨rfl, k1, k2, k3⟩
      have H' := hid (H.out.scan k1 k2 k3)
      clear k1 k2 k3 U H
      obtain ⟨o, ho⟩ : ∃ o, o = isOne v := ⟨_, rfl⟩
      have h1 : decide (v = 1) = o := ho.symm
      have h2 : (v == 1) = o := ho.symm
      rw [← ho] at F2
      clear ho
      have cx := H'.out.bx.cell (i := 9) (v := .bool x.listed) rfl
      have cy := H'.out.bx.frozen 9
      go_upto_region 28 with (fail)
      have H := hid (H'.out.set 9 (.bool o) (x' := { x with listed := o }) rfl rfl rfl)
      clear h1 h2
      obtain ⟨w'', hw''⟩ : ∃ w'', w'' = World.setCell w' ⟨X, 9, none⟩ (.bool o) := ⟨_, rfl⟩
      rw [← hw''] at H ⊢
      clear hw''
      have G := (show RG w14 D c X w5.heap.size s un e0 x0 q3 false 6 _ from ⟨_, _, _, _, _, H.out, F2.out, I.out⟩)
      clear H F2 H' cx cy I
      obtain ⟨E, q, x, mv, kv, H0, F0, I0⟩ := G
      have H := hid H0
      have F := hid F0
      have I := hid I0
      clear H0 F0 I0
      obtain ⟨t, ht⟩ : ∃ t, t = x.listed := ⟨_, rfl⟩
      have T := hid ht.symm
      have cx := H.out.bx.cell (i := 9) (v := .bool t) (by rw [ht]; rfl)
      clear ht
      go_upto_if 138 with (fail)
      go_cut [] from 139 to 141 (fun wx => RG w14 D c X w5.heap.size s un e0 x0 q3 false 7 wx)
      case first =>
        cases t
        · skip
          go_wp2_with fail
          go_meet
          exact ⟨_, _, _, _, _, H.out, rf_nomods T.out F.out, I.out⟩
        · skip
          have U := hid (scommands_any D c s q E false _ H.out.sc H.out.rd NE.out)
          have F' := rf_mods T.out F.out
          obtain ⟨l, E', q', hu⟩ : ∃ v_ e_ q_, lstS s false E q = (v_, e_, q_) := ⟨_, _, _, rfl⟩
          rw [hu] at U F'
          dsimp only at F'
          clear hu
          have F2 := hid F'
          clear F' F
          go_wp2_with fail
          refine U.out.mono ?_
          rintro e w' ⟨sv, rfl, k1, k2, k3, k4, k5⟩
          have H' := hid (H.out.scan k1 k2 k3)
          obtain ⟨sa, sc, rfl, _⟩ := id k4
          have K := hid (And.intro k4 (show ∀ ad n d, Value.slice sa l.length sc = .slice (some ad) n d → l ≠ [] → w5.heap.size ≤ ad.block from fun ad n d e hl => Nat.le_trans H.out.lt.2.2.2.2.2.2 (k5 ad n d e hl)))
          clear k1 k2 k3 k4 k5 U H
          have cx := H'.out.bx.cell (i := 10) (v := mv) rfl
          have cy := H'.out.bx.frozen 10
          go_wp2_with fail
          have H := hid (H'.out.setm K.out.1 K.out.2)
          go_meet
          exact ⟨_, _, _, _, _, H.out, F2.out, I.out⟩
      case rest =>
      obtain ⟨E, q, x, mv, kv, H0, F0, I0⟩ := hcut
      have H := hid H0
      have F := hid F0
      have I := hid I0
      clear H0 F0 I0
      go_wp2_with fail
      go_meet
      exact ⟨_, _, _, _, _, H.out, F.out, I.out⟩
    · skip
      go_wp2_with fail
      go_meet
      exact ⟨_, _, _, _, _, H.out, rf_intra I.out F.out, I.out⟩
  case rest =>
  obtain ⟨E, q, x, mv, kv, H0, F0, I0⟩ := hcut
  have H := hid H0
  have F := hid F0
  have I := hid I0
  clear H0 F0 I0
  go_upto_if 142 with (fail)
  go_cut [] from 143 to 161 (fun wx => RG w14 D c X w5.heap.size s un e0 x0 q3 i0 10 wx)
  case first =>
    cases idr
    · skip
      have F2 := hid (rf_noflags UI.out F.out)
      clear F
      have F := F2
      clear F2
      by_cases hr : ref = 0
      · have h1 : (ref != 0) = false := by simp [hr]
        have h2 : decide (ref = 0) = true := by simp [hr]
        have AD := hid (show adH un = false by unfold adH; rw [UI.out, UR.out, hr]; rfl)
        clear hr
        go_wp2_with fail
        go_meet
        exact ⟨_, _, _, _, _, H.out, rf_noad AD.out F.out, I.out⟩
      have h1 : (ref != 0) = true := by simp [hr]
      have h2 : decide (ref = 0) = false := by simp [hr]
      have AD := hid (show adH un = true by unfold adH; rw [UI.out, UR.out]; simp; omega)
      clear hr
      go_upto_region 33 with (fail)
      clear h1 h2
      have U := hid (su_any D c s q E 1 (by omega) (by omega) _ H.out.sc H.out.rd NE.out)
      have F' := rf_ad AD.out F.out
      obtain ⟨v, E', q', hu⟩ : ∃ v_ e_ q_, uS s E q 1 = (v_, e_, q_) := ⟨_, _, _, rfl⟩
      rw [hu] at U F'
      dsimp only at F'
      clear hu
      have F2 := hid F'
      clear F' F
      go_wp2_with fail
      refine U.out.mono ?_
      rintro e w' ⟨rfl, k1, k2, k3⟩
      have H' := hid (H.out.scan k1 k2 k3)
      clear k1 k2 k3 U H
      obtain ⟨o, ho⟩ : ∃ o, o = isOne v := ⟨_, rfl⟩
      have h1 : decide (v = 1) = o := ho.symm
      have h2 : (v == 1) = o := ho.symm
      rw [← ho] at F2
      clear ho
      have cx := H'.out.bx.cell (i := 13) (v := .bool x.ad) rfl
      have cy := H'.out.bx.frozen 13
      go_upto_region 34 with (fail)
      have H := hid (H'.out.set 13 (.bool o) (x' := { x with ad := o }) rfl rfl rfl)
      clear h1 h2
      obtain ⟨w'', hw''⟩ : ∃ w'', w'' = World.setCell w' ⟨X, 13, none⟩ (.bool o) := ⟨_, rfl⟩
      rw [← hw''] at H ⊢
      clear hw''
      have G := (show RG w14 D c X w5.heap.size s un e0 x0 q3 i0 9 _ from ⟨_, _, _, _, _, H.out, F2.out, I.out⟩)
      clear H F2 H' cx cy I
      obtain ⟨E, q, x, mv, kv, H0, F0, I0⟩ := G
      have H := hid H0
      have F := hid F0
      have I := hid I0
      clear H0 F0 I0
      obtain ⟨t, ht⟩ : ∃ t, t = x.ad := ⟨_, rfl⟩
      have T := hid ht.symm
      have cx := H.out.bx.cell (i := 13) (v := .bool t) (by rw [ht]; rfl)
      clear ht
      go_upto_if 158 with (fail)
      go_cut [] from 159 to 161 (fun wx => RG w14 D c X w5.heap.size s un e0 x0 q3 i0 10 wx)
      case first =>
        cases t
        · skip
          go_wp2_with fail
          go_meet
          exact ⟨_, _, _, _, _, H.out, rf_nomarks T.out F.out, I.out⟩
        · skip
          have U := hid (scommands_any D c s q E true _ H.out.sc H.out.rd NE.out)
          have F' := rf_marks T.out F.out
          obtain ⟨l, E', q', hu⟩ : ∃ v_ e_ q_, lstS s true E q = (v_, e_, q_) := ⟨_, _, _, rfl⟩
          rw [hu] at U F'
          dsimp only at F'
          clear hu
          have F2 := hid F'
          clear F' F
          go_wp2_with fail
          refine U.out.mono ?_
          rintro e w' ⟨sv, rfl, k1, k2, k3, k4, k5⟩
          have H' := hid (H.out.scan k1 k2 k3)
          obtain ⟨sa, sc, rfl, _⟩ := id k4
          have K := hid (And.intro k4 (show ∀ ad n d, Value.slice sa l.length sc = .slice (some ad) n d → l ≠ [] → w5.heap.size ≤ ad.block from fun ad n d e hl => Nat.le_trans H.out.lt.2.2.2.2.2.2 (k5 ad n d e hl)))
          clear k1 k2 k3 k4 k5 U H
          have cx := H'.out.bx.cell (i := 14) (v := kv) rfl
          have cy := H'.out.bx.frozen 14
          go_wp2_with fail
          have H := hid (H'.out.setk K.out.1 K.out.2)
          go_meet
          exact ⟨_, _, _, _, _, H.out, F2.out, I.out⟩
      case rest =>
      obtain ⟨E, q, x, mv, kv, H0, F0, I0⟩ := hcut
      have H := hid H0
      have F := hid F0
      have I := hid I0
      clear H0 F0 I0
      go_wp2_with fail
      go_meet
      exact ⟨_, _, _, _, _, H.out, F.out, I.out⟩
    · skip
      obtain ⟨va, Ea, qa, hua⟩ : ∃ v e p, uS s E q 1 = (v, e, p) := ⟨_, _, _, rfl⟩
      have F' := rf_flags UI.out F.out hua
      have U := hid (su_any D c s q E 1 (by omega) (by omega) _ H.out.sc H.out.rd NE.out)
      rw [hua] at U
      obtain ⟨vb, Eb, qb, hub⟩ : ∃ v e p, uS s Ea qa 1 = (v, e, p) := ⟨_, _, _, rfl⟩
      have V := hid (fun w h hr => su_any D c s qa Ea 1 (by omega) (by omega) w h hr NE.out)
      rw [hub] at F' V
      obtain ⟨oa, hoa⟩ : ∃ o, o = isOne va := ⟨_, rfl⟩
      obtain ⟨ob, hob⟩ : ∃ o, o = isOne vb := ⟨_, rfl⟩
      have h1 : decide (va = 1) = oa := hoa.symm
      have h2 : (va == 1) = oa := hoa.symm
      have h3 : decide (vb = 1) = ob := hob.symm
      have h4 : (vb == 1) = ob := hob.symm
      rw [← hoa, ← hob] at F'
      dsimp only at F'
      have F2 := hid F'
      clear F' F hua hub hoa hob
      go_wp2_with fail
      refine U.out.mono ?_
      rintro e w' ⟨rfl, k1, k2, k3⟩
      have H1 := hid (H.out.scan k1 k2 k3)
      clear k1 k2 k3 U H
      go_wp2_with fail
      refine (V.out _ H1.out.sc H1.out.rd).mono ?_
      rintro e w'' ⟨rfl, k1, k2, k3⟩
      have H' := hid (H1.out.scan k1 k2 k3)
      clear k1 k2 k3 V H1
      have cx := H'.out.bx.cell (i := 11) (v := .bool x.f0) rfl
      have cy := H'.out.bx.frozen 11
      have dx := H'.out.bx.cell (i := 12) (v := .bool x.f1) rfl
      have dy := H'.out.bx.frozen 12
      go_wp2_with fail
      have H := hid ((H'.out.set 11 (.bool oa) (x' := { x with f0 := oa }) rfl rfl rfl).set 12 (.bool ob) (x' := { x with f0 := oa, f1 := ob }) rfl rfl rfl)
      go_meet
      exact ⟨_, _, _, _, _, H.out, rf_noad (by unfold adH; rw [UI.out]; rfl) F2.out, I.out⟩
  case rest =>
  obtain ⟨E, q, x, mv, kv, H0, F0, I0⟩ := hcut
  have H := hid H0
  have F := hid F0
  have I := hid I0
  clear H0 F0 I0
  obtain ⟨cab, hcab⟩ : ∃ k, k = p.cab := ⟨_, rfl⟩
  have CAB := hid hcab
  have p2 := (BP.out _ H.out.only).cell (i := 2) (v := .bool cab) (by rw [hcab]; rfl)
  have x1 := H.out.bx.cell (i := 1) (v := .bool i0) (by rw [← I.out]; rfl)
  clear hcab
  go_upto_region 36 with (fail)
  go_cut [168] from 162 to 168 (fun s168 wx => s168 = .bool (cab && !i0) ∧ RG w14 D c X w5.heap.size s un e0 x0 q3 i0 10 wx)
  case first =>
    cases cab
    all_goals
      go_wp2_with fail
      go_meet
      exact ⟨by simp, _, _, _, _, _, H.out, F.out, I.out⟩
  case rest =>
  obtain ⟨rfl, E, q, x, mv, kv, H0, F0, I0⟩ := hcut
  have H := hid H0
  have F := hid F0
  have I := hid I0
  clear H0 F0 I0
  obtain ⟨t, ht⟩ : ∃ t, t = (cab && !i0) := ⟨_, rfl⟩
  rw [← ht]
  have T := hid (show iniH un x = t by unfold iniH; rw [I.out, UP.out, ht, CAB.out]; exact Bool.and_comm _ _)
  clear ht
  go_upto_if 168 with (fail)
  go_cut [] from 169 to 171 (fun wx => RG w14 D c X w5.heap.size s un e0 x0 q3 i0 11 wx)
  case first =>
    cases t
    · skip
      go_wp2_with fail
      go_meet
      exact ⟨_, _, _, _, _, H.out, rf_noini T.out F.out, I.out⟩
    · skip
      have U := hid (srng_any D c s q E 2 _ H.out.sc H.out.rd NE.out)
      have F' := rf_ini T.out F.out
      obtain ⟨v, E', q', hu⟩ : ∃ v_ e_ q_, rngS s E q 2 = (v_, e_, q_) := ⟨_, _, _, rfl⟩
      rw [hu] at U F'
      dsimp only at F'
      clear hu
      have F2 := hid F'
      clear F' F
      go_wp2_with fail
      refine U.out.mono ?_
      rintro e w' ⟨rfl, k1, k2, k3⟩
      have H' := hid (H.out.scan k1 k2 k3)
      clear k1 k2 k3 U H
      have cx := H'.out.bx.cell (i := 15) (v := .int .i64 x.ini) rfl
      have cy := H'.out.bx.frozen 15
      go_wp2_with fail
      have H := hid (H'.out.set 15 (.int .i64 v) (x' := { x with ini := v }) rfl rfl rfl)
      go_meet
      exact ⟨_, _, _, _, _, H.out, F2.out, I.out⟩
  case rest =>
  obtain ⟨E, q, x, mv, kv, H0, F0, I0⟩ := hcut
  have H := hid H0
  have F := hid F0
  have I := hid I0
  clear H0 F0 I0
  have U := hid (sse_any D c s q E _ H.out.sc H.out.rd NE.out)
  have F' := rf_qp F.out
  obtain ⟨v, E', q', hu⟩ : ∃ v_ e_ q_, seS s E q = (v_, e_, q_) := ⟨_, _, _, rfl⟩
  rw [hu] at U F'
  dsimp only at F'
  rw [UP.out] at F'
  have vb : -4294967296 ≤ v ∧ v ≤ 4294967296 := by
    have := seS_bd s E q
    rw [hu] at this
    exact this
  have g1 : IntKind.i64.wrap (26 + p.qp) = 26 + p.qp := IntWalk.i64_in _ ⟨by have := QB.out; omega, by have := QB.out; omega⟩
  have g2 : IntKind.i64.wrap (26 + p.qp + v) = 26 + p.qp + v := IntWalk.i64_in _ ⟨by have := QB.out; omega, by have := QB.out; omega⟩
  obtain ⟨k, hk⟩ : ∃ k, k = inB (26 + p.qp + v) 0 51 := ⟨_, rfl⟩
  have WI := hid (fun w => rwithin10_any (26 + p.qp + v) 0 51 w)
  rw [← hk] at WI F'
  have F2 := hid F'
  clear F' F hu vb hk
  go_wp2_with fail
  refine U.out.mono ?_
  rintro e w' ⟨rfl, k1, k2, k3⟩
  have H' := hid (H.out.scan k1 k2 k3)
  clear k1 k2 k3 U H
  have cx := H'.out.bx.cell (i := 16) (v := .int .i64 x.qp) rfl
  have cy := H'.out.bx.frozen 16
  go_upto_region 39 with (fail)
  have H := hid (H'.out.set 16 (.int .i64 v) (x' := { x with qp := v }) rfl rfl rfl)
  clear cx cy H'
  obtain ⟨w'', hw''⟩ : ∃ w'', w'' = World.setCell w' ⟨X, 16, none⟩ (.int .i64 v) := ⟨_, rfl⟩
  rw [← hw''] at H ⊢
  clear hw''
  have p5 := (BP.out _ H.out.only).cell (i := 5) (v := .int .i64 p.qp) rfl
  have cx := H.out.bx.cell (i := 16) (v := .int .i64 v) rfl
  go_wp2_with fail
  refine (WI.out _).mono ?_
  rintro e w3 ⟨rfl, rfl⟩
  go_wp2_with fail
  refine (srange_any D c E' k _ H.out.sc).mono ?_
  rintro e w4 ⟨⟨z, rfl⟩, k1, k2⟩
  have H' := hid (H.out.note k1 k2)
  clear k1 k2 WI p5 cx H g1 g2
  have G := (show RG w14 D c X w5.heap.size s un e0 x0 q3 i0 12 _ from ⟨_, _, _, _, _, H'.out, F2.out, I.out⟩)
  clear H' F2 I
  obtain ⟨E, q, x, mv, kv, H0, F0, I0⟩ := G
  have H := hid H0
  have F := hid F0
  have I := hid I0
  clear H0 F0 I0
  obtain ⟨db, hdb⟩ : ∃ k, k = p.db := ⟨_, rfl⟩
  have DB := hid (show un.p.db = db by rw [UP.out, hdb])
  have p8 := (BP.out _ H.out.only).cell (i := 8) (v := .bool db) (by rw [hdb]; rfl)
  clear hdb
  go_upto_if 185 with (fail)
  clear p8
  go_cut [] from 186 to 197 (fun wx => RG w14 D c X w5.heap.size s un e0 x0 q3 i0 15 wx)
  case first =>
    cases db
    · skip
      go_wp2_with fail
      go_meet
      exact ⟨_, _, _, _, _, H.out, rf_nofil DB.out F.out, I.out⟩
    · skip
      have U := hid (srng_any D c s q E 2 _ H.out.sc H.out.rd NE.out)
      have F' := rf_fil DB.out F.out
      obtain ⟨v, E', q', hu⟩ : ∃ v_ e_ q_, rngS s E q 2 = (v_, e_, q_) := ⟨_, _, _, rfl⟩
      rw [hu] at U F'
      dsimp only at F'
      clear hu
      have F2 := hid F'
      clear F' F
      go_wp2_with fail
      refine U.out.mono ?_
      rintro e w' ⟨rfl, k1, k2, k3⟩
      have H' := hid (H.out.scan k1 k2 k3)
      clear k1 k2 k3 U H
      have cx := H'.out.bx.cell (i := 17) (v := .int .i64 x.fil) rfl
      have cy := H'.out.bx.frozen 17
      go_upto_region 42 with (fail)
      have H := hid (H'.out.set 17 (.int .i64 v) (x' := { x with fil := v }) rfl rfl rfl)
      obtain ⟨w'', hw''⟩ : ∃ w'', w'' = World.setCell w' ⟨X, 17, none⟩ (.int .i64 v) := ⟨_, rfl⟩
      rw [← hw''] at H ⊢
      clear hw''
      have G := (show RG w14 D c X w5.heap.size s un e0 x0 q3 i0 13 _ from ⟨_, _, _, _, _, H.out, F2.out, I.out⟩)
      clear H F2 H' cx cy I
      obtain ⟨E, q, x, mv, kv, H0, F0, I0⟩ := G
      have H := hid H0
      have F := hid F0
      have I := hid I0
      clear H0 F0 I0
      obtain ⟨fl, hfl⟩ : ∃ k, k = x.fil := ⟨_, rfl⟩
      have FL := hid hfl
      have cx := H.out.bx.cell (i := 17) (v := .int .i64 fl) (by rw [hfl]; rfl)
      clear hfl
      by_cases hf : fl = 1
      · have h1 : (fl != 1) = false := by simp [hf]
        have h2 : decide (fl = 1) = true := by simp [hf]
        have NF := hid (show fltH un x = false by unfold fltH; rw [DB.out, ← FL.out, hf]; rfl)
        clear hf
        go_wp2_with fail
        go_meet
        exact ⟨_, _, _, _, _, H.out, rf_noflt NF.out F.out, I.out⟩
      have h1 : (fl != 1) = true := by simp [hf]
      have h2 : decide (fl = 1) = false := by simp [hf]
      have NF := hid (show fltH un x = true by unfold fltH; rw [DB.out, ← FL.out]; simp [hf])
      clear hf
      go_upto_region 43 with (fail)
      clear h1 h2 cx
      have U := hid (ssgn_any D c s q E (-6) 6 _ H.out.sc H.out.rd NE.out)
      have F' := rf_a NF.out F.out
      obtain ⟨v, E', q', hu⟩ : ∃ v_ e_ q_, sgnS s E q (-6) 6 = (v_, e_, q_) := ⟨_, _, _, rfl⟩
      rw [hu] at U F'
      dsimp only at F'
      clear hu
      have F2 := hid F'
      clear F' F
      go_wp2_with fail
      refine U.out.mono ?_
      rintro e w' ⟨rfl, k1, k2, k3⟩
      have H' := hid (H.out.scan k1 k2 k3)
      clear k1 k2 k3 U H
      have cx := H'.out.bx.cell (i := 18) (v := .int .i64 x.a) rfl
      have cy := H'.out.bx.frozen 18
      go_upto_region 44 with (fail)
      have H := hid (H'.out.set 18 (.int .i64 v) (x' := { x with a := v }) rfl rfl rfl)
      obtain ⟨w'', hw''⟩ : ∃ w'', w'' = World.setCell w' ⟨X, 18, none⟩ (.int .i64 v) := ⟨_, rfl⟩
      rw [← hw''] at H ⊢
      clear hw''
      have G := (show ∃ E q x mv kv, RH w14 D c X w5.heap.size s _ E q x mv kv ∧ RfOk s un e0 x0 q3 14 E x q ∧ x.intra = i0 ∧ fltH un x = true from ⟨_, _, _, _, _, H.out, F2.out, I.out, NF.out⟩)
      clear H F2 H' cx cy I NF FL
      obtain ⟨E, q, x, mv, kv, H0, F0, I0, NF0⟩ := G
      have H := hid H0
      have F := hid F0
      have I := hid I0
      have NF := hid NF0
      clear H0 F0 I0 NF0
      have U := hid (ssgn_any D c s q E (-6) 6 _ H.out.sc H.out.rd NE.out)
      have F' := rf_b NF.out F.out
      obtain ⟨v, E', q', hu⟩ : ∃ v_ e_ q_, sgnS s E q (-6) 6 = (v_, e_, q_) := ⟨_, _, _, rfl⟩
      rw [hu] at U F'
      dsimp only at F'
      clear hu
      have F2 := hid F'
      clear F' F
      go_wp2_with fail
      refine U.out.mono ?_
      rintro e w' ⟨rfl, k1, k2, k3⟩
      have H' := hid (H.out.scan k1 k2 k3)
      clear k1 k2 k3 U H
      have cx := H'.out.bx.cell (i := 19) (v := .int .i64 x.b) rfl
      have cy := H'.out.bx.frozen 19
      go_wp2_with fail
      have H := hid (H'.out.set 19 (.int .i64 v) (x' := { x with b := v }) rfl rfl rfl)
      go_meet
      exact ⟨_, _, _, _, _, H.out, F2.out, I.out⟩
  case rest =>
  obtain ⟨E, q, x, mv, kv, H0, F0, I0⟩ := hcut
  have H := hid H0
  have F := hid F0
  have I := hid I0
  clear H0 F0 I0
  have RDF := hid (BF.out un e0 E x0 x q3 q RB.out F.out)
  have nR : R ∉ [c, D, X] := by have := RC.out; have := DC.out; have := XN.out; simp; omega
  have BZ := hid (B14.out.only H.out.only nR)
  have OZ := hid (O14.out.trans2 H.out.only (fun y hy => .inr (by have := RN.out; have := RC.out; have := DC.out; have := XN.out; simp at hy; omega)))
  have RZ := hid (HR.out.only OZ.out (by simp))
  have e5 := H.out.sc.e
  clear BF RB F UN0 E00 SZ QB X0I X0F PP US UP UI UR OKU BP BS O14 B14 OK nR
  by_cases zE : ¬ E = 0
  · have zE' : (E != 0) = true := bne_iff_ne.2 zE
    have rdE := RDF.out
    rw [if_pos zE] at rdE
    have RDE := hid rdE
    clear zE rdE RDF I
    go_upto_region 46 with (fail)
    have BR := hid (fun w' (h : ∃ n, w' = wc.drewN n) => show Blk w' R 34 (hC h0 (.slice none 0 0) (.slice none 0 0)).toArray from by obtain ⟨n, rfl⟩ := h; exact BZ.out)
    have P12 := hid (fun n => hRead_err (w := w) (w' := wc.drewN n) (b := b) (s := s) (e1 := E) (pos := pos) (e := .returned (.tuple #[hV h0 (.slice none 0 0) (.slice none 0 0), .int .i64 E])) rfl (RZ.out.drewN n) ((OZ.out.mono (by simp)).drewN n))
    have S12 := hid (fun n => H.out.sc.drewN n)
    clear HR OZ RZ H
    refine wp_region_quiet_lit (by kernel_rfl) (by kernel_rfl) ?_
    repeat (first | (go_big_quiet_step (fail)) | (go_big_quiet_want; refine quiet_store_same 34 _ _ rfl R _ (hC h0 (.slice none 0 0) (.slice none 0 0)) rfl rfl (info_hdr' _ _ _) BR.out (one_hC _ rfl rfl) rfl ?_; go_big_quiet_on))
    refine wpQuiet_nil ?_
    rintro _ ⟨n, rfl⟩
    go_wp2_with fail
    exact bodyPost_ret (v := .tuple #[hV h0 (.slice none 0 0) (.slice none 0 0), .int .i64 E]) (res_ct rfl rfl rfl (lv_hdr BZ.out)) rfl (by rw [RDE.out]; exact P12.out n)
  obtain rfl : E = 0 := Classical.not_not.1 zE
  have rdE := RDF.out
  rw [if_neg zE] at rdE
  have RDE := hid rdE
  clear zE rdE RDF I
  obtain ⟨ma, mc, hmv, _⟩ := id H.out.hm
  obtain ⟨ka, kc, hkv, _⟩ := id H.out.hk
  subst hmv hkv
  have r5 := H.out.sc.r
  have c5 := H.out.rd.hp
  have b5 := RZ.out.hp
  have b6 := RZ.out.hf
  have nb : b ∉ [R] := by have := LB.out; have := RN.out; simp; omega
  have nX : X ∉ [b] := by have := LB.out; have := RN.out; have := RC.out; have := DC.out; have := XN.out; simp; omega
  have ob : Only [b] wc (wc.setCell ⟨b, 1, none⟩ (.int .i64 q)) := (Only.refl _ _).setCell (.inl (by simp)) _
  have OB := hid ob
  have RB2 := hid (RZ.out.set q H.out.rd.le)
  have X2 := hid (H.out.bx.only ob nX)
  have R2 := hid (BZ.out.only ob (by have := LB.out; have := RN.out; simp; omega))
  have nB : ∀ y, y ∈ [b] → y < w5.heap.size := fun y hy => by have := LB.out; have := RN.out; have := RC.out; have := H.out.lt.1; simp at hy; omega
  have M2 := hid (H.out.keepm ob nB)
  have FR := hid (show FreshM w (.slice ma x.mods.length mc) x.mods ∧ FreshM w (.slice ka x.marks.length kc) x.marks from
    ⟨fun ad n d e hl => by have := H.out.fm ad n d e hl; have := RN.out; have := RC.out; have := H.out.lt.1; omega, fun ad n d e hl => by have := H.out.fk ad n d e hl; have := RN.out; have := RC.out; have := H.out.lt.1; omega⟩)
  have FB := hid (And.intro (fun ad n d e hl => Nat.lt_of_lt_of_le (show R < w5.heap.size by have := RC.out; have := H.out.lt.1; omega) (H.out.fm ad n d e hl)) (fun ad n d e hl => Nat.lt_of_lt_of_le (show R < w5.heap.size by have := RC.out; have := H.out.lt.1; omega) (H.out.fk ad n d e hl)))
  clear ob nX nB H
  go_upto_region 48 with (fail)
  clear r5 c5 b5 b6 e5
  obtain ⟨wz, hwz⟩ : ∃ wz, wz = wc.setCell ⟨b, 1, none⟩ (.int .i64 q) := ⟨_, rfl⟩
  rw [← hwz] at OB RB2 X2 R2 M2 ⊢
  clear hwz
  go_wp2_with (first
    | (refine load_blk rfl 34 _ rfl X _ (hC x (.slice ma x.mods.length mc) (.slice ka x.marks.length kc)) rfl X2.out (hl_hdr _ _ _ _) ?_)
    | (refine store_blk rfl 34 _ _ rfl R 0 _ _ (hC x (.slice ma x.mods.length mc) (.slice ka x.marks.length kc)) rfl rfl (info_hdr' _ _ _) R2.out (by simp [hC]) (one_hC _ rfl rfl) ?_; intro w7 hB7 hO7))
  rw [setsA_h] at hB7
  refine bodyPost_ret (v := .tuple #[hV x (.slice ma x.mods.length mc) (.slice ka x.marks.length kc), .int .i64 0]) (res_ct rfl rfl rfl (lv_hdr hB7)) rfl ?_
  rw [RDE.out]
  refine ⟨_, _, rfl, RB2.out.only hO7 nb, ?_, ?_, ?_, FR.out.1, FR.out.2⟩
  · refine ((OZ.out.mono (T := [b]) (by simp)).trans OB.out).trans2 hO7 (fun y hy => ?_)
    have := RN.out
    simp at hy
    exact .inr (by omega)
  · exact HoldsM.only2 M2.out.1 hO7 (fun ad n c e hl => by have := FB.out.1 ad n c e hl; simp; omega)
  · exact HoldsM.only2 M2.out.2 hO7 (fun ad n c e hl => by have := FB.out.2 ad n c e hl; simp; omega)
end Go.Proofs.YtjjjfmnhdnajkaaGreatDoor

/- HeaderChecks: the walk. -/
import Derived.Test.YtjjjfmnhdnajkaaGreatDoorMg19
import Derived.Test.YtjjjfmnhdnajkaaGreatDoorMg15
import Derived.Test.YtjjjfmnhdnajkaaGreatDoorHlE
import Derived.Test.YtjjjfmnhdnajkaaGreatDoorMg20
namespace Go.Proofs.YtjjjfmnhdnajkaaGreatDoor
open Go.RowKit
set_option linter.unusedVariables false
set_option linter.unusedSimpArgs false

/-- The header, its lists cut. -/
def cutH (x : HV) : HV := { x with mods := x.mods.take 80, marks := x.marks.take 80 }
theorem oks_take {l : List (Int × Int × Int)} (h : OksM l) (n : Nat) : OksM (l.take n) := fun j x hx => h j x (by
  obtain ⟨q1, q2⟩ := List.getElem?_eq_some_iff.1 hx
  rw [List.length_take] at q1
  rw [← hx, List.getElem?_take, if_pos (by omega)])
theorem hV_cut (x : HV) (mv kv : Value) : hV x mv kv = hV (cutH x) mv kv := rfl
set_option maxRecDepth 100000 in
set_option maxHeartbeats 8000000 in
theorem hchecks_any (x : HV) (un : UN) (mv kv : Value) (w : World) (hVr : Vars w) (h1 : HoldsM w mv x.mods) (h2 : HoldsM w kv x.marks) (o1 : OksM x.mods) (o2 : OksM x.marks) (r0 : 0 ≤ un.ref) (q0 : -9223372036854775808 ≤ x.qp) (q1 : x.qp ≤ 9223372036854775807) :
    Calls Tryz.prog 6 #[hV x mv kv, uV un] w fun e w' => e = .returned (.bool true) ∧ Only [] w w' := by
  obtain ⟨ma, mc, hmv, _⟩ := id h1
  obtain ⟨ka, kc, hkv, _⟩ := id h2
  subst hmv hkv
  have VV := hid hVr
  obtain ⟨W, hW⟩ : ∃ W, W = (w.alloc (.cells (hC x (.slice ma x.mods.length mc) (.slice ka x.marks.length kc)).toArray 34)).alloc (.cells (uL un).toArray 30) := ⟨_, rfl⟩
  have oW : Only [] w W := hW ▸ (((Only.refl [] w).alloc _).alloc _)
  have bX : Blk W w.heap.size 34 (hC x (.slice ma x.mods.length mc) (.slice ka x.marks.length kc)).toArray := hW ▸ ((Blk.new w _ _).only ((Only.refl [] _).alloc _) (by simp))
  have bU : Blk W (w.heap.size + 1) 30 (uL un).toArray := by
    have := Blk.new (w.alloc (.cells (hC x (.slice ma x.mods.length mc) (.slice ka x.marks.length kc)).toArray 34)) 30 (uL un).toArray
    rw [World.size_alloc] at this
    exact hW ▸ this
  have OW := hid oW
  have FW := hid (few_any x _ _ W (h1.only0 oW) (h2.only0 oW))
  obtain ⟨y, hy⟩ : ∃ y, y = cutH x := ⟨_, rfl⟩
  have OK := hid (show OksM y.mods ∧ OksM y.marks from by rw [hy]; exact ⟨oks_take o1 80, oks_take o2 80⟩)
  have LY := hid (show y.mods.length ≤ 80 ∧ y.marks.length ≤ 80 from by rw [hy]; simp only [cutH, List.length_take]; omega)
  have QY := hid (show -9223372036854775808 ≤ y.qp ∧ y.qp ≤ 9223372036854775807 from by rw [hy]; exact ⟨q0, q1⟩)
  have YX := hid (show ∀ mv kv, hC x mv kv = hC y mv kv from by rw [hy]; exact fun _ _ => rfl)
  have YM := hid (show y.mods = x.mods.take 80 ∧ y.marks = x.marks.take 80 from by rw [hy]; exact ⟨rfl, rfl⟩)
  have R0 := hid r0
  obtain ⟨X, hX⟩ : ∃ X, X = w.heap.size := ⟨_, rfl⟩
  rw [← hX] at bX bU
  have XW := hid (show X < W.heap.size ∧ X + 1 < W.heap.size ∧ X = w.heap.size from ⟨bX.lt, bU.lt, hX⟩)
  have BX := hid bX
  have BU := hid bU
  clear h1 h2 o1 o2 q0 q1 hy hVr oW bX bU r0
  simp only [hV, uV, hC, uL, pL, sL, List.cons_append, List.nil_append] at hW ⊢
  simp only [hV, hC] at FW
  go_enter Tryz.func6, Tryz.ntmps6
  go_upto_region 1 with (fail)
  rw [← hW, ← hX]
  clear hW hX
  go_wp2_with (refine load_blk rfl 34 _ rfl X _ (hC x (.slice ma x.mods.length mc) (.slice ka x.marks.length kc)) rfl BX.out (hl_hdr _ _ _ _) ?_; simp only [hC])
  refine FW.out.mono ?_
  rintro e w1 ⟨m1, k1, rfl, j1, j2, o1, f1⟩
  rw [← YM.out.1] at j1
  rw [← YM.out.2] at j2
  obtain ⟨m1a, m1c, e1⟩ := holdsM_slice j1
  obtain ⟨k1a, k1c, e2⟩ := holdsM_slice j2
  subst e1 e2
  have B1 := hid (BX.out.only o1 (by simp))
  have U1 := hid (BU.out.only o1 (by simp))
  have J1 := hid (And.intro j1 j2)
  have O1 := hid o1
  have F1 := hid f1
  clear FW j1 j2 o1 f1 BX
  go_upto_region 2 with (refine store_blk rfl 34 _ _ rfl X 0 _ _ (hC x (.slice m1a y.mods.length m1c) (.slice k1a y.marks.length k1c)) rfl rfl (info_hdr' _ _ _) B1.out (by simp [hC]) (one_hC _ rfl rfl) ?_; intro w2 hB2 hO2; rw [setsA_h, YX.out] at hB2)
  have J2 := hid (And.intro (J1.out.1.only2 hO2 (fun ad n c e hl hm => by have := F1.out ad.block (.inl (by cases e; simp [ownOf, Value.ownBlock])); have := XW.out; simp at hm; omega)) (J1.out.2.only2 hO2 (fun ad n c e hl hm => by have := F1.out ad.block (.inr (by cases e; simp [ownOf, Value.ownBlock])); have := XW.out; simp at hm; omega)))
  have B2 := hid hB2
  have U2 := hid (U1.out.only hO2 (by simp))
  have O2 := hid (show Only [] w w2 from (OW.out.trans O1.out).trans2 hO2 (fun y hy => .inr (by have := XW.out; simp at hy; omega)))
  have M2 := hid (Nat.le_trans O1.out.size hO2.size)
  clear hB2 hO2 B1 U1 J1 O1 F1 BU OW
  have CP := hid (copyh_any y _ _ w2 J2.out.1 J2.out.2 (by have := LY.out; omega) (by have := LY.out; omega))
  go_wp2_with (refine load_blk rfl 34 _ rfl X _ (hC y (.slice m1a y.mods.length m1c) (.slice k1a y.marks.length k1c)) rfl B2.out (hl_hdr _ _ _ _) ?_)
  refine CP.out.mono ?_
  rintro e w3 ⟨m2, k2, rfl, j1, j2, o3, f3⟩
  obtain ⟨m2a, m2c, e1⟩ := holdsM_slice j1
  obtain ⟨k2a, k2c, e2⟩ := holdsM_slice j2
  subst e1 e2
  have J3 := hid (And.intro j1 j2)
  have JX := hid (And.intro (J2.out.1.only0 o3) (J2.out.2.only0 o3))
  have B3 := hid (B2.out.only o3 (by simp))
  have U3 := hid (U2.out.only o3 (by simp))
  have O3 := hid (O2.out.trans o3)
  have M3 := hid (Nat.le_trans M2.out o3.size)
  clear CP j1 j2 o3 f3 J2 B2 U2 O2 M2
  go_upto_region 3 with (refine store_blk rfl 34 _ _ rfl w3.heap.size 0 _ _ (hC y (.slice m2a y.mods.length m2c) (.slice k2a y.marks.length k2c)) rfl rfl (info_hdr' _ _ _) (Blk.new w3 _ _) (by simp [hC]) (one_hC _ rfl rfl) ?_; intro w4 hB4 hO4; rw [setsA_full (by simp [hC])] at hB4)
  have o4 : Only [] w3 w4 := ((Only.refl [] w3).alloc _).trans2 hO4 (fun y hy => by simp at hy; exact .inr (by omega))
  obtain ⟨K, hK⟩ : ∃ K, K = w3.heap.size := ⟨_, rfl⟩
  rw [← hK] at hB4 ⊢
  have KN := hid (show X + 1 < K from by have := M3.out; have := XW.out; rw [hK]; omega)
  have BK := hid hB4
  have B4 := hid (B3.out.only o4 (by simp))
  have U4 := hid (U3.out.only o4 (by simp))
  have J4 := hid (And.intro (J3.out.1.only0 o4) (J3.out.2.only0 o4))
  have JY := hid (And.intro (JX.out.1.only0 o4) (JX.out.2.only0 o4))
  have O4 := hid (O3.out.trans o4)
  clear hB4 hO4 o4 hK B3 U3 J3 JX O3 M3
  go_wp2_with fail
  refine (write_any _).mono ?_
  rintro e w5 ⟨rfl, hW5, hO5⟩
  have W5 := hid hW5
  have o5 := hid hO5
  obtain ⟨b, hb'⟩ : ∃ b, b = w4.heap.size := ⟨_, rfl⟩
  rw [← hb'] at W5 ⊢
  have hbl := W5.out.lt
  have hbg := hid (show w4.heap.size ≤ b by rw [hb']; exact Nat.le_refl _)
  clear hW5 hO5 hb'
  go_wp2_with fail
  refine (rwrite_any _).mono ?_
  rintro e w6 ⟨rfl, hW6, hO6⟩
  obtain ⟨d, hd⟩ : ∃ d, d = w5.heap.size := ⟨_, rfl⟩
  rw [← hd] at hW6 ⊢
  have T6 := hid (show Two w4 b d [] [] (.slice none 0 0) (.slice none 0 0) w6 from
    ⟨W5.out.only hO6 (by simp) (by simp), hW6, by simp [ownOf, Value.ownBlock], by simp [ownOf, Value.ownBlock], by simp [ownOf, Value.ownBlock], hbg.out, by rw [hd]; exact o5.out.size, by omega, o5.out.trans hO6⟩)
  clear hW6 hO6 hd hbl hbg W5 o5
  go_wp2_with fail
  refine (put_any _ _ _ 3 5 _ T6.out.wr (by decide)).mono ?_
  rintro e w7 ⟨rfl, sv7, hP7⟩
  have T7 := hid (T6.out.putW hP7)
  clear hP7 T6
  go_wp2_with fail
  refine (rput_any _ _ _ 3 5 _ T7.out.ref (by decide) (by decide)).mono ?_
  rintro e w8 ⟨rfl, tv8, hP8⟩
  have T8 := hid (T7.out.putR hP8)
  clear hP8 T7
  go_upto_region 7 with (fail)
  have V8 := hid (VV.out.only0 (O4.out.trans T8.out.only))
  have J8 := hid (And.intro (J4.out.1.only0 T8.out.only) (J4.out.2.only0 T8.out.only))
  have JX8 := hid (And.intro (JY.out.1.only0 T8.out.only) (JY.out.2.only0 T8.out.only))
  have bk8 := BK.out.only T8.out.only (by simp)
  have bx8 := B4.out.only T8.out.only (by simp)
  have bu8 := U4.out.only T8.out.only (by simp)
  have BK8 := hid (fun w' (o : Only [] w8 w') => bk8.only o (by simp))
  have BX8 := hid (fun w' (o : Only [] w8 w') => bx8.only o (by simp))
  have BU8 := hid (fun w' (o : Only [] w8 w') => bu8.only o (by simp))
  clear bk8 bx8 bu8
  have LK := hid (fun w (h : Only [] w8 w) => hl_hdr K y (.slice m2a y.mods.length m2c) (.slice k2a y.marks.length k2c) w (fun j v hj => (BK8.out w h).cell (by simpa using hj)))
  have LX := hid (fun w (h : Only [] w8 w) => hl_hdr X y (.slice m1a y.mods.length m1c) (.slice k1a y.marks.length k1c) w (fun j v hj => (BX8.out w h).cell (by simpa using hj)))
  have LP := hid (fun w (h : Only [] w8 w) => ho_pps (X + 1) 2 un.p w (fun j v hj => (BU8.out w h).cell (uL_p un j v hj)))
  have LS := hid (fun w (h : Only [] w8 w) => ho_sps (X + 1) 12 un.s w (fun j v hj => (BU8.out w h).cell (uL_s un j v hj)))
  have XC := hid (fun w (h : Only [] w8 w) => And.intro ((BU8.out w h).cell (i := 0) (v := .int .u8 un.ref) rfl) ((BU8.out w h).cell (i := 1) (v := .bool un.idr) rfl))
  have KA := hid (fun w' (o : Only [] w8 w') => hcheck_any y un _ _ w' (V8.out.only0 o) (J8.out.1.only0 o) (J8.out.2.only0 o) OK.out.1 OK.out.2 R0.out)
  have KB := hid (fun w' (o : Only [] w8 w') => rhcheck_any y un _ _ w' (JX8.out.1.only0 o) (JX8.out.2.only0 o) OK.out.1 OK.out.2 R0.out QY.out.1 QY.out.2)
  have RA := hid (fun w' => refs_any y (.slice m2a y.mods.length m2c) (.slice k2a y.marks.length k2c) un.p w' rfl rfl)
  have RB := hid (fun w' => rrefs_any y (.slice m1a y.mods.length m1c) (.slice k1a y.marks.length k1c) un.p w' rfl rfl)
  have QA := hid (fun w' => qp_any y (.slice m2a y.mods.length m2c) (.slice k2a y.marks.length k2c) un.p w' rfl rfl)
  have QB := hid (fun w' => rqp_any y (.slice m1a y.mods.length m1c) (.slice k1a y.marks.length k1c) un.p w' rfl rfl)
  generalize checkH un y = kc0 at *
  generalize (if y.intra = true then 0 else if y.over = true then y.refs else un.p.rf) = kr0 at *
  generalize wrap64 (wrap64 (26 + un.p.qp) + y.qp) = kq0 at *
  go_cut [65] from 23 to 65 (fun s65 wx => s65 = .bool false ∧ Only [] w8 wx)
  case first =>
    refine wp_region_heldH (fun w' => Only [] w8 w') 43 (by kernel_rfl) rfl (Only.refl [] w8).drew (fun hS => ?_)
    generalize w8.drew = wd at *
    refine wpAnyH_read 0 rfl (by kernel_rfl) (by kernel_rfl) (by kernel_rfl) (fun _ _ _ h => h) hS (yields_load 34 _ (by rfl) rfl ⟨K, 0, none⟩ (hC y (.slice m2a y.mods.length m2c) (.slice k2a y.marks.length k2c)) rfl LK.out) ?_
    (try simp only [Act.put, List.setIfInBounds_toArray, List.set_cons_zero, List.set_cons_succ])
    refine wpAnyH_read 1 (v := ?va1) rfl (by kernel_rfl) (by kernel_rfl) (by kernel_rfl) (fun _ _ _ h => h) hS (Or.inl ⟨by rfl, ?ya1⟩) ?ra1
    case ya1 =>
      intro w hSw
      obtain ⟨hc1, hc2⟩ := XC.out w hSw
      go_simp
      (try with_reducible rfl)
    (try simp only [Act.put, List.setIfInBounds_toArray, List.set_cons_zero, List.set_cons_succ])
    refine wpAnyH_read 2 (v := ?va2) rfl (by kernel_rfl) (by kernel_rfl) (by kernel_rfl) (fun _ _ _ h => h) hS (Or.inl ⟨by rfl, ?ya2⟩) ?ra2
    case ya2 =>
      intro w hSw
      obtain ⟨hc1, hc2⟩ := XC.out w hSw
      go_simp
      (try with_reducible rfl)
    (try simp only [Act.put, List.setIfInBounds_toArray, List.set_cons_zero, List.set_cons_succ])
    refine wpAnyH_read 3 (v := ?va3) rfl (by kernel_rfl) (by kernel_rfl) (by kernel_rfl) (fun _ _ _ h => h) hS (Or.inl ⟨by rfl, ?ya3⟩) ?ra3
    case ya3 =>
      intro w hSw
      obtain ⟨hc1, hc2⟩ := XC.out w hSw
      go_simp
      (try with_reducible rfl)
    (try simp only [Act.put, List.setIfInBounds_toArray, List.set_cons_zero, List.set_cons_succ])
    refine wpAnyH_read 4 (v := ?va4) rfl (by kernel_rfl) (by kernel_rfl) (by kernel_rfl) (fun _ _ _ h => h) hS (Or.inl ⟨by rfl, ?ya4⟩) ?ra4
    case ya4 =>
      intro w hSw
      obtain ⟨hc1, hc2⟩ := XC.out w hSw
      go_simp
      (try with_reducible rfl)
    (try simp only [Act.put, List.setIfInBounds_toArray, List.set_cons_zero, List.set_cons_succ])
    refine wpAnyH_read 5 (v := ?va5) rfl (by kernel_rfl) (by kernel_rfl) (by kernel_rfl) (fun _ _ _ h => h) hS (Or.inl ⟨by rfl, ?ya5⟩) ?ra5
    case ya5 =>
      intro w hSw
      obtain ⟨hc1, hc2⟩ := XC.out w hSw
      go_simp
      (try with_reducible rfl)
    (try simp only [Act.put, List.setIfInBounds_toArray, List.set_cons_zero, List.set_cons_succ])
    refine wpAnyH_read 6 rfl (by kernel_rfl) (by kernel_rfl) (by kernel_rfl) (fun _ _ _ h => h) hS (yields_load 24 _ (by rfl) rfl ⟨X + 1, 2, none⟩ (pL un.p) rfl LP.out) ?_
    (try simp only [Act.put, List.setIfInBounds_toArray, List.set_cons_zero, List.set_cons_succ])
    refine wpAnyH_read 7 (v := ?va6) rfl (by kernel_rfl) (by kernel_rfl) (by kernel_rfl) (fun _ _ _ h => h) hS (Or.inl ⟨by rfl, ?ya6⟩) ?ra6
    case ya6 =>
      intro w hSw
      obtain ⟨hc1, hc2⟩ := XC.out w hSw
      go_simp
      (try with_reducible rfl)
    (try simp only [Act.put, List.setIfInBounds_toArray, List.set_cons_zero, List.set_cons_succ])
    refine wpAnyH_read 8 rfl (by kernel_rfl) (by kernel_rfl) (by kernel_rfl) (fun _ _ _ h => h) hS (yields_load 27 _ (by rfl) rfl ⟨X + 1, 12, none⟩ (sL un.s) rfl LS.out) ?_
    (try simp only [Act.put, List.setIfInBounds_toArray, List.set_cons_zero, List.set_cons_succ])
    refine wpAnyH_read 10 rfl (by kernel_rfl) (by kernel_rfl) (by kernel_rfl) (fun _ _ _ h => h) hS (yields_load 34 _ (by rfl) rfl ⟨X, 0, none⟩ (hC y (.slice m1a y.mods.length m1c) (.slice k1a y.marks.length k1c)) rfl LX.out) ?_
    (try simp only [Act.put, List.setIfInBounds_toArray, List.set_cons_zero, List.set_cons_succ])
    refine wpAnyH_read 11 (v := ?va7) rfl (by kernel_rfl) (by kernel_rfl) (by kernel_rfl) (fun _ _ _ h => h) hS (Or.inl ⟨by rfl, ?ya7⟩) ?ra7
    case ya7 =>
      intro w hSw
      obtain ⟨hc1, hc2⟩ := XC.out w hSw
      go_simp
      (try with_reducible rfl)
    (try simp only [Act.put, List.setIfInBounds_toArray, List.set_cons_zero, List.set_cons_succ])
    refine wpAnyH_read 12 (v := ?va8) rfl (by kernel_rfl) (by kernel_rfl) (by kernel_rfl) (fun _ _ _ h => h) hS (Or.inl ⟨by rfl, ?ya8⟩) ?ra8
    case ya8 =>
      intro w hSw
      obtain ⟨hc1, hc2⟩ := XC.out w hSw
      go_simp
      (try with_reducible rfl)
    (try simp only [Act.put, List.setIfInBounds_toArray, List.set_cons_zero, List.set_cons_succ])
    refine wpAnyH_read 13 (v := ?va9) rfl (by kernel_rfl) (by kernel_rfl) (by kernel_rfl) (fun _ _ _ h => h) hS (Or.inl ⟨by rfl, ?ya9⟩) ?ra9
    case ya9 =>
      intro w hSw
      obtain ⟨hc1, hc2⟩ := XC.out w hSw
      go_simp
      (try with_reducible rfl)
    (try simp only [Act.put, List.setIfInBounds_toArray, List.set_cons_zero, List.set_cons_succ])
    refine wpAnyH_read 14 (v := ?va10) rfl (by kernel_rfl) (by kernel_rfl) (by kernel_rfl) (fun _ _ _ h => h) hS (Or.inl ⟨by rfl, ?ya10⟩) ?ra10
    case ya10 =>
      intro w hSw
      obtain ⟨hc1, hc2⟩ := XC.out w hSw
      go_simp
      (try with_reducible rfl)
    (try simp only [Act.put, List.setIfInBounds_toArray, List.set_cons_zero, List.set_cons_succ])
    refine wpAnyH_read 15 (v := ?va11) rfl (by kernel_rfl) (by kernel_rfl) (by kernel_rfl) (fun _ _ _ h => h) hS (Or.inl ⟨by rfl, ?ya11⟩) ?ra11
    case ya11 =>
      intro w hSw
      obtain ⟨hc1, hc2⟩ := XC.out w hSw
      go_simp
      (try with_reducible rfl)
    (try simp only [Act.put, List.setIfInBounds_toArray, List.set_cons_zero, List.set_cons_succ])
    refine wpAnyH_read 16 rfl (by kernel_rfl) (by kernel_rfl) (by kernel_rfl) (fun _ _ _ h => h) hS (yields_load 24 _ (by rfl) rfl ⟨X + 1, 2, none⟩ (pL un.p) rfl LP.out) ?_
    (try simp only [Act.put, List.setIfInBounds_toArray, List.set_cons_zero, List.set_cons_succ])
    refine wpAnyH_read 17 (v := ?va12) rfl (by kernel_rfl) (by kernel_rfl) (by kernel_rfl) (fun _ _ _ h => h) hS (Or.inl ⟨by rfl, ?ya12⟩) ?ra12
    case ya12 =>
      intro w hSw
      obtain ⟨hc1, hc2⟩ := XC.out w hSw
      go_simp
      (try with_reducible rfl)
    (try simp only [Act.put, List.setIfInBounds_toArray, List.set_cons_zero, List.set_cons_succ])
    refine wpAnyH_read 18 rfl (by kernel_rfl) (by kernel_rfl) (by kernel_rfl) (fun _ _ _ h => h) hS (yields_load 27 _ (by rfl) rfl ⟨X + 1, 12, none⟩ (sL un.s) rfl LS.out) ?_
    (try simp only [Act.put, List.setIfInBounds_toArray, List.set_cons_zero, List.set_cons_succ])
    refine wpAnyH_call 9 rfl (by kernel_rfl) (fun J hJ => ?_)
    rw [if_pos (by rfl)]
    go_simp
    refine (KA.out _ hS).mono ?_
    rintro e u1 ⟨rfl, p1⟩
    have s1 : Only [] w8 u1 := hS.trans p1
    refine hJ.out _ _ s1 ?_
    clear hJ J
    (try simp only [Act.put, List.setIfInBounds_toArray, List.set_cons_zero, List.set_cons_succ])
    refine wpAnyH_call 19 rfl (by kernel_rfl) (fun J hJ => ?_)
    rw [if_pos (by rfl)]
    go_simp
    refine (KB.out _ s1).mono ?_
    rintro e u2 ⟨rfl, p2⟩
    have s2 : Only [] w8 u2 := s1.trans p2
    refine hJ.out _ _ s2 ?_
    clear hJ J
    (try simp only [Act.put, List.setIfInBounds_toArray, List.set_cons_zero, List.set_cons_succ])
    refine wpAnyH_read 20 (v := ?va13) rfl (by kernel_rfl) (by kernel_rfl) (by kernel_rfl) (fun _ _ _ h => h) s2 (Or.inl ⟨by rfl, ?ya13⟩) ?ra13
    case ya13 =>
      intro w hSw
      obtain ⟨hc1, hc2⟩ := XC.out w hSw
      go_simp
      (try with_reducible rfl)
    (try simp only [Act.put, List.setIfInBounds_toArray, List.set_cons_zero, List.set_cons_succ])
    refine wpAnyH_read 21 (v := ?va14) rfl (by kernel_rfl) (by kernel_rfl) (by kernel_rfl) (fun _ _ _ h => h) s2 (Or.inl ⟨by rfl, ?ya14⟩) ?ra14
    case ya14 =>
      intro w hSw
      obtain ⟨hc1, hc2⟩ := XC.out w hSw
      go_simp
      (try with_reducible rfl)
    (try simp only [Act.put, List.setIfInBounds_toArray, List.set_cons_zero, List.set_cons_succ])
    refine wpAnyH_read 22 rfl (by kernel_rfl) (by kernel_rfl) (by kernel_rfl) (fun _ _ _ h => h) s2 (yields_load 34 _ (by rfl) rfl ⟨K, 0, none⟩ (hC y (.slice m2a y.mods.length m2c) (.slice k2a y.marks.length k2c)) rfl LK.out) ?_
    (try simp only [Act.put, List.setIfInBounds_toArray, List.set_cons_zero, List.set_cons_succ])
    refine wpAnyH_read 23 (v := ?va15) rfl (by kernel_rfl) (by kernel_rfl) (by kernel_rfl) (fun _ _ _ h => h) s2 (Or.inl ⟨by rfl, ?ya15⟩) ?ra15
    case ya15 =>
      intro w hSw
      obtain ⟨hc1, hc2⟩ := XC.out w hSw
      go_simp
      (try with_reducible rfl)
    (try simp only [Act.put, List.setIfInBounds_toArray, List.set_cons_zero, List.set_cons_succ])
    refine wpAnyH_read 24 rfl (by kernel_rfl) (by kernel_rfl) (by kernel_rfl) (fun _ _ _ h => h) s2 (yields_load 24 _ (by rfl) rfl ⟨X + 1, 2, none⟩ (pL un.p) rfl LP.out) ?_
    (try simp only [Act.put, List.setIfInBounds_toArray, List.set_cons_zero, List.set_cons_succ])
    refine wpAnyH_read 26 rfl (by kernel_rfl) (by kernel_rfl) (by kernel_rfl) (fun _ _ _ h => h) s2 (yields_load 34 _ (by rfl) rfl ⟨X, 0, none⟩ (hC y (.slice m1a y.mods.length m1c) (.slice k1a y.marks.length k1c)) rfl LX.out) ?_
    (try simp only [Act.put, List.setIfInBounds_toArray, List.set_cons_zero, List.set_cons_succ])
    refine wpAnyH_read 27 (v := ?va16) rfl (by kernel_rfl) (by kernel_rfl) (by kernel_rfl) (fun _ _ _ h => h) s2 (Or.inl ⟨by rfl, ?ya16⟩) ?ra16
    case ya16 =>
      intro w hSw
      obtain ⟨hc1, hc2⟩ := XC.out w hSw
      go_simp
      (try with_reducible rfl)
    (try simp only [Act.put, List.setIfInBounds_toArray, List.set_cons_zero, List.set_cons_succ])
    refine wpAnyH_read 28 rfl (by kernel_rfl) (by kernel_rfl) (by kernel_rfl) (fun _ _ _ h => h) s2 (yields_load 24 _ (by rfl) rfl ⟨X + 1, 2, none⟩ (pL un.p) rfl LP.out) ?_
    (try simp only [Act.put, List.setIfInBounds_toArray, List.set_cons_zero, List.set_cons_succ])
    refine wpAnyH_call 25 rfl (by kernel_rfl) (fun J hJ => ?_)
    rw [if_pos (by rfl)]
    go_simp
    refine (RA.out _).mono ?_
    rintro e u3 ⟨rfl, p3⟩
    have s3 : Only [] w8 u3 := s2.trans p3
    refine hJ.out _ _ s3 ?_
    clear hJ J
    (try simp only [Act.put, List.setIfInBounds_toArray, List.set_cons_zero, List.set_cons_succ])
    refine wpAnyH_call 29 rfl (by kernel_rfl) (fun J hJ => ?_)
    rw [if_pos (by rfl)]
    go_simp
    refine (RB.out _).mono ?_
    rintro e u4 ⟨rfl, p4⟩
    have s4 : Only [] w8 u4 := s3.trans p4
    refine hJ.out _ _ s4 ?_
    clear hJ J
    (try simp only [Act.put, List.setIfInBounds_toArray, List.set_cons_zero, List.set_cons_succ])
    refine wpAnyH_read 30 (v := ?va17) rfl (by kernel_rfl) (by kernel_rfl) (by kernel_rfl) (fun _ _ _ h => h) s4 (Or.inl ⟨by rfl, ?ya17⟩) ?ra17
    case ya17 =>
      intro w hSw
      obtain ⟨hc1, hc2⟩ := XC.out w hSw
      go_simp
      (try with_reducible rfl)
    (try simp only [Act.put, List.setIfInBounds_toArray, List.set_cons_zero, List.set_cons_succ])
    refine wpAnyH_read 31 (v := ?va18) rfl (by kernel_rfl) (by kernel_rfl) (by kernel_rfl) (fun _ _ _ h => h) s4 (Or.inl ⟨by rfl, ?ya18⟩) ?ra18
    case ya18 =>
      intro w hSw
      obtain ⟨hc1, hc2⟩ := XC.out w hSw
      go_simp
      (try with_reducible rfl)
    (try simp only [Act.put, List.setIfInBounds_toArray, List.set_cons_zero, List.set_cons_succ])
    refine wpAnyH_read 32 (v := ?va19) rfl (by kernel_rfl) (by kernel_rfl) (by kernel_rfl) (fun _ _ _ h => h) s4 (Or.inl ⟨by rfl, ?ya19⟩) ?ra19
    case ya19 =>
      intro w hSw
      obtain ⟨hc1, hc2⟩ := XC.out w hSw
      go_simp
      (try with_reducible rfl)
    (try simp only [Act.put, List.setIfInBounds_toArray, List.set_cons_zero, List.set_cons_succ])
    refine wpAnyH_read 33 rfl (by kernel_rfl) (by kernel_rfl) (by kernel_rfl) (fun _ _ _ h => h) s4 (yields_load 34 _ (by rfl) rfl ⟨K, 0, none⟩ (hC y (.slice m2a y.mods.length m2c) (.slice k2a y.marks.length k2c)) rfl LK.out) ?_
    (try simp only [Act.put, List.setIfInBounds_toArray, List.set_cons_zero, List.set_cons_succ])
    refine wpAnyH_read 34 (v := ?va20) rfl (by kernel_rfl) (by kernel_rfl) (by kernel_rfl) (fun _ _ _ h => h) s4 (Or.inl ⟨by rfl, ?ya20⟩) ?ra20
    case ya20 =>
      intro w hSw
      obtain ⟨hc1, hc2⟩ := XC.out w hSw
      go_simp
      (try with_reducible rfl)
    (try simp only [Act.put, List.setIfInBounds_toArray, List.set_cons_zero, List.set_cons_succ])
    refine wpAnyH_read 35 rfl (by kernel_rfl) (by kernel_rfl) (by kernel_rfl) (fun _ _ _ h => h) s4 (yields_load 24 _ (by rfl) rfl ⟨X + 1, 2, none⟩ (pL un.p) rfl LP.out) ?_
    (try simp only [Act.put, List.setIfInBounds_toArray, List.set_cons_zero, List.set_cons_succ])
    refine wpAnyH_read 37 rfl (by kernel_rfl) (by kernel_rfl) (by kernel_rfl) (fun _ _ _ h => h) s4 (yields_load 34 _ (by rfl) rfl ⟨X, 0, none⟩ (hC y (.slice m1a y.mods.length m1c) (.slice k1a y.marks.length k1c)) rfl LX.out) ?_
    (try simp only [Act.put, List.setIfInBounds_toArray, List.set_cons_zero, List.set_cons_succ])
    refine wpAnyH_read 38 (v := ?va21) rfl (by kernel_rfl) (by kernel_rfl) (by kernel_rfl) (fun _ _ _ h => h) s4 (Or.inl ⟨by rfl, ?ya21⟩) ?ra21
    case ya21 =>
      intro w hSw
      obtain ⟨hc1, hc2⟩ := XC.out w hSw
      go_simp
      (try with_reducible rfl)
    (try simp only [Act.put, List.setIfInBounds_toArray, List.set_cons_zero, List.set_cons_succ])
    refine wpAnyH_read 39 rfl (by kernel_rfl) (by kernel_rfl) (by kernel_rfl) (fun _ _ _ h => h) s4 (yields_load 24 _ (by rfl) rfl ⟨X + 1, 2, none⟩ (pL un.p) rfl LP.out) ?_
    (try simp only [Act.put, List.setIfInBounds_toArray, List.set_cons_zero, List.set_cons_succ])
    refine wpAnyH_call 36 rfl (by kernel_rfl) (fun J hJ => ?_)
    rw [if_pos (by rfl)]
    go_simp
    refine (QA.out _).mono ?_
    rintro e u5 ⟨rfl, p5⟩
    have s5 : Only [] w8 u5 := s4.trans p5
    refine hJ.out _ _ s5 ?_
    clear hJ J
    (try simp only [Act.put, List.setIfInBounds_toArray, List.set_cons_zero, List.set_cons_succ])
    refine wpAnyH_call 40 rfl (by kernel_rfl) (fun J hJ => ?_)
    rw [if_pos (by rfl)]
    go_simp
    refine (QB.out _).mono ?_
    rintro e u6 ⟨rfl, p6⟩
    have s6 : Only [] w8 u6 := s5.trans p6
    refine hJ.out _ _ s6 ?_
    clear hJ J
    (try simp only [Act.put, List.setIfInBounds_toArray, List.set_cons_zero, List.set_cons_succ])
    refine wpAnyH_read 41 (v := ?va22) rfl (by kernel_rfl) (by kernel_rfl) (by kernel_rfl) (fun _ _ _ h => h) s6 (Or.inl ⟨by rfl, ?ya22⟩) ?ra22
    case ya22 =>
      intro w hSw
      obtain ⟨hc1, hc2⟩ := XC.out w hSw
      go_simp
      (try with_reducible rfl)
    (try simp only [Act.put, List.setIfInBounds_toArray, List.set_cons_zero, List.set_cons_succ])
    refine wpAnyH_read 42 (v := ?va23) rfl (by kernel_rfl) (by kernel_rfl) (by kernel_rfl) (fun _ _ _ h => h) s6 (Or.inl ⟨by rfl, ?ya23⟩) ?ra23
    case ya23 =>
      intro w hSw
      obtain ⟨hc1, hc2⟩ := XC.out w hSw
      go_simp
      (try with_reducible rfl)
    (try simp only [Act.put, List.setIfInBounds_toArray, List.set_cons_zero, List.set_cons_succ])
    refine wpAnyH_done (by kernel_rfl) ?_ _
    go_wp2_with fail
    go_meet
    exact ⟨rfl, s6⟩
  case rest =>
  obtain ⟨rfl, o9⟩ := hcut
  go_upto_region 9 with (fail)
  clear KA KB RA RB QA QB LK LX LP LS XC BK8 BX8 BU8 J8 JX8 V8
  have hL : (wrP [] 3 5).2.length ≤ 10 := by decide
  have T9 := hid (T8.out.keep o9)
  generalize (wrP [] 3 5).2 = L at *
  have HL := hid hL
  have V4 := hid (fun w' (o : Only [] w4 w') => VV.out.only0 (O4.out.trans o))
  have BK8 := hid (fun w' (o : Only [] w4 w') => BK.out.only o (by simp))
  have BX8 := hid (fun w' (o : Only [] w4 w') => B4.out.only o (by simp))
  have BU8 := hid (fun w' (o : Only [] w4 w') => U4.out.only o (by simp))
  have LK := hid (fun w (h : Only [] w4 w) => hl_hdr K y (.slice m2a y.mods.length m2c) (.slice k2a y.marks.length k2c) w (fun j v hj => (BK8.out w h).cell (by simpa using hj)))
  have LX := hid (fun w (h : Only [] w4 w) => hl_hdr X y (.slice m1a y.mods.length m1c) (.slice k1a y.marks.length k1c) w (fun j v hj => (BX8.out w h).cell (by simpa using hj)))
  have LP := hid (fun w (h : Only [] w4 w) => ho_pps (X + 1) 2 un.p w (fun j v hj => (BU8.out w h).cell (uL_p un j v hj)))
  have LS := hid (fun w (h : Only [] w4 w) => ho_sps (X + 1) 12 un.s w (fun j v hj => (BU8.out w h).cell (uL_s un j v hj)))
  have XC := hid (fun w (h : Only [] w4 w) => And.intro ((BU8.out w h).cell (i := 0) (v := .int .u8 un.ref) rfl) ((BU8.out w h).cell (i := 1) (v := .bool un.idr) rfl))
  have GG := hid (show ∀ m, kindG m ∉ b :: ownOf sv7 from fun m hm => by
    have := VV.out.lt m
    have := O4.out.size
    rcases List.mem_cons.1 hm with e | e
    · have := T9.out.cW; omega
    · have := (T9.out.fs _ e).1; omega)
  have PA := hid (fun w' (o : Only [] w4 w') h => hput_any y un _ _ b sv7 L w' (V4.out _ o) (J4.out.1.only0 o) (J4.out.2.only0 o) OK.out.1 OK.out.2 R0.out h GG.out (T9.out.asideW J4.out.1) (T9.out.asideW J4.out.2) (by have := HL.out; omega))
  have PB := hid (fun w' (o : Only [] w4 w') h => rhput_any y un _ _ d tv8 L w' (JY.out.1.only0 o) (JY.out.2.only0 o) OK.out.1 OK.out.2 R0.out QY.out.1 QY.out.2 h (T9.out.asideR JY.out.1) (T9.out.asideR JY.out.2) (by have := HL.out; omega))
  obtain ⟨r1, r2, hr⟩ : ∃ r1 r2, putH un y L = (r1, r2) := ⟨_, _, rfl⟩
  rw [hr] at PA PB
  dsimp only at PA PB
  have EQ := hid (fun w' (o : Only [] w4 w') => eqh_any y _ _ _ _ w' (J4.out.1.only0 o) (J4.out.2.only0 o) (JY.out.1.only0 o) (JY.out.2.only0 o) (by have := LY.out; omega) (by have := LY.out; omega))
  have AW := hid (fun w' (o : Only [] w4 w') => hawake_any w' (V4.out _ o))
  clear hL hr T8 o9 BK B4 U4
  refine wp_region_heldH (fun w' => Only [] w4 w') 39 (by kernel_rfl) rfl T9.out.only.drew (fun hS => ?_)
  have T10 := hid (T9.out.keep (Only.refl [] wc).drew)
  generalize wc.drew = wd at *
  refine wpAnyH_read 0 (v := ?va101) rfl (by kernel_rfl) (by kernel_rfl) (by kernel_rfl) (fun _ _ _ h => h) hS (Or.inl ⟨by rfl, ?ya101⟩) ?ra101
  case ya101 =>
    intro w hSw
    obtain ⟨hc1, hc2⟩ := XC.out w hSw
    go_simp
    (try with_reducible rfl)
  (try simp only [Act.put, List.setIfInBounds_toArray, List.set_cons_zero, List.set_cons_succ])
  refine wpAnyH_read 1 rfl (by kernel_rfl) (by kernel_rfl) (by kernel_rfl) (fun _ _ _ h => h) hS (yields_load 34 _ (by rfl) rfl ⟨K, 0, none⟩ (hC y (.slice m2a y.mods.length m2c) (.slice k2a y.marks.length k2c)) rfl LK.out) ?_
  (try simp only [Act.put, List.setIfInBounds_toArray, List.set_cons_zero, List.set_cons_succ])
  refine wpAnyH_read 2 (v := ?va102) rfl (by kernel_rfl) (by kernel_rfl) (by kernel_rfl) (fun _ _ _ h => h) hS (Or.inl ⟨by rfl, ?ya102⟩) ?ra102
  case ya102 =>
    intro w hSw
    obtain ⟨hc1, hc2⟩ := XC.out w hSw
    go_simp
    (try with_reducible rfl)
  (try simp only [Act.put, List.setIfInBounds_toArray, List.set_cons_zero, List.set_cons_succ])
  refine wpAnyH_read 3 (v := ?va103) rfl (by kernel_rfl) (by kernel_rfl) (by kernel_rfl) (fun _ _ _ h => h) hS (Or.inl ⟨by rfl, ?ya103⟩) ?ra103
  case ya103 =>
    intro w hSw
    obtain ⟨hc1, hc2⟩ := XC.out w hSw
    go_simp
    (try with_reducible rfl)
  (try simp only [Act.put, List.setIfInBounds_toArray, List.set_cons_zero, List.set_cons_succ])
  refine wpAnyH_read 4 (v := ?va104) rfl (by kernel_rfl) (by kernel_rfl) (by kernel_rfl) (fun _ _ _ h => h) hS (Or.inl ⟨by rfl, ?ya104⟩) ?ra104
  case ya104 =>
    intro w hSw
    obtain ⟨hc1, hc2⟩ := XC.out w hSw
    go_simp
    (try with_reducible rfl)
  (try simp only [Act.put, List.setIfInBounds_toArray, List.set_cons_zero, List.set_cons_succ])
  refine wpAnyH_read 5 (v := ?va105) rfl (by kernel_rfl) (by kernel_rfl) (by kernel_rfl) (fun _ _ _ h => h) hS (Or.inl ⟨by rfl, ?ya105⟩) ?ra105
  case ya105 =>
    intro w hSw
    obtain ⟨hc1, hc2⟩ := XC.out w hSw
    go_simp
    (try with_reducible rfl)
  (try simp only [Act.put, List.setIfInBounds_toArray, List.set_cons_zero, List.set_cons_succ])
  refine wpAnyH_read 6 (v := ?va106) rfl (by kernel_rfl) (by kernel_rfl) (by kernel_rfl) (fun _ _ _ h => h) hS (Or.inl ⟨by rfl, ?ya106⟩) ?ra106
  case ya106 =>
    intro w hSw
    obtain ⟨hc1, hc2⟩ := XC.out w hSw
    go_simp
    (try with_reducible rfl)
  (try simp only [Act.put, List.setIfInBounds_toArray, List.set_cons_zero, List.set_cons_succ])
  refine wpAnyH_read 7 rfl (by kernel_rfl) (by kernel_rfl) (by kernel_rfl) (fun _ _ _ h => h) hS (yields_load 24 _ (by rfl) rfl ⟨X + 1, 2, none⟩ (pL un.p) rfl LP.out) ?_
  (try simp only [Act.put, List.setIfInBounds_toArray, List.set_cons_zero, List.set_cons_succ])
  refine wpAnyH_read 8 (v := ?va107) rfl (by kernel_rfl) (by kernel_rfl) (by kernel_rfl) (fun _ _ _ h => h) hS (Or.inl ⟨by rfl, ?ya107⟩) ?ra107
  case ya107 =>
    intro w hSw
    obtain ⟨hc1, hc2⟩ := XC.out w hSw
    go_simp
    (try with_reducible rfl)
  (try simp only [Act.put, List.setIfInBounds_toArray, List.set_cons_zero, List.set_cons_succ])
  refine wpAnyH_read 9 rfl (by kernel_rfl) (by kernel_rfl) (by kernel_rfl) (fun _ _ _ h => h) hS (yields_load 27 _ (by rfl) rfl ⟨X + 1, 12, none⟩ (sL un.s) rfl LS.out) ?_
  (try simp only [Act.put, List.setIfInBounds_toArray, List.set_cons_zero, List.set_cons_succ])
  refine wpAnyH_read 11 (v := ?va108) rfl (by kernel_rfl) (by kernel_rfl) (by kernel_rfl) (fun _ _ _ h => h) hS (Or.inl ⟨by rfl, ?ya108⟩) ?ra108
  case ya108 =>
    intro w hSw
    obtain ⟨hc1, hc2⟩ := XC.out w hSw
    go_simp
    (try with_reducible rfl)
  (try simp only [Act.put, List.setIfInBounds_toArray, List.set_cons_zero, List.set_cons_succ])
  refine wpAnyH_read 12 rfl (by kernel_rfl) (by kernel_rfl) (by kernel_rfl) (fun _ _ _ h => h) hS (yields_load 34 _ (by rfl) rfl ⟨X, 0, none⟩ (hC y (.slice m1a y.mods.length m1c) (.slice k1a y.marks.length k1c)) rfl LX.out) ?_
  (try simp only [Act.put, List.setIfInBounds_toArray, List.set_cons_zero, List.set_cons_succ])
  refine wpAnyH_read 13 (v := ?va109) rfl (by kernel_rfl) (by kernel_rfl) (by kernel_rfl) (fun _ _ _ h => h) hS (Or.inl ⟨by rfl, ?ya109⟩) ?ra109
  case ya109 =>
    intro w hSw
    obtain ⟨hc1, hc2⟩ := XC.out w hSw
    go_simp
    (try with_reducible rfl)
  (try simp only [Act.put, List.setIfInBounds_toArray, List.set_cons_zero, List.set_cons_succ])
  refine wpAnyH_read 14 (v := ?va110) rfl (by kernel_rfl) (by kernel_rfl) (by kernel_rfl) (fun _ _ _ h => h) hS (Or.inl ⟨by rfl, ?ya110⟩) ?ra110
  case ya110 =>
    intro w hSw
    obtain ⟨hc1, hc2⟩ := XC.out w hSw
    go_simp
    (try with_reducible rfl)
  (try simp only [Act.put, List.setIfInBounds_toArray, List.set_cons_zero, List.set_cons_succ])
  refine wpAnyH_read 15 (v := ?va111) rfl (by kernel_rfl) (by kernel_rfl) (by kernel_rfl) (fun _ _ _ h => h) hS (Or.inl ⟨by rfl, ?ya111⟩) ?ra111
  case ya111 =>
    intro w hSw
    obtain ⟨hc1, hc2⟩ := XC.out w hSw
    go_simp
    (try with_reducible rfl)
  (try simp only [Act.put, List.setIfInBounds_toArray, List.set_cons_zero, List.set_cons_succ])
  refine wpAnyH_read 16 (v := ?va112) rfl (by kernel_rfl) (by kernel_rfl) (by kernel_rfl) (fun _ _ _ h => h) hS (Or.inl ⟨by rfl, ?ya112⟩) ?ra112
  case ya112 =>
    intro w hSw
    obtain ⟨hc1, hc2⟩ := XC.out w hSw
    go_simp
    (try with_reducible rfl)
  (try simp only [Act.put, List.setIfInBounds_toArray, List.set_cons_zero, List.set_cons_succ])
  refine wpAnyH_read 17 (v := ?va113) rfl (by kernel_rfl) (by kernel_rfl) (by kernel_rfl) (fun _ _ _ h => h) hS (Or.inl ⟨by rfl, ?ya113⟩) ?ra113
  case ya113 =>
    intro w hSw
    obtain ⟨hc1, hc2⟩ := XC.out w hSw
    go_simp
    (try with_reducible rfl)
  (try simp only [Act.put, List.setIfInBounds_toArray, List.set_cons_zero, List.set_cons_succ])
  refine wpAnyH_read 18 rfl (by kernel_rfl) (by kernel_rfl) (by kernel_rfl) (fun _ _ _ h => h) hS (yields_load 24 _ (by rfl) rfl ⟨X + 1, 2, none⟩ (pL un.p) rfl LP.out) ?_
  (try simp only [Act.put, List.setIfInBounds_toArray, List.set_cons_zero, List.set_cons_succ])
  refine wpAnyH_read 19 (v := ?va114) rfl (by kernel_rfl) (by kernel_rfl) (by kernel_rfl) (fun _ _ _ h => h) hS (Or.inl ⟨by rfl, ?ya114⟩) ?ra114
  case ya114 =>
    intro w hSw
    obtain ⟨hc1, hc2⟩ := XC.out w hSw
    go_simp
    (try with_reducible rfl)
  (try simp only [Act.put, List.setIfInBounds_toArray, List.set_cons_zero, List.set_cons_succ])
  refine wpAnyH_read 20 rfl (by kernel_rfl) (by kernel_rfl) (by kernel_rfl) (fun _ _ _ h => h) hS (yields_load 27 _ (by rfl) rfl ⟨X + 1, 12, none⟩ (sL un.s) rfl LS.out) ?_
  (try simp only [Act.put, List.setIfInBounds_toArray, List.set_cons_zero, List.set_cons_succ])
  refine wpAnyH_call 10 rfl (by kernel_rfl) (fun J hJ => ?_)
  rw [if_pos (by rfl)]
  go_simp
  refine (PA.out _ hS T10.out.wr).mono ?_
  rintro e u11 ⟨rfl, sv9, hP9⟩
  have T11 := hid (T10.out.putW hP9)
  have s11 : Only [] w4 u11 := T11.out.only
  clear hP9
  refine hJ.out _ _ s11 ?_
  clear hJ J
  (try simp only [Act.put, List.setIfInBounds_toArray, List.set_cons_zero, List.set_cons_succ])
  refine wpAnyH_call 21 rfl (by kernel_rfl) (fun J hJ => ?_)
  rw [if_pos (by rfl)]
  go_simp
  refine (PB.out _ s11 T11.out.ref).mono ?_
  rintro e u12 ⟨rfl, tv9, hP9⟩
  have T12 := hid (T11.out.putR hP9)
  have s12 : Only [] w4 u12 := T12.out.only
  clear hP9
  refine hJ.out _ _ s12 ?_
  clear hJ J
  (try simp only [Act.put, List.setIfInBounds_toArray, List.set_cons_zero, List.set_cons_succ])
  refine wpAnyH_read 22 (v := ?va115) rfl (by kernel_rfl) (by kernel_rfl) (by kernel_rfl) (fun _ _ _ h => h) s12 (Or.inl ⟨by rfl, ?ya115⟩) ?ra115
  case ya115 =>
    intro w hSw
    obtain ⟨hc1, hc2⟩ := XC.out w hSw
    go_simp
    (try with_reducible rfl)
  (try simp only [Act.put, List.setIfInBounds_toArray, List.set_cons_zero, List.set_cons_succ])
  refine wpAnyH_read 23 (v := ?va116) rfl (by kernel_rfl) (by kernel_rfl) (by kernel_rfl) (fun _ _ _ h => h) s12 (Or.inl ⟨by rfl, ?ya116⟩) ?ra116
  case ya116 =>
    intro w hSw
    obtain ⟨hc1, hc2⟩ := XC.out w hSw
    go_simp
    (try with_reducible rfl)
  (try simp only [Act.put, List.setIfInBounds_toArray, List.set_cons_zero, List.set_cons_succ])
  refine wpAnyH_read 24 (v := ?va117) rfl (by kernel_rfl) (by kernel_rfl) (by kernel_rfl) (fun _ _ _ h => h) s12 (Or.inl ⟨by rfl, ?ya117⟩) ?ra117
  case ya117 =>
    intro w hSw
    obtain ⟨hc1, hc2⟩ := XC.out w hSw
    go_simp
    (try with_reducible rfl)
  (try simp only [Act.put, List.setIfInBounds_toArray, List.set_cons_zero, List.set_cons_succ])
  refine wpAnyH_read 26 (v := ?va118) rfl (by kernel_rfl) (by kernel_rfl) (by kernel_rfl) (fun _ _ _ h => h) s12 (Or.inl ⟨by rfl, ?ya118⟩) ?ra118
  case ya118 =>
    intro w hSw
    obtain ⟨hc1, hc2⟩ := XC.out w hSw
    go_simp
    (try with_reducible rfl)
  (try simp only [Act.put, List.setIfInBounds_toArray, List.set_cons_zero, List.set_cons_succ])
  refine wpAnyH_call 25 rfl (by kernel_rfl) (fun J hJ => ?_)
  rw [if_pos (by rfl)]
  go_simp
  refine (bits_any _ _ _ _ T12.out.wr).mono ?_
  rintro e u13 ⟨rfl, p13⟩
  have T13 := hid (T12.out.keep p13)
  have s13 : Only [] w4 u13 := T13.out.only
  refine hJ.out _ _ s13 ?_
  clear hJ J
  (try simp only [Act.put, List.setIfInBounds_toArray, List.set_cons_zero, List.set_cons_succ])
  refine wpAnyH_call 27 rfl (by kernel_rfl) (fun J hJ => ?_)
  rw [if_pos (by rfl)]
  go_simp
  refine (rbits_any _ _ _ _ T13.out.ref).mono ?_
  rintro e u14 ⟨rfl, p14⟩
  have s14 : Only [] w4 u14 := p14 ▸ T13.out.only
  refine hJ.out _ _ s14 ?_
  clear hJ J
  (try simp only [Act.put, List.setIfInBounds_toArray, List.set_cons_zero, List.set_cons_succ])
  refine wpAnyH_read 28 (v := ?va119) rfl (by kernel_rfl) (by kernel_rfl) (by kernel_rfl) (fun _ _ _ h => h) s14 (Or.inl ⟨by rfl, ?ya119⟩) ?ra119
  case ya119 =>
    intro w hSw
    obtain ⟨hc1, hc2⟩ := XC.out w hSw
    go_simp
    (try with_reducible rfl)
  (try simp only [Act.put, List.setIfInBounds_toArray, List.set_cons_zero, List.set_cons_succ])
  refine wpAnyH_read 29 (v := ?va120) rfl (by kernel_rfl) (by kernel_rfl) (by kernel_rfl) (fun _ _ _ h => h) s14 (Or.inl ⟨by rfl, ?ya120⟩) ?ra120
  case ya120 =>
    intro w hSw
    obtain ⟨hc1, hc2⟩ := XC.out w hSw
    go_simp
    (try with_reducible rfl)
  (try simp only [Act.put, List.setIfInBounds_toArray, List.set_cons_zero, List.set_cons_succ])
  refine wpAnyH_read 30 (v := ?va121) rfl (by kernel_rfl) (by kernel_rfl) (by kernel_rfl) (fun _ _ _ h => h) s14 (Or.inl ⟨by rfl, ?ya121⟩) ?ra121
  case ya121 =>
    intro w hSw
    obtain ⟨hc1, hc2⟩ := XC.out w hSw
    go_simp
    (try with_reducible rfl)
  (try simp only [Act.put, List.setIfInBounds_toArray, List.set_cons_zero, List.set_cons_succ])
  refine wpAnyH_read 31 rfl (by kernel_rfl) (by kernel_rfl) (by kernel_rfl) (fun _ _ _ h => h) s14 (yields_load 34 _ (by rfl) rfl ⟨K, 0, none⟩ (hC y (.slice m2a y.mods.length m2c) (.slice k2a y.marks.length k2c)) rfl LK.out) ?_
  (try simp only [Act.put, List.setIfInBounds_toArray, List.set_cons_zero, List.set_cons_succ])
  refine wpAnyH_read 32 rfl (by kernel_rfl) (by kernel_rfl) (by kernel_rfl) (fun _ _ _ h => h) s14 (yields_load 34 _ (by rfl) rfl ⟨X, 0, none⟩ (hC y (.slice m1a y.mods.length m1c) (.slice k1a y.marks.length k1c)) rfl LX.out) ?_
  (try simp only [Act.put, List.setIfInBounds_toArray, List.set_cons_zero, List.set_cons_succ])
  refine wpAnyH_call 33 rfl (by kernel_rfl) (fun J hJ => ?_)
  rw [if_pos (by rfl)]
  go_simp
  refine (EQ.out _ s14).mono ?_
  rintro e u15 ⟨rfl, p15⟩
  have s15 : Only [] w4 u15 := s14.trans p15
  refine hJ.out _ _ s15 ?_
  clear hJ J
  (try simp only [Act.put, List.setIfInBounds_toArray, List.set_cons_zero, List.set_cons_succ])
  refine wpAnyH_read 34 (v := ?va122) rfl (by kernel_rfl) (by kernel_rfl) (by kernel_rfl) (fun _ _ _ h => h) s15 (Or.inl ⟨by rfl, ?ya122⟩) ?ra122
  case ya122 =>
    intro w hSw
    obtain ⟨hc1, hc2⟩ := XC.out w hSw
    go_simp
    (try with_reducible rfl)
  (try simp only [Act.put, List.setIfInBounds_toArray, List.set_cons_zero, List.set_cons_succ])
  refine wpAnyH_read 35 (v := ?va123) rfl (by kernel_rfl) (by kernel_rfl) (by kernel_rfl) (fun _ _ _ h => h) s15 (Or.inl ⟨by rfl, ?ya123⟩) ?ra123
  case ya123 =>
    intro w hSw
    obtain ⟨hc1, hc2⟩ := XC.out w hSw
    go_simp
    (try with_reducible rfl)
  (try simp only [Act.put, List.setIfInBounds_toArray, List.set_cons_zero, List.set_cons_succ])
  refine wpAnyH_call 36 rfl (by kernel_rfl) (fun J hJ => ?_)
  rw [if_pos (by rfl)]
  go_simp
  refine (AW.out _ s15).mono ?_
  rintro e u16 ⟨rfl, p16⟩
  have s16 : Only [] w4 u16 := s15.trans p16
  refine hJ.out _ _ s16 ?_
  clear hJ J
  (try simp only [Act.put, List.setIfInBounds_toArray, List.set_cons_zero, List.set_cons_succ])
  refine wpAnyH_read 37 (v := ?va124) rfl (by kernel_rfl) (by kernel_rfl) (by kernel_rfl) (fun _ _ _ h => h) s16 (Or.inl ⟨by rfl, ?ya124⟩) ?ra124
  case ya124 =>
    intro w hSw
    obtain ⟨hc1, hc2⟩ := XC.out w hSw
    go_simp
    (try with_reducible rfl)
  (try simp only [Act.put, List.setIfInBounds_toArray, List.set_cons_zero, List.set_cons_succ])
  refine wpAnyH_read 38 (v := ?va125) rfl (by kernel_rfl) (by kernel_rfl) (by kernel_rfl) (fun _ _ _ h => h) s16 (Or.inl ⟨by rfl, ?ya125⟩) ?ra125
  case ya125 =>
    intro w hSw
    obtain ⟨hc1, hc2⟩ := XC.out w hSw
    go_simp
    (try with_reducible rfl)
  (try simp only [Act.put, List.setIfInBounds_toArray, List.set_cons_zero, List.set_cons_succ])
  refine wpAnyH_done (by kernel_rfl) ?_ _
  go_wp2_with fail
  go_ret
  exact ⟨rfl, O4.out.trans s16⟩
end Go.Proofs.YtjjjfmnhdnajkaaGreatDoor

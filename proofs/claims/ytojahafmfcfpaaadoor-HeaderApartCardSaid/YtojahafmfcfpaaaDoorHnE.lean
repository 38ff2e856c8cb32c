/- HeaderApart: the walk. -/
import Derived.Test.YtojahafmfcfpaaaDoorHnA
import Derived.Test.YtojahafmfcfpaaaDoorHlE
import Derived.Test.YtojahafmfcfpaaaDoorHlL
namespace Go.Proofs.YtojahafmfcfpaaaDoor
open Go.RowKit
set_option linter.unusedVariables false
set_option linter.unusedSimpArgs false

theorem blk4 (w : World) (ta tb tc td : TypeId) (a b c d : Array Value) :
    ∃ W, W = (((w.alloc (.cells a ta)).alloc (.cells b tb)).alloc (.cells c tc)).alloc (.cells d td) ∧ Blk W w.heap.size ta a ∧ Blk W (w.heap.size + 1) tb b ∧ Blk W (w.heap.size + 1 + 1) tc c ∧ Blk W (w.heap.size + 1 + 1 + 1) td d ∧ Only [] w W := by
  obtain ⟨V, hV, b1, b2, b3, o⟩ := blk3 w ta tb tc a b c
  have s3 : V.heap.size = w.heap.size + 1 + 1 + 1 := by rw [hV, World.size_alloc, World.size_alloc, World.size_alloc]
  have b4 := Blk.new V td d
  rw [s3] at b4
  subst hV
  exact ⟨_, rfl, b1.only ((Only.refl [] _).alloc _) (by simp), b2.only ((Only.refl [] _).alloc _) (by simp), b3.only ((Only.refl [] _).alloc _) (by simp), b4, o.alloc _⟩
set_option maxRecDepth 100000 in
set_option maxHeartbeats 16000000 in
theorem hapart_any (x x2 : HV) (un : UN) (n : N8) (mv kv mw kw : Value) (w : World) (hVr : Vars w) (h1 : HoldsM w mv x.mods) (h2 : HoldsM w kv x.marks) (h3 : HoldsM w mw x2.mods) (h4 : HoldsM w kw x2.marks) (o1 : OksM x.mods) (o2 : OksM x.marks) (o3 : OksM x2.mods) (o4 : OksM x2.marks) (r0 : 0 ≤ un.ref) :
    Calls Tryd.prog 3 #[hV x mv kv, hV x2 mw kw, uV un, nV n] w fun e w' => e = .returned (.bool true) ∧ Only [] w w' := by
  obtain ⟨ma, mc, hmv⟩ := holdsM_slice h1
  obtain ⟨ka, kc, hkv⟩ := holdsM_slice h2
  obtain ⟨mb, md, hmw⟩ := holdsM_slice h3
  obtain ⟨kb, kd, hkw⟩ := holdsM_slice h4
  subst hmv hkv hmw hkw
  obtain ⟨W, hW, bX, bY, bU, bN, oW⟩ := blk4 w 25 25 31 32 (hC x (.slice ma x.mods.length mc) (.slice ka x.marks.length kc)).toArray (hC x2 (.slice mb x2.mods.length md) (.slice kb x2.marks.length kd)).toArray (uL un).toArray (nL n).toArray
  obtain ⟨X, hX⟩ : ∃ X, X = w.heap.size := ⟨_, rfl⟩
  rw [← hX] at bX bY bU bN
  have BX := hid bX
  have BY := hid bY
  have BU := hid bU
  have BN := hid bN
  have OW := hid oW
  have VV := hid (hVr.only0 oW)
  have VL := hid (fun m => hVr.lt m)
  have HX0 := hid (And.intro (h1.only0 oW) (h2.only0 oW))
  have HY0 := hid (And.intro (h3.only0 oW) (h4.only0 oW))
  have g0 : ∀ l v k c, HoldsM w (.slice v k c) l → ∀ ad nn d, (Value.slice v k c) = .slice (some ad) nn d → l ≠ [] → ad.block < X := fun l v k c h ad nn d e hl => by cases e; have := HoldsM.lt h hl; omega
  have LT := hid (And.intro (g0 _ _ _ _ h3) (g0 _ _ _ _ h4))
  have XW := hid (show w.heap.size ≤ X ∧ X + 1 + 1 + 1 < W.heap.size from ⟨by omega, bN.lt⟩)
  have MX := hid (fun w' (a : HoldsM w' (.slice ma x.mods.length mc) x.mods) (b : HoldsM w' (.slice ka x.marks.length kc) x.marks) => made_any x un n (.slice ma x.mods.length mc) (.slice ka x.marks.length kc) w' a b o1 o2 r0)
  have MY := hid (fun w' (a : HoldsM w' (.slice mb x2.mods.length md) x2.mods) (b : HoldsM w' (.slice kb x2.marks.length kd) x2.marks) => made_any x2 un n (.slice mb x2.mods.length md) (.slice kb x2.marks.length kd) w' a b o3 o4 r0)
  have KX := mok_made un n x r0
  have KY := mok_made un n x2 r0
  obtain ⟨um, hum⟩ : ∃ u, u = madeU un n (bytesN n) := ⟨_, rfl⟩
  rw [← hum] at MX MY KX KY
  obtain ⟨y, hy⟩ : ∃ y, y = madeH um x := ⟨_, rfl⟩
  rw [← hy] at MX KX
  obtain ⟨z, hz⟩ : ∃ z, z = madeH um x2 := ⟨_, rfl⟩
  rw [← hz] at MY KY
  have KX := hid KX
  have KY := hid KY
  clear h1 h2 h3 h4 o1 o2 o3 o4 r0 bX bY bU bN oW hVr hum hy hz g0
  simp only [hV, uV, nV, hC, uL, pL, sL, nL, List.cons_append, List.nil_append] at hW ⊢
  go_enter Tryd.func3, Tryd.ntmps3
  go_upto_region 1 with (fail)
  rw [← hW, ← hX]
  clear hW hX
  go_wp2_with (first
    | (refine load_atA rfl 25 _ rfl ⟨X, 0, none⟩ (hC x (.slice ma x.mods.length mc) (.slice ka x.marks.length kc)) rfl (ho_hdrB BX.out) ?_)
    | (refine load_atA rfl 31 _ rfl ⟨X + 1 + 1, 0, none⟩ (uL un) rfl (ho_unitB BU.out) ?_)
    | (refine load_atA rfl 32 _ rfl ⟨X + 1 + 1 + 1, 0, none⟩ (nL n) rfl (hl_n8 _ _ _ (fun j v hj => BN.out.cell (by simpa using hj))) ?_))
  refine (MX.out W HX0.out.1 HX0.out.2).mono ?_
  rintro e w1 ⟨mv', kv', rfl, hm, hk, o1, f1⟩
  obtain ⟨ma', mc', e1⟩ := holdsM_slice hm
  obtain ⟨ka', kc', e2⟩ := holdsM_slice hk
  subst e1 e2
  have BX1 := hid (BX.out.only o1 (by simp))
  go_upto_region 2 with (refine store_blk rfl 25 _ _ rfl X 0 _ _ (hC y (.slice ma' y.mods.length mc') (.slice ka' y.marks.length kc')) rfl rfl (info_hdr' _ _ _) BX1.out (by simp [hC]) (one_hC _ rfl rfl) ?_; intro w2 hB2 hO2; rw [setsA_h] at hB2)
  have oX : Only [X] W w2 := (o1.mono (by simp)).trans hO2
  have BX2 := hid hB2
  have BY2 := hid (BY.out.only oX (by simp))
  have BU2 := hid (BU.out.only oX (by simp; omega))
  have BN2 := hid (BN.out.only oX (by simp; omega))
  have HX2 := hid (show HoldsM w2 (.slice ma' y.mods.length mc') y.mods ∧ HoldsM w2 (.slice ka' y.marks.length kc') y.marks from
    ⟨hm.only2 hO2 (fun ad nn c e hl hm => by have := f1 ad.block (.inl (by cases e; simp [ownOf, Value.ownBlock])); have := XW.out; simp at hm; omega), hk.only2 hO2 (fun ad nn c e hl hm => by have := f1 ad.block (.inr (by cases e; simp [ownOf, Value.ownBlock])); have := XW.out; simp at hm; omega)⟩)
  have FX := hid (show ∀ g, g ∈ ownOf (.slice ma' y.mods.length mc') ∨ g ∈ ownOf (.slice ka' y.marks.length kc') → X + 1 + 1 + 1 < g from fun g hg => by have := f1 g hg; have := XW.out; omega)
  have HY2 := hid (show HoldsM w2 (.slice mb x2.mods.length md) x2.mods ∧ HoldsM w2 (.slice kb x2.marks.length kd) x2.marks from ⟨HY0.out.1.only2 oX (fun ad nn c e hl hm => by have := LT.out.1 ad nn c e hl; simp at hm; omega), HY0.out.2.only2 oX (fun ad nn c e hl hm => by have := LT.out.2 ad nn c e hl; simp at hm; omega)⟩)
  have O2 := hid (show Only [] w w2 from OW.out.trans2 oX (fun y hy => .inr (by have := XW.out; simp at hy; omega)))
  have S2 := hid (show W.heap.size ≤ w2.heap.size from oX.size)
  have V2 := hid (VV.out.only oX (fun m hm => by have := VL.out m; have := XW.out; simp at hm; omega))
  clear hm hk o1 f1 hB2 hO2 oX MX BX BY BU BN BX1 HX0 HY0 OW VV LT
  go_wp2_with (first
    | (refine load_atA rfl 25 _ rfl ⟨X + 1, 0, none⟩ (hC x2 (.slice mb x2.mods.length md) (.slice kb x2.marks.length kd)) rfl (ho_hdrB BY2.out) ?_)
    | (refine load_atA rfl 31 _ rfl ⟨X + 1 + 1, 0, none⟩ (uL un) rfl (ho_unitB BU2.out) ?_)
    | (refine load_atA rfl 32 _ rfl ⟨X + 1 + 1 + 1, 0, none⟩ (nL n) rfl (hl_n8 _ _ _ (fun j v hj => BN2.out.cell (by simpa using hj))) ?_))
  refine (MY.out w2 HY2.out.1 HY2.out.2).mono ?_
  rintro e w3 ⟨mw', kw', rfl, hm, hk, o3, f3⟩
  obtain ⟨mb', md', e1⟩ := holdsM_slice hm
  obtain ⟨kb', kd', e2⟩ := holdsM_slice hk
  subst e1 e2
  have BY3 := hid (BY2.out.only o3 (by simp))
  have BU3 := hid (BU2.out.only o3 (by simp))
  go_upto_region 3 with (first
    | (refine store_blk rfl 25 _ _ rfl (X + 1) 0 _ _ (hC z (.slice mb' z.mods.length md') (.slice kb' z.marks.length kd')) rfl rfl (info_hdr' _ _ _) BY3.out (by simp [hC]) (one_hC _ rfl rfl) ?_; intro w4 hB4 hO4; rw [setsA_h] at hB4)
    | (refine store_blk rfl 31 _ _ rfl (X + 1 + 1) 0 _ _ (uL um) rfl rfl (info_unit _) (BU3.out.only hO4 (by simp)) (by simp [uL, pL, sL]) (one_uL _) ?_; intro w5 hB5 hO5; rw [setsU_all] at hB5))
  have o5 : Only [X + 1, X + 1 + 1] w3 w5 := (hO4.mono (by intro y _ hy; simp at hy ⊢; exact .inl hy)).trans (hO5.mono (by intro y _ hy; simp at hy ⊢; exact .inr hy))
  have oY : Only [X + 1, X + 1 + 1] w2 w5 := (o3.mono (by simp)).trans o5
  have BX5 := hid (BX2.out.only oY (by simp; omega))
  have BY5 := hid (hB4.only hO5 (by simp))
  have BU5 := hid hB5
  have HX5 := hid (show HoldsM w5 (.slice ma' y.mods.length mc') y.mods ∧ HoldsM w5 (.slice ka' y.marks.length kc') y.marks from
    ⟨HX2.out.1.only2 oY (fun ad nn c e hl hm => by have := FX.out ad.block (.inl (by cases e; simp [ownOf, Value.ownBlock])); simp at hm; omega), HX2.out.2.only2 oY (fun ad nn c e hl hm => by have := FX.out ad.block (.inr (by cases e; simp [ownOf, Value.ownBlock])); simp at hm; omega)⟩)
  have HY5 := hid (show HoldsM w5 (.slice mb' z.mods.length md') z.mods ∧ HoldsM w5 (.slice kb' z.marks.length kd') z.marks from
    ⟨hm.only2 o5 (fun ad nn c e hl hm => by have := f3 ad.block (.inl (by cases e; simp [ownOf, Value.ownBlock])); have := S2.out; have := XW.out; simp at hm; omega), hk.only2 o5 (fun ad nn c e hl hm => by have := f3 ad.block (.inr (by cases e; simp [ownOf, Value.ownBlock])); have := S2.out; have := XW.out; simp at hm; omega)⟩)
  have O5 := hid (show Only [] w w5 from O2.out.trans2 oY (fun y hy => .inr (by have := XW.out; simp at hy; omega)))
  have V5 := hid (V2.out.only oY (fun m hm => by have := VL.out m; have := XW.out; simp at hm; omega))
  clear hm hk o3 f3 hB4 hB5 hO4 hO5 o5 oY MY BX2 BY2 BU2 BN2 BY3 BU3 HX2 HY2 O2 V2 S2 FX
  have B1 := hid (fun w' (o : Only [] w5 w') => hbits_any y um _ _ w' (V5.out.only0 o) (HX5.out.1.only0 o) (HX5.out.2.only0 o) KX.out.om KX.out.ok KX.out.r0)
  have B2 := hid (fun w' (o : Only [] w5 w') => hbits_any z um _ _ w' (V5.out.only0 o) (HY5.out.1.only0 o) (HY5.out.2.only0 o) KY.out.om KY.out.ok KX.out.r0)
  rw [hBits_ok KX.out.ck] at B1
  rw [hBits_ok KY.out.ck] at B2
  obtain ⟨S, hS⟩ : ∃ S, S = chars (bitsH um y) := ⟨_, rfl⟩
  obtain ⟨T, hT⟩ : ∃ T, T = chars (bitsH um z) := ⟨_, rfl⟩
  rw [← hS] at B1
  rw [← hT] at B2
  obtain ⟨k, hk⟩ : ∃ k, k = min S.size T.size := ⟨_, rfl⟩
  obtain ⟨bq, hbq⟩ : ∃ b, b = decide (y = z) := ⟨_, rfl⟩
  have EB := hid (show ((S.extract 0 k).toList == (T.extract 0 k).toList) = bq from by
    have := apart_eq KX.out.ck KY.out.ck k (by rw [hk, hS, hT, size_chars, size_chars])
    refine beq_toListB ?_
    rw [hbq, decide_eq_true_iff, hS, hT, chars_extract, chars_extract, List.drop_zero, List.drop_zero, ← this]
    exact ⟨fun h => by rw [h], fun h => chars_inj h⟩)
  have k0 : (0 : Int) < (k : Int) := by
    have a := bits_pos (un := um) y
    have b := bits_pos (un := um) z
    rw [hk, hS, hT, size_chars, size_chars]; omega
  have kS : (k : Int) ≤ (S.size : Int) := by omega
  have kT : (k : Int) ≤ (T.size : Int) := by omega
  have kI : min (S.size : Int) (T.size : Int) = (k : Int) := by omega
  have EQ := hid (fun w' (o : Only [] w5 w') => eqh_dec y z _ _ _ _ w' (HX5.out.1.only0 o) (HX5.out.2.only0 o) (HY5.out.1.only0 o) (HY5.out.2.only0 o) (by have := KX.out.l1; omega) (by have := KX.out.l2; omega) (by have := KY.out.l1; omega) (by have := KY.out.l2; omega))
  rw [← hbq] at EQ
  clear hS hT hk hbq
  go_frame
  go_cut [9, 10] from 26 to 31 (fun s9 s10 wx => s9 = .string S ∧ s10 = .string T ∧ Only [] w5 wx)
  case first =>
    have LX := hid (fun w (h : Only [] w5 w) => hl_hdr X y _ _ w (fun j v hj => (BX5.out.only h (by simp)).cell (by simpa using hj)))
    have LY := hid (fun w (h : Only [] w5 w) => hl_hdr (X + 1) z _ _ w (fun j v hj => (BY5.out.only h (by simp)).cell (by simpa using hj)))
    have LU := hid (fun w (h : Only [] w5 w) => hl_unit (X + 1 + 1) um w (fun j v hj => (BU5.out.only h (by simp)).cell (by simpa using hj)))
    refine wp_region_heldH (fun w' => Only [] w5 w') 8 (by kernel_rfl) rfl (Only.refl [] w5).drew (fun hS => ?_)
    generalize w5.drew = wd at *
    refine wpAnyH_read 0 rfl (by kernel_rfl) (by kernel_rfl) (by kernel_rfl) (fun _ _ _ h => h) hS (yields_load 25 _ (by rfl) rfl ⟨X, 0, none⟩ (hC y (.slice ma' y.mods.length mc') (.slice ka' y.marks.length kc')) rfl LX.out) ?_
    (try simp only [Act.put, List.setIfInBounds_toArray, List.set_cons_zero, List.set_cons_succ])
    refine wpAnyH_read 1 rfl (by kernel_rfl) (by kernel_rfl) (by kernel_rfl) (fun _ _ _ h => h) hS (yields_load 31 _ (by rfl) rfl ⟨X + 1 + 1, 0, none⟩ (uL um) rfl LU.out) ?_
    (try simp only [Act.put, List.setIfInBounds_toArray, List.set_cons_zero, List.set_cons_succ])
    refine wpAnyH_read 3 rfl (by kernel_rfl) (by kernel_rfl) (by kernel_rfl) (fun _ _ _ h => h) hS (yields_load 25 _ (by rfl) rfl ⟨X + 1, 0, none⟩ (hC z (.slice mb' z.mods.length md') (.slice kb' z.marks.length kd')) rfl LY.out) ?_
    (try simp only [Act.put, List.setIfInBounds_toArray, List.set_cons_zero, List.set_cons_succ])
    refine wpAnyH_read 4 rfl (by kernel_rfl) (by kernel_rfl) (by kernel_rfl) (fun _ _ _ h => h) hS (yields_load 31 _ (by rfl) rfl ⟨X + 1 + 1, 0, none⟩ (uL um) rfl LU.out) ?_
    (try simp only [Act.put, List.setIfInBounds_toArray, List.set_cons_zero, List.set_cons_succ])
    refine wpAnyH_call 2 rfl (by kernel_rfl) (fun J hJ => ?_)
    rw [if_pos (by rfl)]
    go_simp
    refine (B1.out _ hS).mono ?_
    rintro e y1 ⟨rfl, p_⟩
    have s1 := hS.trans p_
    clear p_
    refine hJ.out _ _ s1 ?_
    clear hJ J
    (try simp only [Act.put, List.setIfInBounds_toArray, List.set_cons_zero, List.set_cons_succ])
    refine wpAnyH_call 5 rfl (by kernel_rfl) (fun J hJ => ?_)
    rw [if_pos (by rfl)]
    go_simp
    refine (B2.out _ s1).mono ?_
    rintro e y2 ⟨rfl, p_⟩
    have s2 := s1.trans p_
    clear p_
    refine hJ.out _ _ s2 ?_
    clear hJ J
    (try simp only [Act.put, List.setIfInBounds_toArray, List.set_cons_zero, List.set_cons_succ])
    refine wpAnyH_read 6 (v := ?va1) rfl (by kernel_rfl) (by kernel_rfl) (by kernel_rfl) (fun _ _ _ h => h) s2 (Or.inl ⟨by rfl, ?ya1⟩) ?ra1
    case ya1 =>
      intro w hSw
      skip
      go_simp
      (try with_reducible rfl)
    (try simp only [Act.put, List.setIfInBounds_toArray, List.set_cons_zero, List.set_cons_succ])
    refine wpAnyH_read 7 (v := ?va2) rfl (by kernel_rfl) (by kernel_rfl) (by kernel_rfl) (fun _ _ _ h => h) s2 (Or.inl ⟨by rfl, ?ya2⟩) ?ra2
    case ya2 =>
      intro w hSw
      skip
      go_simp
      (try with_reducible rfl)
    (try simp only [Act.put, List.setIfInBounds_toArray, List.set_cons_zero, List.set_cons_succ])
    refine wpAnyH_done (by kernel_rfl) ?_ _
    go_wp2_with fail
    go_meet
    exact ⟨rfl, rfl, s2⟩
  case rest =>
  obtain ⟨rfl, rfl, hO⟩ := hcut
  have O6 := hid hO
  have AW := hid (fun w' (o : Only [] w5 w') => hawake_any w' (V5.out.only0 o))
  clear hO B1 B2
  go_upto_region 5 with (fail)
  have e1 := EB.out
  obtain ⟨SS, hSS⟩ : ∃ s, s = S.extract 0 k := ⟨_, rfl⟩
  obtain ⟨TT, hTT⟩ : ∃ s, s = T.extract 0 k := ⟨_, rfl⟩
  have f1 : S.extract 0 k = SS := hSS.symm
  have f2 : T.extract 0 k = TT := hTT.symm
  rw [f1, f2] at e1
  clear hSS hTT kI
  have kd1 : decide ((0 : Int) < (k : Int)) = true := decide_eq_true k0
  have k1 : 0 < k := by omega
  have kd2 : decide (0 < k) = true := decide_eq_true k1
  have LX := hid (fun w (h : Only [] w5 w) => hl_hdr X y _ _ w (fun j v hj => (BX5.out.only h (by simp)).cell (by simpa using hj)))
  have LY := hid (fun w (h : Only [] w5 w) => hl_hdr (X + 1) z _ _ w (fun j v hj => (BY5.out.only h (by simp)).cell (by simpa using hj)))
  have LU := hid (fun w (h : Only [] w5 w) => hl_unit (X + 1 + 1) um w (fun j v hj => (BU5.out.only h (by simp)).cell (by simpa using hj)))
  refine wp_region_heldH (fun w' => Only [] w5 w') 19 (by kernel_rfl) rfl O6.out.drew (fun hS => ?_)
  generalize World.drew _ = wd at *
  refine wpAnyH_read 0 (v := ?va201) rfl (by kernel_rfl) (by kernel_rfl) (by kernel_rfl) (fun _ _ _ h => h) hS (Or.inl ⟨by rfl, ?ya201⟩) ?ra201
  case ya201 =>
    intro w hSw
    skip
    go_simp
    (try with_reducible rfl)
  (try simp only [Act.put, List.setIfInBounds_toArray, List.set_cons_zero, List.set_cons_succ])
  refine wpAnyH_read 1 (v := ?va202) rfl (by kernel_rfl) (by kernel_rfl) (by kernel_rfl) (fun _ _ _ h => h) hS (Or.inl ⟨by rfl, ?ya202⟩) ?ra202
  case ya202 =>
    intro w hSw
    skip
    go_simp
    (try with_reducible rfl)
  (try simp only [Act.put, List.setIfInBounds_toArray, List.set_cons_zero, List.set_cons_succ])
  refine wpAnyH_read 2 (v := ?va203) rfl (by kernel_rfl) (by kernel_rfl) (by kernel_rfl) (fun _ _ _ h => h) hS (Or.inl ⟨by rfl, ?ya203⟩) ?ra203
  case ya203 =>
    intro w hSw
    skip
    go_simp
    (try with_reducible rfl)
  (try simp only [Act.put, List.setIfInBounds_toArray, List.set_cons_zero, List.set_cons_succ])
  refine wpAnyH_read 3 (v := ?va204) rfl (by kernel_rfl) (by kernel_rfl) (by kernel_rfl) (fun _ _ _ h => h) hS (Or.inl ⟨by rfl, ?ya204⟩) ?ra204
  case ya204 =>
    intro w hSw
    skip
    go_simp
    (try with_reducible rfl)
  (try simp only [Act.put, List.setIfInBounds_toArray, List.set_cons_zero, List.set_cons_succ])
  refine wpAnyH_read 4 (v := ?va205) rfl (by kernel_rfl) (by kernel_rfl) (by kernel_rfl) (fun _ _ _ h => h) hS (Or.inl ⟨by rfl, ?ya205⟩) ?ra205
  case ya205 =>
    intro w hSw
    skip
    go_simp
    (try with_reducible rfl)
  (try simp only [Act.put, List.setIfInBounds_toArray, List.set_cons_zero, List.set_cons_succ])
  refine wpAnyH_read 5 (v := ?va206) rfl (by kernel_rfl) (by kernel_rfl) (by kernel_rfl) (fun _ _ _ h => h) hS (Or.inl ⟨by rfl, ?ya206⟩) ?ra206
  case ya206 =>
    intro w hSw
    skip
    go_simp
    (try with_reducible rfl)
  (try simp only [Act.put, List.setIfInBounds_toArray, List.set_cons_zero, List.set_cons_succ])
  refine wpAnyH_read 6 (v := ?va207) rfl (by kernel_rfl) (by kernel_rfl) (by kernel_rfl) (fun _ _ _ h => h) hS (Or.inl ⟨by rfl, ?ya207⟩) ?ra207
  case ya207 =>
    intro w hSw
    skip
    go_simp
    (try with_reducible rfl)
  (try simp only [Act.put, List.setIfInBounds_toArray, List.set_cons_zero, List.set_cons_succ])
  refine wpAnyH_read 7 (v := ?va208) rfl (by kernel_rfl) (by kernel_rfl) (by kernel_rfl) (fun _ _ _ h => h) hS (Or.inl ⟨by rfl, ?ya208⟩) ?ra208
  case ya208 =>
    intro w hSw
    skip
    go_simp
    (try with_reducible rfl)
  (try simp only [Act.put, List.setIfInBounds_toArray, List.set_cons_zero, List.set_cons_succ])
  refine wpAnyH_read 8 (v := ?va209) rfl (by kernel_rfl) (by kernel_rfl) (by kernel_rfl) (fun _ _ _ h => h) hS (Or.inl ⟨by rfl, ?ya209⟩) ?ra209
  case ya209 =>
    intro w hSw
    skip
    go_simp
    (try with_reducible rfl)
  (try simp only [Act.put, List.setIfInBounds_toArray, List.set_cons_zero, List.set_cons_succ])
  refine wpAnyH_read 9 (v := ?va210) rfl (by kernel_rfl) (by kernel_rfl) (by kernel_rfl) (fun _ _ _ h => h) hS (Or.inl ⟨by rfl, ?ya210⟩) ?ra210
  case ya210 =>
    intro w hSw
    skip
    go_simp
    (try with_reducible rfl)
  (try simp only [Act.put, List.setIfInBounds_toArray, List.set_cons_zero, List.set_cons_succ])
  refine wpAnyH_read 10 rfl (by kernel_rfl) (by kernel_rfl) (by kernel_rfl) (fun _ _ _ h => h) hS (yields_load 25 _ (by rfl) rfl ⟨X, 0, none⟩ (hC y (.slice ma' y.mods.length mc') (.slice ka' y.marks.length kc')) rfl LX.out) ?_
  (try simp only [Act.put, List.setIfInBounds_toArray, List.set_cons_zero, List.set_cons_succ])
  refine wpAnyH_read 11 rfl (by kernel_rfl) (by kernel_rfl) (by kernel_rfl) (fun _ _ _ h => h) hS (yields_load 25 _ (by rfl) rfl ⟨X + 1, 0, none⟩ (hC z (.slice mb' z.mods.length md') (.slice kb' z.marks.length kd')) rfl LY.out) ?_
  (try simp only [Act.put, List.setIfInBounds_toArray, List.set_cons_zero, List.set_cons_succ])
  refine wpAnyH_call 12 rfl (by kernel_rfl) (fun J hJ => ?_)
  rw [if_pos (by rfl)]
  go_simp
  refine (EQ.out _ hS).mono ?_
  rintro e z1 ⟨rfl, p_⟩
  have t1 := hS.trans p_
  clear p_
  refine hJ.out _ _ t1 ?_
  clear hJ J
  (try simp only [Act.put, List.setIfInBounds_toArray, List.set_cons_zero, List.set_cons_succ])
  refine wpAnyH_read 13 (v := ?va211) rfl (by kernel_rfl) (by kernel_rfl) (by kernel_rfl) (fun _ _ _ h => h) t1 (Or.inl ⟨by rfl, ?ya211⟩) ?ra211
  case ya211 =>
    intro w hSw
    skip
    go_simp
    (try with_reducible rfl)
  (try simp only [Act.put, List.setIfInBounds_toArray, List.set_cons_zero, List.set_cons_succ])
  refine wpAnyH_read 14 (v := ?va212) rfl (by kernel_rfl) (by kernel_rfl) (by kernel_rfl) (fun _ _ _ h => h) t1 (Or.inl ⟨by rfl, ?ya212⟩) ?ra212
  case ya212 =>
    intro w hSw
    skip
    go_simp
    (try with_reducible rfl)
  (try simp only [Act.put, List.setIfInBounds_toArray, List.set_cons_zero, List.set_cons_succ])
  refine wpAnyH_read 15 (v := ?va213) rfl (by kernel_rfl) (by kernel_rfl) (by kernel_rfl) (fun _ _ _ h => h) t1 (Or.inl ⟨by rfl, ?ya213⟩) ?ra213
  case ya213 =>
    intro w hSw
    skip
    go_simp
    (try with_reducible rfl)
  (try simp only [Act.put, List.setIfInBounds_toArray, List.set_cons_zero, List.set_cons_succ])
  refine wpAnyH_call 16 rfl (by kernel_rfl) (fun J hJ => ?_)
  rw [if_pos (by rfl)]
  go_simp
  refine (AW.out _ t1).mono ?_
  rintro e z3 ⟨rfl, p_⟩
  have z2 := t1.trans p_
  clear p_
  refine hJ.out _ _ z2 ?_
  clear hJ J
  (try simp only [Act.put, List.setIfInBounds_toArray, List.set_cons_zero, List.set_cons_succ])
  refine wpAnyH_read 17 (v := ?va214) rfl (by kernel_rfl) (by kernel_rfl) (by kernel_rfl) (fun _ _ _ h => h) z2 (Or.inl ⟨by rfl, ?ya214⟩) ?ra214
  case ya214 =>
    intro w hSw
    skip
    go_simp
    (try with_reducible rfl)
  (try simp only [Act.put, List.setIfInBounds_toArray, List.set_cons_zero, List.set_cons_succ])
  refine wpAnyH_read 18 (v := ?va215) rfl (by kernel_rfl) (by kernel_rfl) (by kernel_rfl) (fun _ _ _ h => h) z2 (Or.inl ⟨by rfl, ?ya215⟩) ?ra215
  case ya215 =>
    intro w hSw
    skip
    go_simp
    (try with_reducible rfl)
  (try simp only [Act.put, List.setIfInBounds_toArray, List.set_cons_zero, List.set_cons_succ])
  refine wpAnyH_done (by kernel_rfl) ?_ _
  go_wp2_with fail
  go_ret
  exact ⟨rfl, O5.out.trans z2⟩
end Go.Proofs.YtojahafmfcfpaaaDoor

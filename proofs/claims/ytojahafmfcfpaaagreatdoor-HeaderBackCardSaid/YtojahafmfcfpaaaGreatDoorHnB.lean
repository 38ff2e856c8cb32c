/- HeaderBack: the walk. -/
import Derived.Test.YtojahafmfcfpaaaGreatDoorHnS
import Derived.Test.YtojahafmfcfpaaaGreatDoorMg22
import Derived.Test.YtojahafmfcfpaaaGreatDoorMg15
import Derived.Test.YtojahafmfcfpaaaGreatDoorHlE
namespace Go.Proofs.YtojahafmfcfpaaaGreatDoor
open Go.RowKit
set_option linter.unusedVariables false
set_option linter.unusedSimpArgs false

set_option maxRecDepth 100000 in
set_option maxHeartbeats 16000000 in
theorem hback_any (x : HV) (un : UN) (n : N8) (mv kv : Value) (aft : ByteArray) (w : World) (hVr : Vars w) (h1 : HoldsM w mv x.mods) (h2 : HoldsM w kv x.marks) (o1 : OksM x.mods) (o2 : OksM x.marks) (r0 : 0 ≤ un.ref) (hs : aft.size ≤ maxLen) :
    Calls Tryz.prog 6 #[hV x mv kv, uV un, nV n, .string aft] w fun e w' => e = .returned (.bool true) ∧ Only [] w w' := by
  obtain ⟨ma, mc, hmv⟩ := holdsM_slice h1
  obtain ⟨ka, kc, hkv⟩ := holdsM_slice h2
  subst hmv hkv
  obtain ⟨W, hW, bX, bU, bN, oW⟩ := blk3 w 25 31 75 (hC x (.slice ma x.mods.length mc) (.slice ka x.marks.length kc)).toArray (uL un).toArray (nL n).toArray
  obtain ⟨X, hX⟩ : ∃ X, X = w.heap.size := ⟨_, rfl⟩
  rw [← hX] at bX bU bN
  have BX := hid bX
  have BU := hid bU
  have BN := hid bN
  have OW := hid oW
  have VV := hid (hVr.only0 oW)
  have VL := hid (fun m => hVr.lt m)
  have XW := hid (show w.heap.size ≤ X ∧ X + 1 + 1 < W.heap.size ∧ X < W.heap.size from ⟨by omega, bN.lt, bX.lt⟩)
  have MA := hid (made_any x un n (.slice ma x.mods.length mc) (.slice ka x.marks.length kc) W (h1.only0 oW) (h2.only0 oW) o1 o2 r0)
  have MK := mok_made un n x r0
  obtain ⟨um, hum⟩ : ∃ u, u = madeU un n (bytesN n) := ⟨_, rfl⟩
  rw [← hum] at MA MK
  obtain ⟨y, hy⟩ : ∃ y, y = madeH um x := ⟨_, rfl⟩
  rw [← hy] at MA MK
  have MK := hid MK
  obtain ⟨kk, hk⟩ : ∃ n, n = min aft.size 20 := ⟨_, rfl⟩
  have hkI : min (aft.size : Int) 20 = (kk : Int) := by omega
  have hk1 : (kk : Int) ≤ (aft.size : Int) := by omega
  have hk0 : (0 : Int) ≤ (kk : Int) := by omega
  have hb : (aft.size : Int) ≤ 9223372036854775807 := by unfold maxLen at hs; omega
  have KK := hid (show kk ≤ 20 ∧ kk ≤ aft.size by omega)
  obtain ⟨tt, ht⟩ : ∃ t, t = aft.extract 0 kk := ⟨_, rfl⟩
  have ht' : aft.extract 0 kk = tt := ht.symm
  have TS := hid (show tt.size ≤ 20 from by rw [ht, ByteArray.size_extract]; omega)
  clear h1 h2 o1 o2 r0 bX bU bN oW hVr hs hk hum hy ht
  simp only [hV, uV, nV, hC, uL, pL, sL, nL, List.cons_append, List.nil_append] at hW ⊢
  go_enter Tryz.func6, Tryz.ntmps6
  go_upto_region 1 with (fail)
  rw [← hW, ← hX]
  clear hW hX
  go_wp2_with (first
    | (refine load_atA rfl 25 _ rfl ⟨X, 0, none⟩ (hC x (.slice ma x.mods.length mc) (.slice ka x.marks.length kc)) rfl (ho_hdrB BX.out) ?_)
    | (refine load_atA rfl 31 _ rfl ⟨X + 1, 0, none⟩ (uL un) rfl (ho_unitB BU.out) ?_)
    | (refine load_atA rfl 75 _ rfl ⟨X + 1 + 1, 0, none⟩ (nL n) rfl (hl_n8 _ _ _ (fun j v hj => BN.out.cell (by simpa using hj))) ?_))
  refine MA.out.mono ?_
  rintro e w1 ⟨mv', kv', rfl, hm, hk, o1, f1⟩
  obtain ⟨ma', mc', e1⟩ := holdsM_slice hm
  obtain ⟨ka', kc', e2⟩ := holdsM_slice hk
  subst e1 e2
  have BX1 := hid (BX.out.only o1 (by simp))
  have BU1 := hid (BU.out.only o1 (by simp))
  have F1 := hid f1
  have HM := hid (And.intro hm hk)
  have O1 := hid o1
  clear hm hk o1 f1 MA BX BU BN
  go_upto_region 2 with (first
    | (refine store_blk rfl 25 _ _ rfl X 0 _ _ (hC y (.slice ma' y.mods.length mc') (.slice ka' y.marks.length kc')) rfl rfl (info_hdr' _ _ _) BX1.out (by simp [hC]) (one_hC _ rfl rfl) ?_; intro w2 hB2 hO2; rw [setsA_h] at hB2)
    | (refine store_blk rfl 31 _ _ rfl (X + 1) 0 _ _ (uL um) rfl rfl (info_unit _) (BU1.out.only hO2 (by simp)) (by simp [uL, pL, sL]) (one_uL _) ?_; intro w3 hB3 hO3; rw [setsU_all] at hB3))
  have o3 : Only [X, X + 1] w1 w3 := (hO2.mono (by intro y _ hy; simp at hy ⊢; exact .inl hy)).trans (hO3.mono (by intro y _ hy; simp at hy ⊢; exact .inr hy))
  have g3 : ∀ g, g ∈ ownOf (.slice ma' y.mods.length mc') ∨ g ∈ ownOf (.slice ka' y.marks.length kc') → g ∉ [X, X + 1] := fun g hg hm => by
    have := F1.out g hg; have := XW.out; simp at hm; omega
  have HM3 := hid (show HoldsM w3 (.slice ma' y.mods.length mc') y.mods ∧ HoldsM w3 (.slice ka' y.marks.length kc') y.marks from ⟨HM.out.1.only2 o3 (fun ad n c e hl hm => g3 _ (.inl (by cases e; simp [ownOf, Value.ownBlock])) hm), HM.out.2.only2 o3 (fun ad n c e hl hm => g3 _ (.inr (by cases e; simp [ownOf, Value.ownBlock])) hm)⟩)
  have BX3 := hid (hB2.only hO3 (by simp))
  have BU3 := hid hB3
  have O3 := hid (show Only [] w w3 from ((OW.out.trans O1.out).trans2 o3 (fun y hy => .inr (by have := XW.out; simp at hy; omega))))
  have V3 := hid (show Vars w3 from ((VV.out.only0 O1.out).only o3 (fun m hm => by have := VL.out m; have := XW.out; simp at hm; omega)))
  clear hB2 hB3 hO2 hO3 o3 g3 F1 HM BX1 BU1 O1 OW VV
  go_wp2_with fail
  refine (write_any _).mono ?_
  rintro e w4 ⟨rfl, hW4, hO4⟩
  obtain ⟨b, hb'⟩ : ∃ b, b = w3.heap.size := ⟨_, rfl⟩
  rw [← hb'] at hW4 ⊢
  have R4 := hid hW4
  have BX4 := hid (BX3.out.only hO4 (by simp))
  have BU4 := hid (BU3.out.only hO4 (by simp))
  have HM4 := hid (And.intro (HM3.out.1.only0 hO4) (HM3.out.2.only0 hO4))
  have O4 := hid (O3.out.trans hO4)
  have V4 := hid (V3.out.only0 hO4)
  have bW := hid (show w.heap.size ≤ b ∧ X + 1 < b from ⟨by rw [hb']; exact O3.out.size, by rw [hb']; exact BU3.out.lt⟩)
  have G4 := hid (show ∀ m, kindG m ∉ b :: ownOf (.slice none 0 0) from fun m hm => by
    have := V3.out.lt m
    simp [ownOf, Value.ownBlock] at hm
    omega)
  have A4 := hid (And.intro (aside_fresh (sv := .slice none 0 0) HM3.out.1 (show w3.heap.size ≤ b by omega) (by simp [ownOf, Value.ownBlock])) (aside_fresh (sv := .slice none 0 0) HM3.out.2 (show w3.heap.size ≤ b by omega) (by simp [ownOf, Value.ownBlock])))
  clear hW4 hO4 hb' BX3 BU3 HM3 O3 V3
  have u0 := BU4.out.cell (i := 0) (v := .int .u8 um.ref) rfl
  have u1 := BU4.out.cell (i := 1) (v := .bool um.idr) rfl
  go_wp2_with (first
    | (refine load_atA rfl 25 _ rfl ⟨X, 0, none⟩ (hC y (.slice ma' y.mods.length mc') (.slice ka' y.marks.length kc')) rfl (ho_hdrB BX4.out) ?_)
    | (refine load_atA rfl 27 _ rfl ⟨X + 1, 2, none⟩ (pL um.p) rfl (ho_ppsU BU4.out) ?_)
    | (refine load_atA rfl 29 _ rfl ⟨X + 1, 12, none⟩ (sL um.s) rfl (ho_spsU BU4.out) ?_))
  have CK := hid (hcheck_any y um _ _ w4 V4.out HM4.out.1 HM4.out.2 MK.out.om MK.out.ok MK.out.r0)
  rw [MK.out.ck] at CK
  refine CK.out.mono ?_
  rintro e w5 ⟨rfl, hO5⟩
  have O5 := hid hO5
  have u0 := (BU4.out.only hO5 (by simp)).cell (i := 0) (v := .int .u8 um.ref) rfl
  have u1 := (BU4.out.only hO5 (by simp)).cell (i := 1) (v := .bool um.idr) rfl
  clear hO5 CK
  go_wp2_with (first
    | (go_big_want; refine wp_load_at 25 _ rfl ⟨X, 0, none⟩ (hC y (.slice ma' y.mods.length mc') (.slice ka' y.marks.length kc')) rfl (ho_hdrB (BX4.out.only O5.out (by simp))) ?_; simp only [Act.put, List.setIfInBounds_toArray, List.set_cons_zero, List.set_cons_succ])
    | (go_big_want; refine wp_load_at 27 _ rfl ⟨X + 1, 2, none⟩ (pL um.p) rfl (ho_ppsU (BU4.out.only O5.out (by simp))) ?_; simp only [Act.put, List.setIfInBounds_toArray, List.set_cons_zero, List.set_cons_succ])
    | (go_big_want; refine wp_load_at 29 _ rfl ⟨X + 1, 12, none⟩ (sL um.s) rfl (ho_spsU (BU4.out.only O5.out (by simp))) ?_; simp only [Act.put, List.setIfInBounds_toArray, List.set_cons_zero, List.set_cons_succ]))
  have PT := hid (hput_any y um _ _ b (.slice none 0 0) [] w5 (V4.out.only0 O5.out) (HM4.out.1.only0 O5.out) (HM4.out.2.only0 O5.out) MK.out.om MK.out.ok MK.out.r0 (R4.out.only O5.out (by simp) (by simp)) G4.out A4.out.1 A4.out.2 (by simp))
  rw [putH_yes MK.out.ck, List.nil_append] at PT
  refine PT.out.mono ?_
  rintro e w6 ⟨rfl, sv, hP6⟩
  have P6 := hid hP6
  clear hP6 PT u0 u1
  have BX6 := hid ((BX4.out.only O5.out (by simp)).only P6.out.only (by simp [ownOf, Value.ownBlock]; have := bW.out; omega))
  have BU6 := hid ((BU4.out.only O5.out (by simp)).only P6.out.only (by simp [ownOf, Value.ownBlock]; have := bW.out; omega))
  have HM6 := hid (show HoldsM w6 (.slice ma' y.mods.length mc') y.mods ∧ HoldsM w6 (.slice ka' y.marks.length kc') y.marks from by
    have a1 := A4.out.1
    have a2 := A4.out.2
    exact ⟨(HM4.out.1.only0 O5.out).only2 P6.out.only (fun ad n c e hl hm => by obtain ⟨p, q⟩ := a1 ad n c e hl; rcases List.mem_cons.1 hm with h | h <;> contradiction), (HM4.out.2.only0 O5.out).only2 P6.out.only (fun ad n c e hl hm => by obtain ⟨p, q⟩ := a2 ad n c e hl; rcases List.mem_cons.1 hm with h | h <;> contradiction)⟩)
  have O6 := hid (show Only [] w w6 from (O4.out.trans O5.out).trans2 P6.out.only (fun y hy => .inr (by have := bW.out; simp [ownOf, Value.ownBlock] at hy; omega)))
  have V6 := hid (show Vars w6 from (V4.out.only0 O5.out).only P6.out.only (fun m hm => G4.out m hm))
  have R6 := hid P6.out.wr
  clear P6 O5 BX4 BU4 HM4 O4 V4 R4 A4 G4
  go_upto_region 5 with (fail)
  have L6 := hid (bitsH_le MK.out.ck)
  obtain ⟨st, hst⟩ : ∃ st, st = pack (bitsH um y) ++ tt := ⟨_, rfl⟩
  have ST := hid (show st.size ≤ 100000 ∧ Begins st 0 (bitsH um y) from by
    rw [hst]
    refine ⟨?_, begins_H _ _⟩
    rw [ByteArray.size_append, size_pack]
    have := L6.out
    have := TS.out
    omega)
  have hst' : pack (bitsH um y) ++ tt = st := hst.symm
  have nl : ¬ (9223372036854775807 < ((bitsH um y).length + 7) / 8 + tt.size) := by have := L6.out; have := TS.out; omega
  clear hst
  have BY := hid (fun w' (o : Only [] w6 w') => bytes_any b sv (bitsH um y) w' (R6.out.only o (by simp) (by simp)))
  have RD := hid (fun w' (o : Only [] w6 w') => read_any st w' (by have := ST.out.1; omega))
  go_cut [10] from 48 to 56 (fun s10 wx => ∃ r, s10 = .pointer (some ⟨r, 0, none⟩) ∧ Rd wx r st 0 ∧ Only [] w6 wx ∧ w6.heap.size ≤ r)
  case first =>
    refine wp_region_heldH (fun w' => Only [] w6 w') 10 (by kernel_rfl) rfl (Only.refl [] w6).drew (fun hS => ?_)
    generalize w6.drew = wd at *
    refine wpAnyH_read 0 (v := ?va1) rfl (by kernel_rfl) (by kernel_rfl) (by kernel_rfl) (fun _ _ _ h => h) hS (Or.inl ⟨by rfl, ?ya1⟩) ?ra1
    case ya1 =>
      intro w hSw
      skip
      go_simp
      (try with_reducible rfl)
    (try simp only [Act.put, List.setIfInBounds_toArray, List.set_cons_zero, List.set_cons_succ])
    refine wpAnyH_read 2 (v := ?va2) rfl (by kernel_rfl) (by kernel_rfl) (by kernel_rfl) (fun _ _ _ h => h) hS (Or.inl ⟨by rfl, ?ya2⟩) ?ra2
    case ya2 =>
      intro w hSw
      skip
      go_simp
      (try with_reducible rfl)
    (try simp only [Act.put, List.setIfInBounds_toArray, List.set_cons_zero, List.set_cons_succ])
    refine wpAnyH_read 3 (v := ?va3) rfl (by kernel_rfl) (by kernel_rfl) (by kernel_rfl) (fun _ _ _ h => h) hS (Or.inl ⟨by rfl, ?ya3⟩) ?ra3
    case ya3 =>
      intro w hSw
      skip
      go_simp
      (try with_reducible rfl)
    (try simp only [Act.put, List.setIfInBounds_toArray, List.set_cons_zero, List.set_cons_succ])
    refine wpAnyH_read 4 (v := ?va4) rfl (by kernel_rfl) (by kernel_rfl) (by kernel_rfl) (fun _ _ _ h => h) hS (Or.inl ⟨by rfl, ?ya4⟩) ?ra4
    case ya4 =>
      intro w hSw
      skip
      go_simp
      (try with_reducible rfl)
    (try simp only [Act.put, List.setIfInBounds_toArray, List.set_cons_zero, List.set_cons_succ])
    refine wpAnyH_read 5 (v := ?va5) rfl (by kernel_rfl) (by kernel_rfl) (by kernel_rfl) (fun _ _ _ h => h) hS (Or.inl ⟨by rfl, ?ya5⟩) ?ra5
    case ya5 =>
      intro w hSw
      skip
      go_simp
      (try with_reducible rfl)
    (try simp only [Act.put, List.setIfInBounds_toArray, List.set_cons_zero, List.set_cons_succ])
    refine wpAnyH_read 6 (v := ?va6) rfl (by kernel_rfl) (by kernel_rfl) (by kernel_rfl) (fun _ _ _ h => h) hS (Or.inl ⟨by rfl, ?ya6⟩) ?ra6
    case ya6 =>
      intro w hSw
      skip
      go_simp
      (try with_reducible rfl)
    (try simp only [Act.put, List.setIfInBounds_toArray, List.set_cons_zero, List.set_cons_succ])
    refine wpAnyH_call 1 rfl (by kernel_rfl) (fun J hJ => ?_)
    rw [if_pos (by rfl)]
    go_simp
    refine (BY.out _ hS).mono ?_
    rintro e v1 ⟨rfl, p_⟩
    have s1 := hS.trans p_
    clear p_
    refine hJ.out _ _ s1 ?_
    clear hJ J
    (try simp only [Act.put, List.setIfInBounds_toArray, List.set_cons_zero, List.set_cons_succ])
    refine wpAnyH_read 7 (v := ?va7) rfl (by kernel_rfl) (by kernel_rfl) (by kernel_rfl) (fun _ _ _ h => h) s1 (Or.inl ⟨by rfl, ?ya7⟩) ?ra7
    case ya7 =>
      intro w hSw
      skip
      go_simp
      (try with_reducible rfl)
    (try simp only [Act.put, List.setIfInBounds_toArray, List.set_cons_zero, List.set_cons_succ])
    refine wpAnyH_call 8 rfl (by kernel_rfl) (fun J hJ => ?_)
    rw [if_pos (by rfl)]
    go_simp
    refine (RD.out _ s1).mono ?_
    rintro e v2 ⟨rfl, hR, p_⟩
    have s2 := s1.trans p_
    clear p_
    refine hJ.out _ _ s2 ?_
    clear hJ J
    (try simp only [Act.put, List.setIfInBounds_toArray, List.set_cons_zero, List.set_cons_succ])
    refine wpAnyH_read 9 (v := ?va8) rfl (by kernel_rfl) (by kernel_rfl) (by kernel_rfl) (fun _ _ _ h => h) s2 (Or.inl ⟨by rfl, ?ya8⟩) ?ra8
    case ya8 =>
      intro w hSw
      skip
      go_simp
      (try with_reducible rfl)
    (try simp only [Act.put, List.setIfInBounds_toArray, List.set_cons_zero, List.set_cons_succ])
    refine wpAnyH_done (by kernel_rfl) ?_ _
    go_wp2_with fail
    go_meet
    exact ⟨_, rfl, hR, s2, s1.size⟩
  case rest =>
  obtain ⟨r, rfl, hR, hO, hr⟩ := hcut
  have R7 := hid hR
  have BX7 := hid (BX6.out.only hO (by simp))
  have BU7 := hid (BU6.out.only hO (by simp))
  have HM7 := hid (And.intro (HM6.out.1.only0 hO) (HM6.out.2.only0 hO))
  have O7 := hid (O6.out.trans hO)
  have V7 := hid (V6.out.only0 hO)
  have W7 := hid (R6.out.only hO (by simp) (by simp))
  have rW := hid (show w.heap.size ≤ r ∧ X ≠ r ∧ X + 1 ≠ r ∧ b ≠ r ∧ (∀ g, g ∈ ownOf sv → g ≠ r) from ⟨Nat.le_trans O6.out.size hr, by have := BX6.out.lt; omega, by have := BU6.out.lt; omega, by have := R6.out.lt; omega, fun g hg => by have := R6.out.row.lt g hg; omega⟩)
  have LM := hid (show (∀ ad n c, (Value.slice ma' y.mods.length mc') = .slice (some ad) n c → y.mods ≠ [] → ad.block ≠ r) ∧ (∀ ad n c, (Value.slice ka' y.marks.length kc') = .slice (some ad) n c → y.marks ≠ [] → ad.block ≠ r) from ⟨fun ad n c e hl => by cases e; have := HoldsM.lt HM6.out.1 hl; omega, fun ad n c e hl => by cases e; have := HoldsM.lt HM6.out.2 hl; omega⟩)
  clear nl hR hO hr BX6 BU6 HM6 O6 V6 R6 BY RD hst' ht' hkI hk1 hk0 hb
  go_upto_region 6 with (fail)
  go_cut [11, 12] from 57 to 67 (fun s11 s12 wx => ∃ A ma2 mc2 ka2 kc2, s11 = .pointer (some ⟨A, 0, none⟩) ∧ s12 = .int .i64 0 ∧ Blk wx A 25 (hC y (.slice ma2 y.mods.length mc2) (.slice ka2 y.marks.length kc2)).toArray ∧
    Rd wx r st (bitsH um y).length ∧ HoldsM wx (.slice ma2 y.mods.length mc2) y.mods ∧ HoldsM wx (.slice ka2 y.marks.length kc2) y.marks ∧ Only [r] wc wx)
  case first =>
    have LU := hid (fun w (h : Only [r] wc w) => hl_unit (X + 1) um w (fun j v hj => (BU7.out.only h (by simp; exact rW.out.2.2.1)).cell (by simpa using hj)))
    have XC := hid (fun w (h : Only [r] wc w) => And.intro ((BU7.out.only h (by simp; exact rW.out.2.2.1)).cell (i := 0) (v := .int .u8 um.ref) rfl) ((BU7.out.only h (by simp; exact rW.out.2.2.1)).cell (i := 1) (v := .bool um.idr) rfl))
    obtain ⟨k1, k2, k3, k4⟩ := un_ok (checkH_ok MK.out.ck).1
    have SA := hid (fun w => hstore_any um w k2 k3)
    have RB := hid (fun w' l Ls (hv : Vars w') (hr : Rd w' r st 0) (hs : StL w' l Ls (upd (fun _ => none) um.s.id um.s) (upd (fun _ => none) um.p.id um.p) 2) (hn : r ∉ Ls) => hread_any (ref := um.ref) (idr := um.idr) hv MK.out.r0 hr hs hn hs.alls.1 hs.alls.2 (by have := ST.out.1; omega))
    have RV := readH_of (s := st) (pos := 0) (f := upd (fun _ => none) um.s.id um.s) (g := upd (fun _ => none) um.p.id um.p) MK.out.ck (by rw [(begin_ok k2 k3 (checkH_ok MK.out.ck).2.1).2.2.2.2.1]; exact getR_store um (checkH_ok MK.out.ck).1) ST.out.2
    rw [RV, Nat.zero_add] at RB
    clear RV k1 k2 k3 k4
    have hE : Only [] wc wc.drew := (Only.refl [] wc).drew
    have RL := hid R7.out.lt
    refine wp_region_heldH (fun w' => Only [r] wc w') 14 (by kernel_rfl) rfl (Only.refl [r] wc).drew (fun hS => ?_)
    generalize wc.drew = wd at *
    refine wpAnyH_read 0 (v := ?va101) rfl (by kernel_rfl) (by kernel_rfl) (by kernel_rfl) (fun _ _ _ h => h) hS (Or.inl ⟨by rfl, ?ya101⟩) ?ra101
    case ya101 =>
      intro w hSw
      obtain ⟨hc1, hc2⟩ := XC.out w hSw
      go_simp
      (try with_reducible rfl)
    (try simp only [Act.put, List.setIfInBounds_toArray, List.set_cons_zero, List.set_cons_succ])
    refine wpAnyH_read 1 (v := ?va102) rfl (by kernel_rfl) (by kernel_rfl) (by kernel_rfl) (fun _ _ _ h => h) hS (Or.inl ⟨by rfl, ?ya102⟩) ?ra102
    case ya102 =>
      intro w hSw
      obtain ⟨hc1, hc2⟩ := XC.out w hSw
      go_simp
      (try with_reducible rfl)
    (try simp only [Act.put, List.setIfInBounds_toArray, List.set_cons_zero, List.set_cons_succ])
    refine wpAnyH_read 2 (v := ?va103) rfl (by kernel_rfl) (by kernel_rfl) (by kernel_rfl) (fun _ _ _ h => h) hS (Or.inl ⟨by rfl, ?ya103⟩) ?ra103
    case ya103 =>
      intro w hSw
      obtain ⟨hc1, hc2⟩ := XC.out w hSw
      go_simp
      (try with_reducible rfl)
    (try simp only [Act.put, List.setIfInBounds_toArray, List.set_cons_zero, List.set_cons_succ])
    refine wpAnyH_read 3 (v := ?va104) rfl (by kernel_rfl) (by kernel_rfl) (by kernel_rfl) (fun _ _ _ h => h) hS (Or.inl ⟨by rfl, ?ya104⟩) ?ra104
    case ya104 =>
      intro w hSw
      obtain ⟨hc1, hc2⟩ := XC.out w hSw
      go_simp
      (try with_reducible rfl)
    (try simp only [Act.put, List.setIfInBounds_toArray, List.set_cons_zero, List.set_cons_succ])
    refine wpAnyH_read 4 (v := ?va105) rfl (by kernel_rfl) (by kernel_rfl) (by kernel_rfl) (fun _ _ _ h => h) hS (Or.inl ⟨by rfl, ?ya105⟩) ?ra105
    case ya105 =>
      intro w hSw
      obtain ⟨hc1, hc2⟩ := XC.out w hSw
      go_simp
      (try with_reducible rfl)
    (try simp only [Act.put, List.setIfInBounds_toArray, List.set_cons_zero, List.set_cons_succ])
    refine wpAnyH_read 5 rfl (by kernel_rfl) (by kernel_rfl) (by kernel_rfl) (fun _ _ _ h => h) hS (yields_load 31 _ (by rfl) rfl ⟨X + 1, 0, none⟩ (uL um) rfl LU.out) ?_
    (try simp only [Act.put, List.setIfInBounds_toArray, List.set_cons_zero, List.set_cons_succ])
    refine wpAnyH_all (rs := [6, 11]) (by kernel_rfl) (by simp) (fun i hi => ?_)
    simp only [List.mem_cons, List.not_mem_nil, or_false] at hi
    rcases hi with rfl | rfl
    · skip
      refine wpOp_step (o := _) rfl (fun J hJ => ?_)
      try rw [if_pos (by rfl)]
      go_simp
      refine (SA.out wd).mono ?_
      rintro e wS ⟨l, Ls, rfl, hl, pS, hL⟩
      have eS : Only [] wc wS := hE.trans pS
      refine hJ _ _ ⟨eS.mono (by simp), ?_⟩
      clear hJ J
      (try simp only [Act.put, List.setIfInBounds_toArray, List.set_cons_zero, List.set_cons_succ])
      refine wpAnyH_all (rs := [7, 11]) (by kernel_rfl) (by simp) (fun i hi => ?_)
      simp only [List.mem_cons, List.not_mem_nil, or_false] at hi
      rcases hi with rfl | rfl
      · skip
        refine wpOp_step (o := _) rfl (fun J hJ => ?_)
        try rw [if_pos (by rfl)]
        go_simp
        refine (RB.out wS l Ls (V7.out.only0 eS) (R7.out.only eS (by simp)) hl (fun h => by have := hL _ h; have := RL.out; have := hE.size; omega)).mono ?_
        rintro e wR ⟨mv2, kv2, rfl, hr2, p2, hm2, hk2, fm2, fk2⟩
        dsimp only at hr2 hm2 hk2 fm2 fk2
        obtain ⟨ma2, mc2, z1⟩ := holdsM_slice hm2
        obtain ⟨ka2, kc2, z2⟩ := holdsM_slice hk2
        subst z1 z2
        have sR : Only [r] wc wR := (eS.mono (by simp)).trans p2
        refine hJ _ _ ⟨sR, ?_⟩
        clear hJ J
        (try simp only [Act.put, List.setIfInBounds_toArray, List.set_cons_zero, List.set_cons_succ])
        refine wpAnyH_read 8 (v := ?va106) rfl (by kernel_rfl) (by kernel_rfl) (by kernel_rfl) (fun _ _ _ h => h) sR (Or.inl ⟨by rfl, ?ya106⟩) ?ra106
        case ya106 =>
          intro w hSw
          obtain ⟨hc1, hc2⟩ := XC.out w hSw
          go_simp
          (try with_reducible rfl)
        (try simp only [Act.put, List.setIfInBounds_toArray, List.set_cons_zero, List.set_cons_succ])
        refine wpAnyH_read 9 (v := ?va107) rfl (by kernel_rfl) (by kernel_rfl) (by kernel_rfl) (fun _ _ _ h => h) sR (Or.inl ⟨by rfl, ?ya107⟩) ?ra107
        case ya107 =>
          intro w hSw
          obtain ⟨hc1, hc2⟩ := XC.out w hSw
          go_simp
          (try with_reducible rfl)
        (try simp only [Act.put, List.setIfInBounds_toArray, List.set_cons_zero, List.set_cons_succ])
        refine wpAnyH_read 10 (v := ?va108) rfl (by kernel_rfl) (by kernel_rfl) (by kernel_rfl) (fun _ _ _ h => h) sR (Or.inl ⟨by rfl, ?ya108⟩) ?ra108
        case ya108 =>
          intro w hSw
          obtain ⟨hc1, hc2⟩ := XC.out w hSw
          go_simp
          (try with_reducible rfl)
        (try simp only [Act.put, List.setIfInBounds_toArray, List.set_cons_zero, List.set_cons_succ])
        refine wpAnyH_all (rs := [11]) (by kernel_rfl) (by simp) (fun i hi => ?_)
        simp only [List.mem_cons, List.not_mem_nil, or_false] at hi
        subst hi
        refine wpOp_step (o := _) rfl (fun J hJ => ?_)
        try rw [if_pos (by rfl)]
        go_simp
        have bA := Blk.new wR 25 (hC h0 (.slice none 0 0) (.slice none 0 0)).toArray
        have oA := (Only.refl [] wR).alloc (.cells (hC h0 (.slice none 0 0) (.slice none 0 0)).toArray 25)
        have hA1 : wR.heap.size < (wR.alloc (.cells (hC h0 (.slice none 0 0) (.slice none 0 0)).toArray 25)).heap.size := bA.lt
        simp only [hC, h0] at bA oA hA1
        have tA : Only [r] wc (wR.alloc _) := sR.trans ((oA.mono (by simp) : Only [r] _ _))
        refine hJ _ _ ⟨tA, ?_⟩
        clear hJ J
        generalize hal : World.alloc wR _ = wA at *
        clear hal
        (try simp only [Act.put, List.setIfInBounds_toArray, List.set_cons_zero, List.set_cons_succ])
        refine wpAnyH_all (rs := [12]) (by kernel_rfl) (by simp) (fun i hi => ?_)
        simp only [List.mem_cons, List.not_mem_nil, or_false] at hi
        subst hi
        refine wpOp_step (o := _) rfl (fun J hJ => ?_)
        try rw [if_pos (by rfl)]
        refine wp_store_op 25 _ _ rfl wR.heap.size _ _ (hC y (.slice ma2 y.mods.length mc2) (.slice ka2 y.marks.length kc2)) rfl rfl (info_hdr' _ _ _) bA (by simp [hC]) (one_hC _ rfl rfl) ?_
        intro w8 c8 p8
        have s8 : Only [r] wc w8 := tA.trans2 p8 (fun y hy => .inr (by rw [List.mem_singleton.1 hy]; have := sR.size; omega))
        refine hJ _ _ ⟨s8, ?_⟩
        clear hJ J
        (try simp only [Act.put, List.setIfInBounds_toArray, List.set_cons_zero, List.set_cons_succ])
        refine wpAnyH_read 13 (v := ?va109) rfl (by kernel_rfl) (by kernel_rfl) (by kernel_rfl) (fun _ _ _ h => h) s8 (Or.inl ⟨by rfl, ?ya109⟩) ?ra109
        case ya109 =>
          intro w hSw
          obtain ⟨hc1, hc2⟩ := XC.out w hSw
          go_simp
          (try with_reducible rfl)
        (try simp only [Act.put, List.setIfInBounds_toArray, List.set_cons_zero, List.set_cons_succ])
        refine wpAnyH_done (by kernel_rfl) ?_ _
        go_wp2_with fail
        go_meet
        exact ⟨_, ma2, mc2, ka2, kc2, rfl, rfl, c8, (hr2.only oA (by simp)).only p8 (by simp; have := hr2.lt; omega), (hm2.only0 oA).only2 p8 (fun ad n c e hl hm => by rw [List.mem_singleton] at hm; cases e; have := HoldsM.lt hm2 hl; omega), (hk2.only0 oA).only2 p8 (fun ad n c e hl hm => by rw [List.mem_singleton] at hm; cases e; have := HoldsM.lt hk2 hl; omega), s8⟩
      · skip
        refine wpOp_step (o := _) rfl (fun J hJ => ?_)
        try rw [if_pos (by rfl)]
        go_simp
        have bA := Blk.new wS 25 (hC h0 (.slice none 0 0) (.slice none 0 0)).toArray
        have oA := (Only.refl [] wS).alloc (.cells (hC h0 (.slice none 0 0) (.slice none 0 0)).toArray 25)
        have hA1 : wS.heap.size < (wS.alloc (.cells (hC h0 (.slice none 0 0) (.slice none 0 0)).toArray 25)).heap.size := bA.lt
        simp only [hC, h0] at bA oA hA1
        have tA : Only [r] wc (wS.alloc _) := (eS.mono (by simp)).trans ((oA.mono (by simp) : Only [r] _ _))
        refine hJ _ _ ⟨tA, ?_⟩
        clear hJ J
        generalize hal : World.alloc wS _ = wA at *
        clear hal
        (try simp only [Act.put, List.setIfInBounds_toArray, List.set_cons_zero, List.set_cons_succ])
        refine wpAnyH_all (rs := [7]) (by kernel_rfl) (by simp) (fun i hi => ?_)
        simp only [List.mem_cons, List.not_mem_nil, or_false] at hi
        subst hi
        refine wpOp_step (o := _) rfl (fun J hJ => ?_)
        try rw [if_pos (by rfl)]
        go_simp
        refine (RB.out wA l Ls (V7.out.only0 (eS.trans oA)) (R7.out.only (eS.trans oA) (by simp)) (hl.only oA (by simp)) (fun h => by have := hL _ h; have := RL.out; have := hE.size; omega)).mono ?_
        rintro e wR ⟨mv2, kv2, rfl, hr2, p2, hm2, hk2, fm2, fk2⟩
        dsimp only at hr2 hm2 hk2 fm2 fk2
        obtain ⟨ma2, mc2, z1⟩ := holdsM_slice hm2
        obtain ⟨ka2, kc2, z2⟩ := holdsM_slice hk2
        subst z1 z2
        have sR : Only [r] wc wR := ((eS.trans oA).mono (by simp)).trans p2
        refine hJ _ _ ⟨sR, ?_⟩
        clear hJ J
        (try simp only [Act.put, List.setIfInBounds_toArray, List.set_cons_zero, List.set_cons_succ])
        refine wpAnyH_read 8 (v := ?va110) rfl (by kernel_rfl) (by kernel_rfl) (by kernel_rfl) (fun _ _ _ h => h) sR (Or.inl ⟨by rfl, ?ya110⟩) ?ra110
        case ya110 =>
          intro w hSw
          obtain ⟨hc1, hc2⟩ := XC.out w hSw
          go_simp
          (try with_reducible rfl)
        (try simp only [Act.put, List.setIfInBounds_toArray, List.set_cons_zero, List.set_cons_succ])
        refine wpAnyH_read 9 (v := ?va111) rfl (by kernel_rfl) (by kernel_rfl) (by kernel_rfl) (fun _ _ _ h => h) sR (Or.inl ⟨by rfl, ?ya111⟩) ?ra111
        case ya111 =>
          intro w hSw
          obtain ⟨hc1, hc2⟩ := XC.out w hSw
          go_simp
          (try with_reducible rfl)
        (try simp only [Act.put, List.setIfInBounds_toArray, List.set_cons_zero, List.set_cons_succ])
        refine wpAnyH_read 10 (v := ?va112) rfl (by kernel_rfl) (by kernel_rfl) (by kernel_rfl) (fun _ _ _ h => h) sR (Or.inl ⟨by rfl, ?ya112⟩) ?ra112
        case ya112 =>
          intro w hSw
          obtain ⟨hc1, hc2⟩ := XC.out w hSw
          go_simp
          (try with_reducible rfl)
        (try simp only [Act.put, List.setIfInBounds_toArray, List.set_cons_zero, List.set_cons_succ])
        refine wpAnyH_all (rs := [12]) (by kernel_rfl) (by simp) (fun i hi => ?_)
        simp only [List.mem_cons, List.not_mem_nil, or_false] at hi
        subst hi
        refine wpOp_step (o := _) rfl (fun J hJ => ?_)
        try rw [if_pos (by rfl)]
        refine wp_store_op 25 _ _ rfl wS.heap.size _ _ (hC y (.slice ma2 y.mods.length mc2) (.slice ka2 y.marks.length kc2)) rfl rfl (info_hdr' _ _ _) (bA.only p2 (by simp; have := RL.out; have := hE.size; have := eS.size; omega)) (by simp [hC]) (one_hC _ rfl rfl) ?_
        intro w8 c8 p8
        have s8 : Only [r] wc w8 := sR.trans2 p8 (fun y hy => .inr (by rw [List.mem_singleton.1 hy]; have := eS.size; omega))
        refine hJ _ _ ⟨s8, ?_⟩
        clear hJ J
        (try simp only [Act.put, List.setIfInBounds_toArray, List.set_cons_zero, List.set_cons_succ])
        refine wpAnyH_read 13 (v := ?va113) rfl (by kernel_rfl) (by kernel_rfl) (by kernel_rfl) (fun _ _ _ h => h) s8 (Or.inl ⟨by rfl, ?ya113⟩) ?ra113
        case ya113 =>
          intro w hSw
          obtain ⟨hc1, hc2⟩ := XC.out w hSw
          go_simp
          (try with_reducible rfl)
        (try simp only [Act.put, List.setIfInBounds_toArray, List.set_cons_zero, List.set_cons_succ])
        refine wpAnyH_done (by kernel_rfl) ?_ _
        go_wp2_with fail
        go_meet
        exact ⟨_, ma2, mc2, ka2, kc2, rfl, rfl, c8, hr2.only p8 (by simp; have := RL.out; have := eS.size; omega), hm2.only2 p8 (fun ad n c e hl hm => by rw [List.mem_singleton] at hm; have := fm2 ad n c e hl; omega), hk2.only2 p8 (fun ad n c e hl hm => by rw [List.mem_singleton] at hm; have := fk2 ad n c e hl; omega), s8⟩
    · skip
      refine wpOp_step (o := _) rfl (fun J hJ => ?_)
      try rw [if_pos (by rfl)]
      go_simp
      have bA := Blk.new wd 25 (hC h0 (.slice none 0 0) (.slice none 0 0)).toArray
      have oA := (Only.refl [] wd).alloc (.cells (hC h0 (.slice none 0 0) (.slice none 0 0)).toArray 25)
      have hA1 : wd.heap.size < (wd.alloc (.cells (hC h0 (.slice none 0 0) (.slice none 0 0)).toArray 25)).heap.size := bA.lt
      simp only [hC, h0] at bA oA hA1
      have tA : Only [r] wc (wd.alloc _) := hS.trans ((oA.mono (by simp) : Only [r] _ _))
      refine hJ _ _ ⟨tA, ?_⟩
      clear hJ J
      generalize hal : World.alloc wd _ = wA at *
      clear hal
      (try simp only [Act.put, List.setIfInBounds_toArray, List.set_cons_zero, List.set_cons_succ])
      refine wpAnyH_all (rs := [6]) (by kernel_rfl) (by simp) (fun i hi => ?_)
      simp only [List.mem_cons, List.not_mem_nil, or_false] at hi
      subst hi
      refine wpOp_step (o := _) rfl (fun J hJ => ?_)
      try rw [if_pos (by rfl)]
      go_simp
      refine (SA.out wA).mono ?_
      rintro e wS ⟨l, Ls, rfl, hl, pS, hL⟩
      have eS : Only [] wc wS := (hE.trans oA).trans pS
      refine hJ _ _ ⟨eS.mono (by simp), ?_⟩
      clear hJ J
      (try simp only [Act.put, List.setIfInBounds_toArray, List.set_cons_zero, List.set_cons_succ])
      refine wpAnyH_all (rs := [7]) (by kernel_rfl) (by simp) (fun i hi => ?_)
      simp only [List.mem_cons, List.not_mem_nil, or_false] at hi
      subst hi
      refine wpOp_step (o := _) rfl (fun J hJ => ?_)
      try rw [if_pos (by rfl)]
      go_simp
      refine (RB.out wS l Ls (V7.out.only0 eS) (R7.out.only eS (by simp)) hl (fun h => by have := hL _ h; have := RL.out; have := hE.size; omega)).mono ?_
      rintro e wR ⟨mv2, kv2, rfl, hr2, p2, hm2, hk2, fm2, fk2⟩
      dsimp only at hr2 hm2 hk2 fm2 fk2
      obtain ⟨ma2, mc2, z1⟩ := holdsM_slice hm2
      obtain ⟨ka2, kc2, z2⟩ := holdsM_slice hk2
      subst z1 z2
      have sR : Only [r] wc wR := (eS.mono (by simp)).trans p2
      refine hJ _ _ ⟨sR, ?_⟩
      clear hJ J
      (try simp only [Act.put, List.setIfInBounds_toArray, List.set_cons_zero, List.set_cons_succ])
      refine wpAnyH_read 8 (v := ?va114) rfl (by kernel_rfl) (by kernel_rfl) (by kernel_rfl) (fun _ _ _ h => h) sR (Or.inl ⟨by rfl, ?ya114⟩) ?ra114
      case ya114 =>
        intro w hSw
        obtain ⟨hc1, hc2⟩ := XC.out w hSw
        go_simp
        (try with_reducible rfl)
      (try simp only [Act.put, List.setIfInBounds_toArray, List.set_cons_zero, List.set_cons_succ])
      refine wpAnyH_read 9 (v := ?va115) rfl (by kernel_rfl) (by kernel_rfl) (by kernel_rfl) (fun _ _ _ h => h) sR (Or.inl ⟨by rfl, ?ya115⟩) ?ra115
      case ya115 =>
        intro w hSw
        obtain ⟨hc1, hc2⟩ := XC.out w hSw
        go_simp
        (try with_reducible rfl)
      (try simp only [Act.put, List.setIfInBounds_toArray, List.set_cons_zero, List.set_cons_succ])
      refine wpAnyH_read 10 (v := ?va116) rfl (by kernel_rfl) (by kernel_rfl) (by kernel_rfl) (fun _ _ _ h => h) sR (Or.inl ⟨by rfl, ?ya116⟩) ?ra116
      case ya116 =>
        intro w hSw
        obtain ⟨hc1, hc2⟩ := XC.out w hSw
        go_simp
        (try with_reducible rfl)
      (try simp only [Act.put, List.setIfInBounds_toArray, List.set_cons_zero, List.set_cons_succ])
      refine wpAnyH_all (rs := [12]) (by kernel_rfl) (by simp) (fun i hi => ?_)
      simp only [List.mem_cons, List.not_mem_nil, or_false] at hi
      subst hi
      refine wpOp_step (o := _) rfl (fun J hJ => ?_)
      try rw [if_pos (by rfl)]
      refine wp_store_op 25 _ _ rfl wd.heap.size _ _ (hC y (.slice ma2 y.mods.length mc2) (.slice ka2 y.marks.length kc2)) rfl rfl (info_hdr' _ _ _) ((bA.only pS (by simp)).only p2 (by simp; have := RL.out; have := hE.size; omega)) (by simp [hC]) (one_hC _ rfl rfl) ?_
      intro w8 c8 p8
      have s8 : Only [r] wc w8 := sR.trans2 p8 (fun y hy => .inr (by rw [List.mem_singleton.1 hy]; have := hE.size; omega))
      refine hJ _ _ ⟨s8, ?_⟩
      clear hJ J
      (try simp only [Act.put, List.setIfInBounds_toArray, List.set_cons_zero, List.set_cons_succ])
      refine wpAnyH_read 13 (v := ?va117) rfl (by kernel_rfl) (by kernel_rfl) (by kernel_rfl) (fun _ _ _ h => h) s8 (Or.inl ⟨by rfl, ?ya117⟩) ?ra117
      case ya117 =>
        intro w hSw
        obtain ⟨hc1, hc2⟩ := XC.out w hSw
        go_simp
        (try with_reducible rfl)
      (try simp only [Act.put, List.setIfInBounds_toArray, List.set_cons_zero, List.set_cons_succ])
      refine wpAnyH_done (by kernel_rfl) ?_ _
      go_wp2_with fail
      go_meet
      exact ⟨_, ma2, mc2, ka2, kc2, rfl, rfl, c8, hr2.only p8 (by simp; have := RL.out; have := hE.size; omega), hm2.only2 p8 (fun ad n c e hl hm => by rw [List.mem_singleton] at hm; have := fm2 ad n c e hl; have := pS.size; omega), hk2.only2 p8 (fun ad n c e hl hm => by rw [List.mem_singleton] at hm; have := fk2 ad n c e hl; have := pS.size; omega), s8⟩
  case rest =>
  obtain ⟨A, ma2, mc2, ka2, kc2, rfl, rfl, hA, hR, hm, hk, hO⟩ := hcut
  have BA := hid hA
  have R8 := hid hR
  have HN := hid (And.intro hm hk)
  have BX8 := hid (BX7.out.only hO (by simp; exact rW.out.2.1))
  have BU8 := hid (BU7.out.only hO (by simp; exact rW.out.2.2.1))
  have HM8 := hid (show HoldsM wc (.slice ma' y.mods.length mc') y.mods ∧ HoldsM wc (.slice ka' y.marks.length kc') y.marks from ⟨HM7.out.1.only2 hO (fun ad n c e hl hm => LM.out.1 ad n c e hl (List.mem_singleton.1 hm)), HM7.out.2.only2 hO (fun ad n c e hl hm => LM.out.2 ad n c e hl (List.mem_singleton.1 hm))⟩)
  have O8 := hid (show Only [] w wc from O7.out.trans2 hO (fun y hy => .inr (by rw [List.mem_singleton.1 hy]; exact rW.out.1)))
  have V8 := hid (V7.out.rd R7.out hO)
  have W8 := hid (W7.out.only hO (by simp; exact rW.out.2.2.2.1) (by simp; exact rW.out.2.2.2.2))
  clear hA hR hm hk hO BX7 BU7 HM7 O7 V7 W7 R7 LM rW
  obtain ⟨qv, hqv⟩ : ∃ v, v = 26 + um.p.qp + y.qp := ⟨_, rfl⟩
  obtain ⟨rv, hrv⟩ : ∃ v, v = (if y.intra = true then (0 : Int) else if y.over = true then y.refs else um.p.rf) := ⟨_, rfl⟩
  have RF := refs_of MK.out.ck
  rw [← hrv] at RF
  have q0 : 0 ≤ qv := by rw [hqv]; exact MK.out.q0
  have q1 : qv ≤ 51 := by rw [hqv]; exact MK.out.q1
  have r0 : 0 ≤ rv := RF.2.1
  have r1 : rv ≤ 32 := RF.2.2
  have RI := hid (show (rv == 0) = y.intra from by
    cases hi : y.intra
    · rw [beq_eq_false_iff_ne]; intro e; have := RF.1.1 e; rw [hi] at this; cases this
    · rw [beq_iff_eq]; exact RF.1.2 hi)
  have okp := okP_qpM (un_ok (checkH_ok MK.out.ck).1).2.2.1
  have QP := hid (fun w' => qp_any y (.slice ma' y.mods.length mc') (.slice ka' y.marks.length kc') um.p w' rfl rfl)
  have RFS := hid (fun w' => refs_any y (.slice ma' y.mods.length mc') (.slice ka' y.marks.length kc') um.p w' rfl rfl)
  have hw : wrap64 (wrap64 (26 + um.p.qp) + y.qp) = qv := by
    rw [wrap_in (26 + um.p.qp) (by omega) (by omega), hqv, wrap_in _ (by omega) (by omega)]
  rw [hw] at QP
  rw [← hrv] at RFS
  clear hqv hrv RF okp hw
  go_upto_region 7 with (fail)
  go_cut [13, 14] from 68 to 75 (fun s13 s14 wx => s13 = .int .i64 qv ∧ s14 = .int .i64 rv ∧ Only [] wc wx)
  case first =>
    have LX := hid (fun w (h : Only [] wc w) => hl_hdr X y _ _ w (fun j v hj => (BX8.out.only h (by simp)).cell (by simpa using hj)))
    have LP := hid (fun w (h : Only [] wc w) => ho_ppsU (BU8.out.only h (by simp)))
    refine wp_region_heldH (fun w' => Only [] wc w') 10 (by kernel_rfl) rfl (Only.refl [] wc).drew (fun hS => ?_)
    generalize wc.drew = wd at *
    refine wpAnyH_read 0 rfl (by kernel_rfl) (by kernel_rfl) (by kernel_rfl) (fun _ _ _ h => h) hS (yields_load 25 _ (by rfl) rfl ⟨X, 0, none⟩ (hC y (.slice ma' y.mods.length mc') (.slice ka' y.marks.length kc')) rfl LX.out) ?_
    (try simp only [Act.put, List.setIfInBounds_toArray, List.set_cons_zero, List.set_cons_succ])
    refine wpAnyH_read 1 (v := ?va301) rfl (by kernel_rfl) (by kernel_rfl) (by kernel_rfl) (fun _ _ _ h => h) hS (Or.inl ⟨by rfl, ?ya301⟩) ?ra301
    case ya301 =>
      intro w hSw
      skip
      go_simp
      (try with_reducible rfl)
    (try simp only [Act.put, List.setIfInBounds_toArray, List.set_cons_zero, List.set_cons_succ])
    refine wpAnyH_read 2 rfl (by kernel_rfl) (by kernel_rfl) (by kernel_rfl) (fun _ _ _ h => h) hS (yields_load 27 _ (by rfl) rfl ⟨X + 1, 2, none⟩ (pL um.p) rfl LP.out) ?_
    (try simp only [Act.put, List.setIfInBounds_toArray, List.set_cons_zero, List.set_cons_succ])
    refine wpAnyH_read 4 rfl (by kernel_rfl) (by kernel_rfl) (by kernel_rfl) (fun _ _ _ h => h) hS (yields_load 25 _ (by rfl) rfl ⟨X, 0, none⟩ (hC y (.slice ma' y.mods.length mc') (.slice ka' y.marks.length kc')) rfl LX.out) ?_
    (try simp only [Act.put, List.setIfInBounds_toArray, List.set_cons_zero, List.set_cons_succ])
    refine wpAnyH_read 5 (v := ?va302) rfl (by kernel_rfl) (by kernel_rfl) (by kernel_rfl) (fun _ _ _ h => h) hS (Or.inl ⟨by rfl, ?ya302⟩) ?ra302
    case ya302 =>
      intro w hSw
      skip
      go_simp
      (try with_reducible rfl)
    (try simp only [Act.put, List.setIfInBounds_toArray, List.set_cons_zero, List.set_cons_succ])
    refine wpAnyH_read 6 rfl (by kernel_rfl) (by kernel_rfl) (by kernel_rfl) (fun _ _ _ h => h) hS (yields_load 27 _ (by rfl) rfl ⟨X + 1, 2, none⟩ (pL um.p) rfl LP.out) ?_
    (try simp only [Act.put, List.setIfInBounds_toArray, List.set_cons_zero, List.set_cons_succ])
    refine wpAnyH_call 3 rfl (by kernel_rfl) (fun J hJ => ?_)
    rw [if_pos (by rfl)]
    go_simp
    refine (QP.out _).mono ?_
    rintro e y1 ⟨rfl, p_⟩
    have s1 := hS.trans p_
    clear p_
    refine hJ.out _ _ s1 ?_
    clear hJ J
    (try simp only [Act.put, List.setIfInBounds_toArray, List.set_cons_zero, List.set_cons_succ])
    refine wpAnyH_call 7 rfl (by kernel_rfl) (fun J hJ => ?_)
    rw [if_pos (by rfl)]
    go_simp
    refine (RFS.out _).mono ?_
    rintro e y2 ⟨rfl, p_⟩
    have s2 := s1.trans p_
    clear p_
    refine hJ.out _ _ s2 ?_
    clear hJ J
    (try simp only [Act.put, List.setIfInBounds_toArray, List.set_cons_zero, List.set_cons_succ])
    refine wpAnyH_read 8 (v := ?va303) rfl (by kernel_rfl) (by kernel_rfl) (by kernel_rfl) (fun _ _ _ h => h) s2 (Or.inl ⟨by rfl, ?ya303⟩) ?ra303
    case ya303 =>
      intro w hSw
      skip
      go_simp
      (try with_reducible rfl)
    (try simp only [Act.put, List.setIfInBounds_toArray, List.set_cons_zero, List.set_cons_succ])
    refine wpAnyH_read 9 (v := ?va304) rfl (by kernel_rfl) (by kernel_rfl) (by kernel_rfl) (fun _ _ _ h => h) s2 (Or.inl ⟨by rfl, ?ya304⟩) ?ra304
    case ya304 =>
      intro w hSw
      skip
      go_simp
      (try with_reducible rfl)
    (try simp only [Act.put, List.setIfInBounds_toArray, List.set_cons_zero, List.set_cons_succ])
    refine wpAnyH_done (by kernel_rfl) ?_ _
    go_wp2_with fail
    go_meet
    exact ⟨rfl, rfl, s2⟩
  case rest =>
  obtain ⟨rfl, rfl, hO⟩ := hcut
  have BX9 := hid (BX8.out.only hO (by simp))
  have HM9 := hid (And.intro (HM8.out.1.only0 hO) (HM8.out.2.only0 hO))
  have HN9 := hid (And.intro (HN.out.1.only0 hO) (HN.out.2.only0 hO))
  have BA9 := hid (BA.out.only hO (by simp))
  have R9 := hid (R8.out.only hO (by simp))
  have W9 := hid (W8.out.only hO (by simp) (by simp))
  have O9 := hid (O8.out.trans hO)
  have V9 := hid (V8.out.only0 hO)
  clear hO BX8 BU8 HM8 HN BA R8 W8 O8 V8 QP RFS
  have EQ := hid (eqh_any y _ _ _ _ wc HM9.out.1 HM9.out.2 HN9.out.1 HN9.out.2 (by have := MK.out.l1; omega) (by have := MK.out.l2; omega))
  go_wp2_with (first
    | (go_big_want; refine wp_load_at 25 _ rfl ⟨X, 0, none⟩ (hC y (.slice ma' y.mods.length mc') (.slice ka' y.marks.length kc')) rfl (ho_hdrB BX9.out) ?_; simp only [Act.put, List.setIfInBounds_toArray, List.set_cons_zero, List.set_cons_succ])
    | (go_big_want; refine wp_load_at 25 _ rfl ⟨A, 0, none⟩ (hC y (.slice ma2 y.mods.length mc2) (.slice ka2 y.marks.length kc2)) rfl (ho_hdrB BA9.out) ?_; simp only [Act.put, List.setIfInBounds_toArray, List.set_cons_zero, List.set_cons_succ]))
  refine EQ.out.mono ?_
  rintro e wa ⟨rfl, oa⟩
  have OA := hid oa
  clear oa EQ
  go_wp2_with fail
  refine (pos_any r st _ wa (R9.out.only OA.out (by simp))).mono ?_
  rintro e wb ⟨rfl, hwb⟩
  rw [← hwb]
  clear hwb wb
  go_wp2_with fail
  refine (len_any b sv (bitsH um y) wa (W9.out.only OA.out (by simp) (by simp))).mono ?_
  rintro e wb ⟨rfl, nn, hwb⟩
  have OB := hid (show Only [] wc wb from by rw [hwb]; exact OA.out.drewN nn)
  clear hwb OA
  have c1 := (BX9.out.only OB.out (by simp)).cell (i := 1) (v := .bool y.intra) rfl
  have ri := RI.out
  have lb : (((bitsH um y).length : Int) == ((bitsH um y).length : Int)) = true := beq_self_eq_true _
  go_wp2_with fail
  refine (hawake_any wb (V9.out.only0 OB.out)).mono ?_
  rintro e wz ⟨rfl, oz⟩
  go_wp2_with fail
  go_ret
  exact ⟨rfl, (O9.out.trans OB.out).trans oz⟩
end Go.Proofs.YtojahafmfcfpaaaGreatDoor


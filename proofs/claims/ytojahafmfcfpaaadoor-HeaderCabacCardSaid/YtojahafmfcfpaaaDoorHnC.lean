/- HeaderCabac: the walk. -/
import Derived.Test.YtojahafmfcfpaaaDoorHnS
import Derived.Test.YtojahafmfcfpaaaDoorHlE
namespace Go.Proofs.YtojahafmfcfpaaaDoor
open Go.RowKit
set_option linter.unusedVariables false
set_option linter.unusedSimpArgs false

theorem setsN (n : N8) (v : Int) : (nL n).toArray.setIfInBounds 7 (.int .i64 v) = (nL { n with h := v }).toArray := rfl
theorem setU_cab (un : UN) : (uL un).toArray.setIfInBounds 4 (.bool true) = (uL (cabU un)).toArray := rfl
/-- A string without its i-th byte. -/
def cutB (s : ByteArray) (i : Nat) : ByteArray := s.extract 0 i ++ s.extract (i + 1) s.size
theorem cut_chars (A B : List Bool) (b : Bool) : cutB (chars (A ++ b :: B)) A.length = chars (A ++ B) := by
  unfold cutB
  rw [chars_extract, chars_extract, chars_append]
  congr 1
  simp [List.take_append, List.drop_append]
set_option maxRecDepth 100000 in
set_option maxHeartbeats 16000000 in
theorem hcabac_any (x : HV) (un : UN) (n : N8) (mv kv : Value) (w : World) (hVr : Vars w) (h1 : HoldsM w mv x.mods) (h2 : HoldsM w kv x.marks) (o1 : OksM x.mods) (o2 : OksM x.marks) (r0 : 0 ≤ un.ref) :
    Calls Tryd.prog 4 #[hV x mv kv, uV un, nV n] w fun e w' => e = .returned (.bool true) ∧ Only [] w w' := by
  obtain ⟨ma, mc, hmv⟩ := holdsM_slice h1
  obtain ⟨ka, kc, hkv⟩ := holdsM_slice h2
  subst hmv hkv
  obtain ⟨W, hW, bX, bU, bN, oW⟩ := blk3 w 25 31 32 (hC x (.slice ma x.mods.length mc) (.slice ka x.marks.length kc)).toArray (uL un).toArray (nL n).toArray
  obtain ⟨X, hX⟩ : ∃ X, X = w.heap.size := ⟨_, rfl⟩
  rw [← hX] at bX bU bN
  obtain ⟨n', hn'⟩ : ∃ m, m = { n with h := bits .andNot .i64 n.h 1 } := ⟨_, rfl⟩
  have BX := hid bX
  have BU := hid bU
  have BN := hid bN
  have OW := hid oW
  have VV := hid (hVr.only0 oW)
  have VL := hid (fun m => hVr.lt m)
  have HM0 := hid (And.intro (h1.only0 oW) (h2.only0 oW))
  have g0 : ∀ l v k c, HoldsM w (.slice v k c) l → ∀ ad nn d, (Value.slice v k c) = .slice (some ad) nn d → l ≠ [] → ad.block < X := fun l v k c h ad nn d e hl => by cases e; have := HoldsM.lt h hl; omega
  have LT := hid (And.intro (g0 _ _ _ _ h1) (g0 _ _ _ _ h2))
  have XW := hid (show w.heap.size ≤ X ∧ X + 1 + 1 < W.heap.size ∧ X < W.heap.size from ⟨by omega, bN.lt, bX.lt⟩)
  have MA := hid (fun w' (a : HoldsM w' (.slice ma x.mods.length mc) x.mods) (b : HoldsM w' (.slice ka x.marks.length kc) x.marks) => made_any x un n' (.slice ma x.mods.length mc) (.slice ka x.marks.length kc) w' a b o1 o2 r0)
  have MK := mok_made un n' x r0
  have CB : (madeU un n' (bytesN n')).p.cab = false := by rw [hn']; exact andNot_cab n.h
  obtain ⟨um, hum⟩ : ∃ u, u = madeU un n' (bytesN n') := ⟨_, rfl⟩
  rw [← hum] at MA MK CB
  obtain ⟨y, hy⟩ : ∃ y, y = madeH um x := ⟨_, rfl⟩
  rw [← hy] at MA MK
  have MK := hid MK
  have CB := hid CB
  have NN := hid hn'
  have n7 := BN.out.cell (i := 7) (v := .int .i64 n.h) rfl
  have z7 := BN.out.frozen 7
  clear h1 h2 o1 o2 r0 bX bU bN oW hVr hum hy hn' g0
  simp only [hV, uV, nV, hC, uL, pL, sL, nL, List.cons_append, List.nil_append] at hW ⊢
  go_enter Tryd.func4, Tryd.ntmps4
  go_upto_region 1 with (fail)
  rw [← hW, ← hX]
  clear hW hX
  go_upto_region 2 with (fail)
  generalize hw1 : World.setCell W _ _ = W1
  have oN : Only [X + 1 + 1] W W1 := by rw [← hw1]; exact (Only.refl _ _).setCell (p := ⟨X + 1 + 1, 7, none⟩) (.inl (by simp)) _
  have BN1 := hid (show Blk W1 (X + 1 + 1) 32 (nL n').toArray from by rw [← hw1, NN.out, ← setsN]; exact BN.out.set 7 _)
  have BX1 := hid (BX.out.only oN (by simp; omega))
  have BU1 := hid (BU.out.only oN (by simp))
  have HM1 := hid (show HoldsM W1 (.slice ma x.mods.length mc) x.mods ∧ HoldsM W1 (.slice ka x.marks.length kc) x.marks from ⟨HM0.out.1.only2 oN (fun ad nn c e hl hm => by have := LT.out.1 ad nn c e hl; simp at hm; omega), HM0.out.2.only2 oN (fun ad nn c e hl hm => by have := LT.out.2 ad nn c e hl; simp at hm; omega)⟩)
  have O1 := hid (OW.out.trans2 oN (fun y hy => .inr (by have := XW.out; simp at hy; omega)))
  have S1 := hid (show X + 1 + 1 < W1.heap.size from BN1.out.lt)
  have V1 := hid (VV.out.only oN (fun m hm => by have := VL.out m; have := XW.out; simp at hm; omega))
  clear hw1 oN n7 z7 BX BU BN OW VV HM0 LT
  go_wp2_with (first
    | (refine load_atA rfl 25 _ rfl ⟨X, 0, none⟩ (hC x (.slice ma x.mods.length mc) (.slice ka x.marks.length kc)) rfl (ho_hdrB BX1.out) ?_)
    | (refine load_atA rfl 31 _ rfl ⟨X + 1, 0, none⟩ (uL un) rfl (ho_unitB BU1.out) ?_)
    | (refine load_atA rfl 32 _ rfl ⟨X + 1 + 1, 0, none⟩ (nL n') rfl (hl_n8 _ _ _ (fun j v hj => BN1.out.cell (by simpa using hj))) ?_))
  refine (MA.out W1 HM1.out.1 HM1.out.2).mono ?_
  rintro e w1 ⟨mv', kv', rfl, hm, hk, o1, f1⟩
  obtain ⟨ma', mc', e1⟩ := holdsM_slice hm
  obtain ⟨ka', kc', e2⟩ := holdsM_slice hk
  subst e1 e2
  have BX2 := hid (BX1.out.only o1 (by simp))
  have BU2 := hid (BU1.out.only o1 (by simp))
  have F1 := hid f1
  have HM := hid (And.intro hm hk)
  have O2 := hid o1
  clear hm hk o1 f1 MA BX1 BU1 BN1
  go_upto_region 3 with (first
    | (refine store_blk rfl 25 _ _ rfl X 0 _ _ (hC y (.slice ma' y.mods.length mc') (.slice ka' y.marks.length kc')) rfl rfl (info_hdr' _ _ _) BX2.out (by simp [hC]) (one_hC _ rfl rfl) ?_; intro w2 hB2 hO2; rw [setsA_h] at hB2)
    | (refine store_blk rfl 31 _ _ rfl (X + 1) 0 _ _ (uL um) rfl rfl (info_unit _) (BU2.out.only hO2 (by simp)) (by simp [uL, pL, sL]) (one_uL _) ?_; intro w3 hB3 hO3; rw [setsU_all] at hB3))
  have o3 : Only [X, X + 1] w1 w3 := (hO2.mono (by intro y _ hy; simp at hy ⊢; exact .inl hy)).trans (hO3.mono (by intro y _ hy; simp at hy ⊢; exact .inr hy))
  have g3 : ∀ g, g ∈ ownOf (.slice ma' y.mods.length mc') ∨ g ∈ ownOf (.slice ka' y.marks.length kc') → g ∉ [X, X + 1] := fun g hg hm => by
    have := F1.out g hg; have := S1.out; simp at hm; omega
  have HM3 := hid (show HoldsM w3 (.slice ma' y.mods.length mc') y.mods ∧ HoldsM w3 (.slice ka' y.marks.length kc') y.marks from ⟨HM.out.1.only2 o3 (fun ad nn c e hl hm => g3 _ (.inl (by cases e; simp [ownOf, Value.ownBlock])) hm), HM.out.2.only2 o3 (fun ad nn c e hl hm => g3 _ (.inr (by cases e; simp [ownOf, Value.ownBlock])) hm)⟩)
  have BX3 := hid (hB2.only hO3 (by simp))
  have BU3 := hid hB3
  have O3 := hid (show Only [] w w3 from ((O1.out.trans O2.out).trans2 o3 (fun y hy => .inr (by have := XW.out; simp at hy; omega))))
  have V3 := hid (show Vars w3 from ((V1.out.only0 O2.out).only o3 (fun m hm => by have := VL.out m; have := XW.out; simp at hm; omega)))
  clear hB2 hB3 hO2 hO3 o3 g3 F1 HM BX2 BU2 O1 O2 V1 S1
  have U0 := hid (Blk.new w3 31 (uL u0).toArray)
  have A0 := hid ((Only.refl [] w3).alloc (.cells (uL u0).toArray 31))
  go_upto_region 4 with (first
    | (refine load_atA rfl 31 _ rfl ⟨X + 1, 0, none⟩ (uL um) rfl (ho_unitB (BU3.out)) ?_)
    | (refine store_blk rfl 31 _ _ rfl w3.heap.size 0 _ _ (uL um) rfl rfl (info_unit _) U0.out (by simp [uL, pL, sL]) (one_uL _) ?_; intro w4 hB4 hO4; rw [setsU_all] at hB4))
  have o4 : Only [] w3 w4 := A0.out.trans2 hO4 (fun y hy => .inr (by simp at hy; omega))
  obtain ⟨V, hV'⟩ : ∃ V, V = w3.heap.size := ⟨_, rfl⟩
  rw [← hV'] at hB4 ⊢
  have VW := hid (show w3.heap.size ≤ V ∧ X + 1 < V from ⟨by omega, by have := BU3.out.lt; omega⟩)
  have BV := hid hB4
  have O4 := hid o4
  have q4 := hB4.cell (i := 4) (v := .bool um.p.cab) rfl
  have z4 := hB4.frozen 4
  clear hB4 hO4 o4 hV' U0 A0
  go_upto_region 5 with (fail)
  generalize hw5 : World.setCell w4 _ _ = w5
  have oV : Only [V] w4 w5 := by rw [← hw5]; exact (Only.refl _ _).setCell (p := ⟨V, 4, none⟩) (.inl (by simp)) _
  have BV5 := hid (show Blk w5 V 31 (uL (cabU um)).toArray from by rw [← hw5, ← setU_cab]; exact BV.out.set 4 _)
  have o5 : Only [] w3 w5 := O4.out.trans2 oV (fun y hy => .inr (by rw [List.mem_singleton.1 hy]; exact VW.out.1))
  have BX5 := hid (BX3.out.only o5 (by simp))
  have BU5 := hid (BU3.out.only o5 (by simp))
  have HM5 := hid (And.intro (HM3.out.1.only0 o5) (HM3.out.2.only0 o5))
  have O5 := hid (O3.out.trans o5)
  have V5 := hid (V3.out.only0 o5)
  clear hw5 oV o5 q4 z4 BV O4 BX3 BU3 HM3 O3 V3
  have CK2 := check_cab MK.out.ck (MK.out.c0 CB.out)
  have B1 := hid (fun w' (o : Only [] w5 w') => hbits_any y um _ _ w' (V5.out.only0 o) (HM5.out.1.only0 o) (HM5.out.2.only0 o) MK.out.om MK.out.ok MK.out.r0)
  have B2 := hid (fun w' (o : Only [] w5 w') => hbits_any y (cabU um) _ _ w' (V5.out.only0 o) (HM5.out.1.only0 o) (HM5.out.2.only0 o) MK.out.om MK.out.ok MK.out.r0)
  rw [hBits_ok MK.out.ck] at B1
  rw [hBits_ok CK2] at B2
  obtain ⟨A, B, eS, eT⟩ := bits_cab um y CB.out (MK.out.c0 CB.out)
  have PS := hid (show 0 < (bitsH um y).length from bits_pos y)
  obtain ⟨Mid, hMid⟩ : ∃ m, m = (if y.intra = true then ([] : List Bool) else [true]) := ⟨_, rfl⟩
  rw [← hMid] at eT
  have PL := hid (bitsH_le MK.out.ck)
  rw [eS] at B1 PS PL
  rw [eT] at B2
  have MI := hid hMid
  clear CK2 eS eT hMid
  go_cut [8, 9] from 25 to 30 (fun s8 s9 wx => s8 = .string (chars (A ++ B)) ∧ s9 = .string (chars (A ++ (Mid ++ B))) ∧ Only [] w5 wx)
  case first =>
    have LX := hid (fun w (h : Only [] w5 w) => hl_hdr X y _ _ w (fun j v hj => (BX5.out.only h (by simp)).cell (by simpa using hj)))
    have LU := hid (fun w (h : Only [] w5 w) => hl_unit (X + 1) um w (fun j v hj => (BU5.out.only h (by simp)).cell (by simpa using hj)))
    have LV := hid (fun w (h : Only [] w5 w) => hl_unit V (cabU um) w (fun j v hj => (BV5.out.only h (by simp)).cell (by simpa using hj)))
    refine wp_region_heldH (fun w' => Only [] w5 w') 8 (by kernel_rfl) rfl (Only.refl [] w5).drew (fun hS => ?_)
    generalize w5.drew = wd at *
    refine wpAnyH_read 0 rfl (by kernel_rfl) (by kernel_rfl) (by kernel_rfl) (fun _ _ _ h => h) hS (yields_load 25 _ (by rfl) rfl ⟨X, 0, none⟩ (hC y (.slice ma' y.mods.length mc') (.slice ka' y.marks.length kc')) rfl LX.out) ?_
    (try simp only [Act.put, List.setIfInBounds_toArray, List.set_cons_zero, List.set_cons_succ])
    refine wpAnyH_read 1 rfl (by kernel_rfl) (by kernel_rfl) (by kernel_rfl) (fun _ _ _ h => h) hS (yields_load 31 _ (by rfl) rfl ⟨X + 1, 0, none⟩ (uL um) rfl LU.out) ?_
    (try simp only [Act.put, List.setIfInBounds_toArray, List.set_cons_zero, List.set_cons_succ])
    refine wpAnyH_read 3 rfl (by kernel_rfl) (by kernel_rfl) (by kernel_rfl) (fun _ _ _ h => h) hS (yields_load 25 _ (by rfl) rfl ⟨X, 0, none⟩ (hC y (.slice ma' y.mods.length mc') (.slice ka' y.marks.length kc')) rfl LX.out) ?_
    (try simp only [Act.put, List.setIfInBounds_toArray, List.set_cons_zero, List.set_cons_succ])
    refine wpAnyH_read 4 rfl (by kernel_rfl) (by kernel_rfl) (by kernel_rfl) (fun _ _ _ h => h) hS (yields_load 31 _ (by rfl) rfl ⟨V, 0, none⟩ (uL (cabU um)) rfl LV.out) ?_
    (try simp only [Act.put, List.setIfInBounds_toArray, List.set_cons_zero, List.set_cons_succ])
    refine wpAnyH_call 2 rfl (by kernel_rfl) (fun J hJ => ?_)
    rw [if_pos (by rfl)]
    go_simp
    refine (B1.out _ hS).mono ?_
    rintro e y1 ⟨rfl, p_⟩
    have s1 := hS.trans p_
    clear p_
    refine hJ.out _ _ s1 ?_
    clear hJ J
    (try simp only [Act.put, List.setIfInBounds_toArray, List.set_cons_zero, List.set_cons_succ])
    refine wpAnyH_call 5 rfl (by kernel_rfl) (fun J hJ => ?_)
    rw [if_pos (by rfl)]
    go_simp
    refine (B2.out _ s1).mono ?_
    rintro e y2 ⟨rfl, p_⟩
    have s2 := s1.trans p_
    clear p_
    refine hJ.out _ _ s2 ?_
    clear hJ J
    (try simp only [Act.put, List.setIfInBounds_toArray, List.set_cons_zero, List.set_cons_succ])
    refine wpAnyH_read 6 (v := ?va1) rfl (by kernel_rfl) (by kernel_rfl) (by kernel_rfl) (fun _ _ _ h => h) s2 (Or.inl ⟨by rfl, ?ya1⟩) ?ra1
    case ya1 =>
      intro w hSw
      skip
      go_simp
      (try with_reducible rfl)
    (try simp only [Act.put, List.setIfInBounds_toArray, List.set_cons_zero, List.set_cons_succ])
    refine wpAnyH_read 7 (v := ?va2) rfl (by kernel_rfl) (by kernel_rfl) (by kernel_rfl) (fun _ _ _ h => h) s2 (Or.inl ⟨by rfl, ?ya2⟩) ?ra2
    case ya2 =>
      intro w hSw
      skip
      go_simp
      (try with_reducible rfl)
    (try simp only [Act.put, List.setIfInBounds_toArray, List.set_cons_zero, List.set_cons_succ])
    refine wpAnyH_done (by kernel_rfl) ?_ _
    go_wp2_with fail
    go_meet
    exact ⟨rfl, rfl, s2⟩
  case rest =>
  obtain ⟨rfl, rfl, hO⟩ := hcut
  have BX6 := hid (BX5.out.only hO (by simp))
  have BU6 := hid (BU5.out.only hO (by simp))
  have O6 := hid (O5.out.trans hO)
  have V6 := hid (V5.out.only0 hO)
  clear hO BX5 BU5 BV5 HM5 O5 V5 B1 B2
  have AW := hid (fun w' (h : Vars w') => hawake_any w' h)
  obtain ⟨S, hS⟩ : ∃ S, S = chars (A ++ B) := ⟨_, rfl⟩
  have SZ : 0 < S.size := by rw [hS, size_chars]; exact PS.out
  have s3 : ¬ S.toList = [] := by
    intro h
    rw [Lib.toList_data] at h
    have : S.size = 0 := by show S.data.size = 0; rw [← Array.length_toList, h]; rfl
    omega
  have s1 : (S.toList == []) = false := beq_eq_false_iff_ne.2 s3
  have s2 : S.toList.isEmpty = false := by
    cases h : S.toList
    · exact absurd h s3
    · rfl
  obtain ⟨cb, hcb⟩ : ∃ c, c = um.p.cab := ⟨_, rfl⟩
  have u4 := BU6.out.cell (i := 4) (v := .bool um.p.cab) rfl
  rw [CB.out] at u4
  have c1 := BX6.out.cell (i := 1) (v := .bool y.intra) rfl
  have SH := hid hS
  rw [← hS]
  clear hS hcb
  obtain ⟨nt, hnt⟩ : ∃ b, b = y.intra := ⟨_, rfl⟩
  have MI2 := MI.out
  rw [← hnt] at c1 MI2
  clear hnt MI
  cases nt with
  | true =>
    rw [if_pos rfl] at MI2
    subst MI2
    rw [List.nil_append, ← SH.out]
    have e1 : (S.toList == S.toList) = true := beq_self_eq_true _
    go_wp2_with fail
    refine (AW.out _ V6.out).mono ?_
    rintro e wz ⟨rfl, oz⟩
    go_wp2_with fail
    go_ret
    exact ⟨rfl, O6.out.trans oz⟩
  | false =>
    rw [if_neg (by decide)] at MI2
    subst MI2
    rw [List.singleton_append]
    obtain ⟨T, hT⟩ : ∃ T, T = chars (A ++ true :: B) := ⟨_, rfl⟩
    rw [← hT]
    have tz : T.size = S.size + 1 := by rw [hT, SH.out, size_chars, size_chars]; simp; omega
    have sb : (S.size : Int) ≤ 200000 := by have := PL.out; rw [SH.out, size_chars]; omega
    have d1 : ((T.size : Int) != (S.size : Int) + 1) = false := by rw [tz]; simp
    have d2 : ((S.size + 1 : Nat) : Int) = (S.size : Int) + 1 := by omega
    obtain ⟨k, hk⟩ : ∃ k, k = A.length := ⟨_, rfl⟩
    have kS : k ≤ S.size := by rw [hk, SH.out, size_chars]; simp
    have KC := hid (show cutB T k = S ∧ ∀ h : k < T.size, T[k] = 49 from by
      rw [hk, hT, SH.out]
      refine ⟨cut_chars A B true, fun h => ?_⟩
      rw [chars_get]
      simp)
    have TZ := hid tz
    clear hT hk tz
    go_wp2_with fail
    go_loopg [10] (k + 1) (fun g t wr => ∃ i : Nat, i + g = k + 1 ∧ 1 ≤ g ∧ t = .int .i64 i ∧ Only [] wc wr)
    case atStart => exact ⟨0, by omega, by omega, rfl, Only.refl _ _⟩
    case round =>
      obtain ⟨i, hi, hg1, rfl, hO⟩ := hrel
      have O7 := hid hO
      have iT : i < T.size := by have := TZ.out; omega
      have i0 : (0 : Int) ≤ (i : Int) := by omega
      have i1 : (i : Int) < (T.size : Int) := by omega
      have i2 : (i : Int) + 1 ≤ (T.size : Int) := by omega
      have iN : i ≤ T.size := by omega
      have i4 : (T.size : Int) ≤ 200001 := by have := TZ.out; omega
      have iw : IntKind.i64.wrap ((i : Int) + 1) = (i : Int) + 1 := IntWalk.i64_in _ ⟨by omega, by omega⟩
      have i5 : (0 : Int) ≤ (i : Int) + 1 := by omega
      have tn : ((i : Int) + 1).toNat = i + 1 := by omega
      clear i4
      have iM : i + 1 ≤ T.size := by omega
      have i3 : (T.size : Int) ≤ 200001 := by have := TZ.out; omega
      clear hO
      go_wp2_with fail
      refine wp_region_heldH (fun w' => Only [] wc w') 16 (by kernel_rfl) rfl O7.out.drew (fun hS => ?_)
      generalize World.drew _ = wd at *
      refine wpAnyH_read 0 (v := ?va501) rfl (by kernel_rfl) (by kernel_rfl) (by kernel_rfl) (fun _ _ _ h => h) hS (Or.inl ⟨by rfl, ?ya501⟩) ?ra501
      case ya501 =>
        intro w hSw
        skip
        go_simp
        (try with_reducible rfl)
      (try simp only [Act.put, List.setIfInBounds_toArray, List.set_cons_zero, List.set_cons_succ])
      refine wpAnyH_read 1 (v := ?va502) rfl (by kernel_rfl) (by kernel_rfl) (by kernel_rfl) (fun _ _ _ h => h) hS (Or.inl ⟨by rfl, ?ya502⟩) ?ra502
      case ya502 =>
        intro w hSw
        skip
        go_simp
        (try with_reducible rfl)
      (try simp only [Act.put, List.setIfInBounds_toArray, List.set_cons_zero, List.set_cons_succ])
      refine wpAnyH_read 2 (v := ?va503) rfl (by kernel_rfl) (by kernel_rfl) (by kernel_rfl) (fun _ _ _ h => h) hS (Or.inl ⟨by rfl, ?ya503⟩) ?ra503
      case ya503 =>
        intro w hSw
        skip
        go_simp
        (try with_reducible rfl)
      (try simp only [Act.put, List.setIfInBounds_toArray, List.set_cons_zero, List.set_cons_succ])
      generalize hv : ((T[i]'iT).toNat : Int) = v
      have HV := hid hv
      clear hv
      by_cases c49 : v = 49
      · have e49 : (v == 49) = true := by rw [beq_iff_eq]; exact c49
        have V49 := hid c49
        clear c49
        obtain ⟨P1, hP1⟩ : ∃ p, p = T.extract 0 i := ⟨_, rfl⟩
        obtain ⟨P2, hP2⟩ : ∃ p, p = T.extract (i + 1) T.size := ⟨_, rfl⟩
        obtain ⟨CC, hCC⟩ : ∃ c, c = P1 ++ P2 := ⟨_, rfl⟩
        have f1 : T.extract 0 i = P1 := hP1.symm
        have f2 : T.extract (i + 1) T.size = P2 := hP2.symm
        have f3 : P1 ++ P2 = CC := hCC.symm
        have nl : ¬ (9223372036854775807 < P1.size + P2.size) := by rw [hP1, hP2, ByteArray.size_extract, ByteArray.size_extract]; omega
        have CE := hid (show CC = cutB T i by rw [hCC, hP1, hP2]; rfl)
        clear hP1 hP2 hCC
        by_cases cS : CC = S
        · have eS : (CC.toList == S.toList) = true := beq_toListB (by simp [cS])
          clear cS
          refine wpAnyH_read 3 (v := ?va601) rfl (by kernel_rfl) (by kernel_rfl) (by kernel_rfl) (fun _ _ _ h => h) hS (Or.inl ⟨by rfl, ?ya601⟩) ?ra601
          case ya601 =>
            intro w hSw
            skip
            go_simp
            (try with_reducible rfl)
          (try simp only [Act.put, List.setIfInBounds_toArray, List.set_cons_zero, List.set_cons_succ])
          refine wpAnyH_read 4 (v := ?va602) rfl (by kernel_rfl) (by kernel_rfl) (by kernel_rfl) (fun _ _ _ h => h) hS (Or.inl ⟨by rfl, ?ya602⟩) ?ra602
          case ya602 =>
            intro w hSw
            skip
            go_simp
            (try with_reducible rfl)
          (try simp only [Act.put, List.setIfInBounds_toArray, List.set_cons_zero, List.set_cons_succ])
          refine wpAnyH_read 5 (v := ?va603) rfl (by kernel_rfl) (by kernel_rfl) (by kernel_rfl) (fun _ _ _ h => h) hS (Or.inl ⟨by rfl, ?ya603⟩) ?ra603
          case ya603 =>
            intro w hSw
            skip
            go_simp
            (try with_reducible rfl)
          (try simp only [Act.put, List.setIfInBounds_toArray, List.set_cons_zero, List.set_cons_succ])
          refine wpAnyH_read 6 (v := ?va604) rfl (by kernel_rfl) (by kernel_rfl) (by kernel_rfl) (fun _ _ _ h => h) hS (Or.inl ⟨by rfl, ?ya604⟩) ?ra604
          case ya604 =>
            intro w hSw
            skip
            go_simp
            (try with_reducible rfl)
          (try simp only [Act.put, List.setIfInBounds_toArray, List.set_cons_zero, List.set_cons_succ])
          refine wpAnyH_read 7 (v := ?va605) rfl (by kernel_rfl) (by kernel_rfl) (by kernel_rfl) (fun _ _ _ h => h) hS (Or.inl ⟨by rfl, ?ya605⟩) ?ra605
          case ya605 =>
            intro w hSw
            skip
            go_simp
            (try with_reducible rfl)
          (try simp only [Act.put, List.setIfInBounds_toArray, List.set_cons_zero, List.set_cons_succ])
          refine wpAnyH_read 8 (v := ?va606) rfl (by kernel_rfl) (by kernel_rfl) (by kernel_rfl) (fun _ _ _ h => h) hS (Or.inl ⟨by rfl, ?ya606⟩) ?ra606
          case ya606 =>
            intro w hSw
            skip
            go_simp
            (try with_reducible rfl)
          (try simp only [Act.put, List.setIfInBounds_toArray, List.set_cons_zero, List.set_cons_succ])
          refine wpAnyH_read 9 (v := ?va607) rfl (by kernel_rfl) (by kernel_rfl) (by kernel_rfl) (fun _ _ _ h => h) hS (Or.inl ⟨by rfl, ?ya607⟩) ?ra607
          case ya607 =>
            intro w hSw
            skip
            go_simp
            (try with_reducible rfl)
          (try simp only [Act.put, List.setIfInBounds_toArray, List.set_cons_zero, List.set_cons_succ])
          refine wpAnyH_read 10 (v := ?va608) rfl (by kernel_rfl) (by kernel_rfl) (by kernel_rfl) (fun _ _ _ h => h) hS (Or.inl ⟨by rfl, ?ya608⟩) ?ra608
          case ya608 =>
            intro w hSw
            skip
            go_simp
            (try with_reducible rfl)
          (try simp only [Act.put, List.setIfInBounds_toArray, List.set_cons_zero, List.set_cons_succ])
          refine wpAnyH_read 11 (v := ?va609) rfl (by kernel_rfl) (by kernel_rfl) (by kernel_rfl) (fun _ _ _ h => h) hS (Or.inl ⟨by rfl, ?ya609⟩) ?ra609
          case ya609 =>
            intro w hSw
            skip
            go_simp
            (try with_reducible rfl)
          (try simp only [Act.put, List.setIfInBounds_toArray, List.set_cons_zero, List.set_cons_succ])
          refine wpAnyH_read 12 (v := ?va610) rfl (by kernel_rfl) (by kernel_rfl) (by kernel_rfl) (fun _ _ _ h => h) hS (Or.inl ⟨by rfl, ?ya610⟩) ?ra610
          case ya610 =>
            intro w hSw
            skip
            go_simp
            (try with_reducible rfl)
          (try simp only [Act.put, List.setIfInBounds_toArray, List.set_cons_zero, List.set_cons_succ])
          refine wpAnyH_read 13 (v := ?va611) rfl (by kernel_rfl) (by kernel_rfl) (by kernel_rfl) (fun _ _ _ h => h) hS (Or.inl ⟨by rfl, ?ya611⟩) ?ra611
          case ya611 =>
            intro w hSw
            skip
            go_simp
            (try with_reducible rfl)
          (try simp only [Act.put, List.setIfInBounds_toArray, List.set_cons_zero, List.set_cons_succ])
          refine wpAnyH_read 14 (v := ?va612) rfl (by kernel_rfl) (by kernel_rfl) (by kernel_rfl) (fun _ _ _ h => h) hS (Or.inl ⟨by rfl, ?ya612⟩) ?ra612
          case ya612 =>
            intro w hSw
            skip
            go_simp
            (try with_reducible rfl)
          (try simp only [Act.put, List.setIfInBounds_toArray, List.set_cons_zero, List.set_cons_succ])
          refine wpAnyH_read 15 (v := ?va613) rfl (by kernel_rfl) (by kernel_rfl) (by kernel_rfl) (fun _ _ _ h => h) hS (Or.inl ⟨by rfl, ?ya613⟩) ?ra613
          case ya613 =>
            intro w hSw
            skip
            go_simp
            (try with_reducible rfl)
          (try simp only [Act.put, List.setIfInBounds_toArray, List.set_cons_zero, List.set_cons_succ])
          refine wpAnyH_done (by kernel_rfl) ?_ _
          have s0 := hS
          go_wp2_with fail
          refine (AW.out _ (V6.out.only0 s0)).mono ?_
          rintro e wz ⟨rfl, oz⟩
          go_wp2_with fail
          go_ret
          exact ⟨rfl, (O6.out.trans s0).trans oz⟩
        · have eS : (CC.toList == S.toList) = false := beq_toListB (by simp [cS])
          have ik : i ≠ k := fun e => cS (by rw [CE.out, e]; exact KC.out.1)
          have GK := hid (show ∃ g, gk = g + 1 ∧ 1 ≤ g ∧ i + 1 + g = k + 1 from ⟨gk - 1, by omega, by omega, by omega⟩)
          clear cS ik hi hg1
          obtain ⟨g, hg, _⟩ := GK.out
          subst hg
          refine wpAnyH_read 3 (v := ?va701) rfl (by kernel_rfl) (by kernel_rfl) (by kernel_rfl) (fun _ _ _ h => h) hS (Or.inl ⟨by rfl, ?ya701⟩) ?ra701
          case ya701 =>
            intro w hSw
            skip
            go_simp
            (try with_reducible rfl)
          (try simp only [Act.put, List.setIfInBounds_toArray, List.set_cons_zero, List.set_cons_succ])
          refine wpAnyH_read 4 (v := ?va702) rfl (by kernel_rfl) (by kernel_rfl) (by kernel_rfl) (fun _ _ _ h => h) hS (Or.inl ⟨by rfl, ?ya702⟩) ?ra702
          case ya702 =>
            intro w hSw
            skip
            go_simp
            (try with_reducible rfl)
          (try simp only [Act.put, List.setIfInBounds_toArray, List.set_cons_zero, List.set_cons_succ])
          refine wpAnyH_read 5 (v := ?va703) rfl (by kernel_rfl) (by kernel_rfl) (by kernel_rfl) (fun _ _ _ h => h) hS (Or.inl ⟨by rfl, ?ya703⟩) ?ra703
          case ya703 =>
            intro w hSw
            skip
            go_simp
            (try with_reducible rfl)
          (try simp only [Act.put, List.setIfInBounds_toArray, List.set_cons_zero, List.set_cons_succ])
          refine wpAnyH_read 6 (v := ?va704) rfl (by kernel_rfl) (by kernel_rfl) (by kernel_rfl) (fun _ _ _ h => h) hS (Or.inl ⟨by rfl, ?ya704⟩) ?ra704
          case ya704 =>
            intro w hSw
            skip
            go_simp
            (try with_reducible rfl)
          (try simp only [Act.put, List.setIfInBounds_toArray, List.set_cons_zero, List.set_cons_succ])
          refine wpAnyH_read 7 (v := ?va705) rfl (by kernel_rfl) (by kernel_rfl) (by kernel_rfl) (fun _ _ _ h => h) hS (Or.inl ⟨by rfl, ?ya705⟩) ?ra705
          case ya705 =>
            intro w hSw
            skip
            go_simp
            (try with_reducible rfl)
          (try simp only [Act.put, List.setIfInBounds_toArray, List.set_cons_zero, List.set_cons_succ])
          refine wpAnyH_read 8 (v := ?va706) rfl (by kernel_rfl) (by kernel_rfl) (by kernel_rfl) (fun _ _ _ h => h) hS (Or.inl ⟨by rfl, ?ya706⟩) ?ra706
          case ya706 =>
            intro w hSw
            skip
            go_simp
            (try with_reducible rfl)
          (try simp only [Act.put, List.setIfInBounds_toArray, List.set_cons_zero, List.set_cons_succ])
          refine wpAnyH_read 9 (v := ?va707) rfl (by kernel_rfl) (by kernel_rfl) (by kernel_rfl) (fun _ _ _ h => h) hS (Or.inl ⟨by rfl, ?ya707⟩) ?ra707
          case ya707 =>
            intro w hSw
            skip
            go_simp
            (try with_reducible rfl)
          (try simp only [Act.put, List.setIfInBounds_toArray, List.set_cons_zero, List.set_cons_succ])
          refine wpAnyH_read 10 (v := ?va708) rfl (by kernel_rfl) (by kernel_rfl) (by kernel_rfl) (fun _ _ _ h => h) hS (Or.inl ⟨by rfl, ?ya708⟩) ?ra708
          case ya708 =>
            intro w hSw
            skip
            go_simp
            (try with_reducible rfl)
          (try simp only [Act.put, List.setIfInBounds_toArray, List.set_cons_zero, List.set_cons_succ])
          refine wpAnyH_read 11 (v := ?va709) rfl (by kernel_rfl) (by kernel_rfl) (by kernel_rfl) (fun _ _ _ h => h) hS (Or.inl ⟨by rfl, ?ya709⟩) ?ra709
          case ya709 =>
            intro w hSw
            skip
            go_simp
            (try with_reducible rfl)
          (try simp only [Act.put, List.setIfInBounds_toArray, List.set_cons_zero, List.set_cons_succ])
          refine wpAnyH_read 12 (v := ?va710) rfl (by kernel_rfl) (by kernel_rfl) (by kernel_rfl) (fun _ _ _ h => h) hS (Or.inl ⟨by rfl, ?ya710⟩) ?ra710
          case ya710 =>
            intro w hSw
            skip
            go_simp
            (try with_reducible rfl)
          (try simp only [Act.put, List.setIfInBounds_toArray, List.set_cons_zero, List.set_cons_succ])
          refine wpAnyH_read 13 (v := ?va711) rfl (by kernel_rfl) (by kernel_rfl) (by kernel_rfl) (fun _ _ _ h => h) hS (Or.inl ⟨by rfl, ?ya711⟩) ?ra711
          case ya711 =>
            intro w hSw
            skip
            go_simp
            (try with_reducible rfl)
          (try simp only [Act.put, List.setIfInBounds_toArray, List.set_cons_zero, List.set_cons_succ])
          refine wpAnyH_read 14 (v := ?va712) rfl (by kernel_rfl) (by kernel_rfl) (by kernel_rfl) (fun _ _ _ h => h) hS (Or.inl ⟨by rfl, ?ya712⟩) ?ra712
          case ya712 =>
            intro w hSw
            skip
            go_simp
            (try with_reducible rfl)
          (try simp only [Act.put, List.setIfInBounds_toArray, List.set_cons_zero, List.set_cons_succ])
          refine wpAnyH_read 15 (v := ?va713) rfl (by kernel_rfl) (by kernel_rfl) (by kernel_rfl) (fun _ _ _ h => h) hS (Or.inl ⟨by rfl, ?ya713⟩) ?ra713
          case ya713 =>
            intro w hSw
            skip
            go_simp
            (try with_reducible rfl)
          (try simp only [Act.put, List.setIfInBounds_toArray, List.set_cons_zero, List.set_cons_succ])
          refine wpAnyH_done (by kernel_rfl) ?_ _
          have s0 := hS
          go_wp2_with fail
          go_roundg g
          case measure => omega
          case rel => exact ⟨i + 1, by obtain ⟨g', a, b, c⟩ := GK.out; omega, by obtain ⟨g', a, b, c⟩ := GK.out; omega, by go_num, s0⟩
      · have e49 : (v == 49) = false := by rw [beq_eq_false_iff_ne]; exact c49
        have ik : i ≠ k := fun e => c49 (by
          subst e
          rw [← HV.out, KC.out.2 iT]; rfl)
        have GK := hid (show ∃ g, gk = g + 1 ∧ 1 ≤ g ∧ i + 1 + g = k + 1 from ⟨gk - 1, by omega, by omega, by omega⟩)
        clear c49 ik hi hg1
        obtain ⟨g, hg, _⟩ := GK.out
        subst hg
        refine wpAnyH_read 3 (v := ?va801) rfl (by kernel_rfl) (by kernel_rfl) (by kernel_rfl) (fun _ _ _ h => h) hS (Or.inl ⟨by rfl, ?ya801⟩) ?ra801
        case ya801 =>
          intro w hSw
          skip
          go_simp
          (try with_reducible rfl)
        (try simp only [Act.put, List.setIfInBounds_toArray, List.set_cons_zero, List.set_cons_succ])
        refine wpAnyH_read 4 (v := ?va802) rfl (by kernel_rfl) (by kernel_rfl) (by kernel_rfl) (fun _ _ _ h => h) hS (Or.inl ⟨by rfl, ?ya802⟩) ?ra802
        case ya802 =>
          intro w hSw
          skip
          go_simp
          (try with_reducible rfl)
        (try simp only [Act.put, List.setIfInBounds_toArray, List.set_cons_zero, List.set_cons_succ])
        refine wpAnyH_read 5 (v := undef) rfl (by kernel_rfl) (by kernel_rfl) (by kernel_rfl) (fun _ _ _ h => h) hS (Or.inr ⟨by rfl, rfl⟩) ?_
        (try simp only [Act.put, List.setIfInBounds_toArray, List.set_cons_zero, List.set_cons_succ])
        refine wpAnyH_read 6 (v := undef) rfl (by kernel_rfl) (by kernel_rfl) (by kernel_rfl) (fun _ _ _ h => h) hS (Or.inr ⟨by rfl, rfl⟩) ?_
        (try simp only [Act.put, List.setIfInBounds_toArray, List.set_cons_zero, List.set_cons_succ])
        refine wpAnyH_read 7 (v := undef) rfl (by kernel_rfl) (by kernel_rfl) (by kernel_rfl) (fun _ _ _ h => h) hS (Or.inr ⟨by rfl, rfl⟩) ?_
        (try simp only [Act.put, List.setIfInBounds_toArray, List.set_cons_zero, List.set_cons_succ])
        refine wpAnyH_read 8 (v := undef) rfl (by kernel_rfl) (by kernel_rfl) (by kernel_rfl) (fun _ _ _ h => h) hS (Or.inr ⟨by rfl, rfl⟩) ?_
        (try simp only [Act.put, List.setIfInBounds_toArray, List.set_cons_zero, List.set_cons_succ])
        refine wpAnyH_read 9 (v := undef) rfl (by kernel_rfl) (by kernel_rfl) (by kernel_rfl) (fun _ _ _ h => h) hS (Or.inr ⟨by rfl, rfl⟩) ?_
        (try simp only [Act.put, List.setIfInBounds_toArray, List.set_cons_zero, List.set_cons_succ])
        refine wpAnyH_read 10 (v := undef) rfl (by kernel_rfl) (by kernel_rfl) (by kernel_rfl) (fun _ _ _ h => h) hS (Or.inr ⟨by rfl, rfl⟩) ?_
        (try simp only [Act.put, List.setIfInBounds_toArray, List.set_cons_zero, List.set_cons_succ])
        refine wpAnyH_read 11 (v := undef) rfl (by kernel_rfl) (by kernel_rfl) (by kernel_rfl) (fun _ _ _ h => h) hS (Or.inr ⟨by rfl, rfl⟩) ?_
        (try simp only [Act.put, List.setIfInBounds_toArray, List.set_cons_zero, List.set_cons_succ])
        refine wpAnyH_read 12 (v := undef) rfl (by kernel_rfl) (by kernel_rfl) (by kernel_rfl) (fun _ _ _ h => h) hS (Or.inr ⟨by rfl, rfl⟩) ?_
        (try simp only [Act.put, List.setIfInBounds_toArray, List.set_cons_zero, List.set_cons_succ])
        refine wpAnyH_read 13 (v := undef) rfl (by kernel_rfl) (by kernel_rfl) (by kernel_rfl) (fun _ _ _ h => h) hS (Or.inr ⟨by rfl, rfl⟩) ?_
        (try simp only [Act.put, List.setIfInBounds_toArray, List.set_cons_zero, List.set_cons_succ])
        refine wpAnyH_read 14 (v := undef) rfl (by kernel_rfl) (by kernel_rfl) (by kernel_rfl) (fun _ _ _ h => h) hS (Or.inr ⟨by rfl, rfl⟩) ?_
        (try simp only [Act.put, List.setIfInBounds_toArray, List.set_cons_zero, List.set_cons_succ])
        refine wpAnyH_read 15 (v := ?va813) rfl (by kernel_rfl) (by kernel_rfl) (by kernel_rfl) (fun _ _ _ h => h) hS (Or.inl ⟨by rfl, ?ya813⟩) ?ra813
        case ya813 =>
          intro w hSw
          skip
          go_simp
          (try with_reducible rfl)
        (try simp only [Act.put, List.setIfInBounds_toArray, List.set_cons_zero, List.set_cons_succ])
        refine wpAnyH_done (by kernel_rfl) ?_ _
        have s0 := hS
        go_wp2_with fail
        go_roundg g
        case measure => omega
        case rel => exact ⟨i + 1, by obtain ⟨g', a, b, c⟩ := GK.out; omega, by obtain ⟨g', a, b, c⟩ := GK.out; omega, by go_num, s0⟩
end Go.Proofs.YtojahafmfcfpaaaDoor

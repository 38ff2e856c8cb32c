/- HeaderOnly: the walk. -/
import Derived.Test.YtojahafmfcfpaaaGreatDoorHnS
import Derived.Test.YtojahafmfcfpaaaGreatDoorMg22
import Derived.Test.YtojahafmfcfpaaaGreatDoorMg15
import Derived.Test.YtojahafmfcfpaaaGreatDoorHlE
namespace Go.Proofs.YtojahafmfcfpaaaGreatDoor
open Go.RowKit
set_option linter.unusedVariables false
set_option linter.unusedSimpArgs false

theorem oks_lst {has m : Bool} {l : List (Int × Int × Int)} (h : lstE has m l = 0) : OksM l := by
  unfold lstE at h
  cases has
  · by_cases e : l = []
    · subst e; intro j x hx; simp at hx
    · rw [if_neg (by simp), if_neg e] at h; exact absurd h (by decide)
  · rw [if_pos rfl] at h
    unfold checkI at h
    by_cases e : 66 < l.length
    · rw [if_pos e] at h; exact absurd h (by decide)
    · rw [if_neg e] at h
      intro j x hx
      have he := firstE_at h j x hx
      obtain ⟨q1, q2, q3, q4, q5, q6, q7⟩ := errI_ok he
      obtain ⟨p1, p2, p3, p4, p5⟩ := hasI_le q1
      exact ⟨⟨by omega, by omega⟩, ⟨by omega, by omega⟩, ⟨by omega, by omega⟩⟩
theorem checkH_oks {un : UN} {x : HV} (h : checkH un x = 0) : OksM x.mods ∧ OksM x.marks := by
  have h3 := (checkH_ok h).2.2
  exact ⟨oks_lst (has := x.listed) (m := false) (restE_all 15 0 h3 6 (by omega) (by omega)), oks_lst (has := x.ad) (m := true) (restE_all 15 0 h3 9 (by omega) (by omega))⟩
theorem readH_err {s : ByteArray} {pos : Nat} {ref : Int} {idr : Bool} {f : Int → Option SV} {g : Int → Option PV} {e : Int} {x : HV} {q : Nat} (h : readH s pos ref idr f g = (e, x, q)) (he : e ≠ 0) : x = h0 ∧ q = pos := by
  unfold readH at h
  by_cases hu : ¬ (ref ≤ 3 ∧ (0 < ref ∨ idr = false))
  · rw [if_pos hu] at h; cases h; exact ⟨rfl, rfl⟩
  · rw [if_neg hu] at h
    by_cases h1 : (readT s (readB s pos ref idr f g)).1 ≠ 0
    · rw [if_pos h1] at h; cases h; exact ⟨rfl, rfl⟩
    · rw [if_neg h1] at h; rw [h] at h1; exact absurd he h1
/-- With the store of a unit: what is read is valid for this unit. -/
theorem only_of {s : ByteArray} {pos q : Nat} {um : UN} {x : HV} (hs : okS um.s = true) (hp : okP um.p = true) (hq : pos ≤ 8 * s.size)
    (h : readH s pos um.ref um.idr (upd (fun _ => none) um.s.id um.s) (upd (fun _ => none) um.p.id um.p) = (0, x, q)) :
    checkH um x = 0 ∧ Begins s pos (bitsH um x) ∧ q = pos + (bitsH um x).length := by
  have hf : AllS (upd (fun _ => none) um.s.id um.s) := AllS.upd (f := fun _ => none) (fun i x h => by cases h) hs
  have hg : AllP (upd (fun _ => none) um.p.id um.p) := AllP.upd (f := fun _ => none) (fun i x h => by cases h) hp
  obtain ⟨un, u1, u2, g1, c1, B1, z1⟩ := readH_back hf hg hq h
  have e : un = um := by
    have hP : un.p = um.p ∧ un.s = um.s := by
      unfold getR at g1
      by_cases hi : x.pps < 0 ∨ 32 ≤ x.pps
      · rw [if_pos hi] at g1; simp at g1
      · rw [if_neg hi] at g1
        cases h1 : upd (fun _ => none) um.p.id um.p x.pps with
        | none => simp [h1] at g1
        | some p' =>
          have ep : p' = um.p := by
            unfold upd at h1
            split at h1
            · cases h1; rfl
            · cases h1
          simp only [h1] at g1
          cases h2 : upd (fun _ => none) um.s.id um.s p'.sps with
          | none => simp [h2] at g1
          | some s' =>
            have es : s' = um.s := by
              unfold upd at h2
              split at h2
              · cases h2; rfl
              · cases h2
            simp only [h2, Prod.mk.injEq, and_true] at g1
            exact ⟨g1.1 ▸ ep, g1.2 ▸ es⟩
    obtain ⟨a, b, c, d⟩ := un
    obtain ⟨a', b', c', d'⟩ := um
    simp only at u1 u2 hP
    rw [u1, u2, hP.1, hP.2]
  subst e
  exact ⟨c1, B1, z1⟩
theorem blk2 (w : World) (ta tb : TypeId) (a b : Array Value) :
    ∃ W, W = (w.alloc (.cells a ta)).alloc (.cells b tb) ∧ Blk W w.heap.size ta a ∧ Blk W (w.heap.size + 1) tb b ∧ Only [] w W := by
  have b2 := Blk.new (w.alloc (.cells a ta)) tb b
  rw [World.size_alloc] at b2
  exact ⟨_, rfl, (Blk.new w ta a).only ((Only.refl [] _).alloc _) (by simp), b2, ((Only.refl [] _).alloc _).alloc _⟩
/-- A bit, as the law reckons it out of the string, and out of the characters. -/
theorem bit_left (s : ByteArray) (q : Nat) (h : q / 8 < s.size) : bits .and .u8 (((s[q / 8]'h).toNat : Int) / 2 ^ (7 - q % 8)) 1 = ((bitAt s q).toNat : Int) := by
  rw [bit_num _ _ (UInt8.toNat_lt _), ← getD_at s (q / 8) h, show ((s.data.getD (q / 8) 0).toNat.testBit (7 - q % 8)) = bitAt s q from rfl]
theorem bit_right (l : List Bool) (i : Nat) (h : i < (chars l).size) : IntKind.u8.wrap ((((chars l)[i]'h).toNat : Int) - 48) = ((bitL l i).toNat : Int) := by
  rw [char_val]
  cases bitL l i <;> decide
set_option maxRecDepth 100000 in
set_option maxHeartbeats 16000000 in
theorem honly_any (s : ByteArray) (at_ : Int) (un : UN) (n : N8) (w : World) (hVr : Vars w) (hs : s.size ≤ maxLen) (b0 : -9223372036854775808 ≤ at_) (b1 : at_ ≤ 9223372036854775807) (r0 : 0 ≤ un.ref) :
    Calls Tryz.prog 7 #[.string s, .int .i64 at_, uV un, nV n] w fun e w' => e = .returned (.bool true) ∧ Only [] w w' := by
  obtain ⟨W, hW, bU, bN, oW⟩ := blk2 w 31 75 (uL un).toArray (nL n).toArray
  obtain ⟨X, hX⟩ : ∃ X, X = w.heap.size := ⟨_, rfl⟩
  rw [← hX] at bU bN
  have BU := hid bU
  have BN := hid bN
  have OW := hid oW
  have VV := hid (hVr.only0 oW)
  have VL := hid (fun m => hVr.lt m)
  have XW := hid (show w.heap.size ≤ X ∧ X + 1 < W.heap.size from ⟨by omega, bN.lt⟩)
  have MA := hid (made_any h0 un n (.slice none 0 0) (.slice none 0 0) W (holdsM_none _) (holdsM_none _) (fun j x hx => by simp [h0] at hx) (fun j x hx => by simp [h0] at hx) r0)
  have MK := mok_made un n h0 r0
  obtain ⟨um, hum⟩ : ∃ u, u = madeU un n (bytesN n) := ⟨_, rfl⟩
  rw [← hum] at MA MK
  have UO := hid (un_ok (checkH_ok MK.ck).1)
  have R0 := hid MK.r0
  obtain ⟨kk, hk⟩ : ∃ n, n = min s.size 60 := ⟨_, rfl⟩
  have hkI : min (s.size : Int) 60 = (kk : Int) := by omega
  have hk1 : (kk : Int) ≤ (s.size : Int) := by omega
  have hk0 : (0 : Int) ≤ (kk : Int) := by omega
  have hb : (s.size : Int) ≤ 9223372036854775807 := by unfold maxLen at hs; omega
  obtain ⟨t, ht⟩ : ∃ t, t = s.extract 0 kk := ⟨_, rfl⟩
  have tz : t.size ≤ 60 := by rw [ht, ByteArray.size_extract]; omega
  have ht' : s.extract 0 kk = t := ht.symm
  obtain ⟨y0, hy0⟩ : ∃ y, y = madeH um h0 := ⟨_, rfl⟩
  rw [← hy0] at MA
  clear hk ht hs hum MK hy0 bU bN oW hVr r0
  simp only [uV, nV, uL, pL, sL, nL, List.cons_append, List.nil_append] at hW ⊢
  go_enter Tryz.func7, Tryz.ntmps7
  go_upto_region 1 with (fail)
  rw [← hW, ← hX]
  clear hW hX
  go_upto_region 2 with (fail)
  clear hkI hk1 hk0 hb ht'
  go_wp2_with (first
    | (refine load_atA rfl 31 _ rfl ⟨X, 0, none⟩ (uL un) rfl (ho_unitB BU.out) ?_)
    | (refine load_atA rfl 75 _ rfl ⟨X + 1, 0, none⟩ (nL n) rfl (hl_n8 _ _ _ (fun j v hj => BN.out.cell (by simpa using hj))) ?_))
  refine MA.out.mono ?_
  rintro e w1 ⟨mv', kv', rfl, _, _, o1, _⟩
  have BU1 := hid (BU.out.only o1 (by simp))
  go_upto_region 3 with (refine store_blk rfl 31 _ _ rfl X 0 _ _ (uL um) rfl rfl (info_unit _) BU1.out (by simp [uL, pL, sL]) (one_uL _) ?_; intro w2 hB2 hO2; rw [setsU_all] at hB2)
  have BU2 := hid hB2
  have O2 := hid (show Only [] w w2 from (OW.out.trans o1).trans2 hO2 (fun y hy => .inr (by have := XW.out; simp at hy; omega)))
  have V2 := hid (show Vars w2 from (VV.out.only0 o1).only hO2 (fun m hm => by have := VL.out m; have := XW.out; simp at hm; omega))
  clear hB2 hO2 o1 MA BU BN BU1 OW VV
  have m0 := Int.emod_nonneg at_ (show (8 : Int) ≠ 0 by omega)
  have m1 := Int.emod_lt_of_pos at_ (show (0 : Int) < 8 by omega)
  have z0 : (0 : Int) ≤ (t.size : Int) := by omega
  have z1 : (t.size : Int) ≤ 60 := by omega
  obtain ⟨P, hP⟩ : ∃ P : Nat, min (at_ % 8) (8 * (t.size : Int)) = (P : Int) := ⟨(min (at_ % 8) (8 * (t.size : Int))).toNat, by omega⟩
  have hP8 : P ≤ 8 * t.size := by omega
  have hP7 : P ≤ 7 := by omega
  have P8 := hid hP8
  have TZ := hid tz
  go_wp2_with fail
  refine (hmod_any at_ 8 (by omega) (by omega) _).mono ?_
  rintro e w9 ⟨rfl, hw9⟩
  rw [hw9]
  clear hw9 w9
  go_wp2_with fail
  clear m0 m1 hP
  refine (at9_any t P w2 P8.out (by have := TZ.out; omega)).mono ?_
  rintro e w3 ⟨r, rfl, hR, hr, hO⟩
  have R7 := hid hR
  have BU7 := hid (BU2.out.only hO (by simp))
  have O7 := hid (O2.out.trans hO)
  have V7 := hid (V2.out.only0 hO)
  have rW := hid (show w.heap.size ≤ r ∧ X ≠ r from ⟨Nat.le_trans O2.out.size hr, by have := BU2.out.lt; omega⟩)
  clear hR hr hO BU2 O2 V2 hP8 tz
  go_upto_region 5 with (fail)
  obtain ⟨rr, hrr⟩ : ∃ rr, rr = readH t P um.ref um.idr (upd (fun _ => none) um.s.id um.s) (upd (fun _ => none) um.p.id um.p) := ⟨_, rfl⟩
  obtain ⟨re, y, rq⟩ := rr
  have RR := hid hrr.symm
  clear hrr
  obtain ⟨W3, hW3⟩ : ∃ W3, W3 = w3 := ⟨_, rfl⟩
  rw [← hW3] at R7 BU7 O7 V7 ⊢
  clear hW3
  go_cut [10, 11] from 35 to 45 (fun s10 s11 wx => ∃ A ma2 mc2 ka2 kc2, s10 = .pointer (some ⟨A, 0, none⟩) ∧ s11 = .int .i64 re ∧ Blk wx A 25 (hC y (.slice ma2 y.mods.length mc2) (.slice ka2 y.marks.length kc2)).toArray ∧
    Rd wx r t rq ∧ HoldsM wx (.slice ma2 y.mods.length mc2) y.mods ∧ HoldsM wx (.slice ka2 y.marks.length kc2) y.marks ∧ Only [r] W3 wx)
  case first =>
    have LU := hid (fun w (h : Only [r] W3 w) => hl_unit X um w (fun j v hj => (BU7.out.only h (by simp; exact rW.out.2)).cell (by simpa using hj)))
    have XC := hid (fun w (h : Only [r] W3 w) => And.intro ((BU7.out.only h (by simp; exact rW.out.2)).cell (i := 0) (v := .int .u8 um.ref) rfl) ((BU7.out.only h (by simp; exact rW.out.2)).cell (i := 1) (v := .bool um.idr) rfl))
    have SA := hid (fun w => hstore_any um w UO.out.2.1 UO.out.2.2.1)
    have RB := hid (fun w' l Ls (hv : Vars w') (hr : Rd w' r t P) (hs : StL w' l Ls (upd (fun _ => none) um.s.id um.s) (upd (fun _ => none) um.p.id um.p) 2) (hn : r ∉ Ls) => hread_any (ref := um.ref) (idr := um.idr) hv R0.out hr hs hn hs.alls.1 hs.alls.2 (by have := TZ.out; omega))
    rw [RR.out] at RB
    have hE : Only [] W3 W3.drew := (Only.refl [] W3).drew
    have RL := hid R7.out.lt
    refine wp_region_heldH (fun w' => Only [r] W3 w') 14 (by kernel_rfl) rfl (Only.refl [r] W3).drew (fun hS => ?_)
    generalize W3.drew = wd at *
    refine wpAnyH_read 0 (v := ?va101) rfl (by kernel_rfl) (by kernel_rfl) (by kernel_rfl) (fun _ _ _ h => h) hS (Or.inl ⟨by rfl, ?ya101⟩) ?ra101
    case ya101 =>
      intro w hSw
      obtain ⟨hc1, hc2⟩ := XC.out w hSw
      go_simp
      (try with_reducible rfl)
    (try simp only [Act.put, List.setIfInBounds_toArray, List.set_cons_zero, List.set_cons_succ])
    refine wpAnyH_read 1 (v := ?va102) rfl (by kernel_rfl) (by kernel_rfl) (by kernel_rfl) (fun _ _ _ h => h) hS (Or.inl ⟨by rfl, ?ya102⟩) ?ra102
    case ya102 =>
      intro w hSw
      obtain ⟨hc1, hc2⟩ := XC.out w hSw
      go_simp
      (try with_reducible rfl)
    (try simp only [Act.put, List.setIfInBounds_toArray, List.set_cons_zero, List.set_cons_succ])
    refine wpAnyH_read 2 (v := ?va103) rfl (by kernel_rfl) (by kernel_rfl) (by kernel_rfl) (fun _ _ _ h => h) hS (Or.inl ⟨by rfl, ?ya103⟩) ?ra103
    case ya103 =>
      intro w hSw
      obtain ⟨hc1, hc2⟩ := XC.out w hSw
      go_simp
      (try with_reducible rfl)
    (try simp only [Act.put, List.setIfInBounds_toArray, List.set_cons_zero, List.set_cons_succ])
    refine wpAnyH_read 3 (v := ?va104) rfl (by kernel_rfl) (by kernel_rfl) (by kernel_rfl) (fun _ _ _ h => h) hS (Or.inl ⟨by rfl, ?ya104⟩) ?ra104
    case ya104 =>
      intro w hSw
      obtain ⟨hc1, hc2⟩ := XC.out w hSw
      go_simp
      (try with_reducible rfl)
    (try simp only [Act.put, List.setIfInBounds_toArray, List.set_cons_zero, List.set_cons_succ])
    refine wpAnyH_read 4 (v := ?va105) rfl (by kernel_rfl) (by kernel_rfl) (by kernel_rfl) (fun _ _ _ h => h) hS (Or.inl ⟨by rfl, ?ya105⟩) ?ra105
    case ya105 =>
      intro w hSw
      obtain ⟨hc1, hc2⟩ := XC.out w hSw
      go_simp
      (try with_reducible rfl)
    (try simp only [Act.put, List.setIfInBounds_toArray, List.set_cons_zero, List.set_cons_succ])
    refine wpAnyH_read 5 rfl (by kernel_rfl) (by kernel_rfl) (by kernel_rfl) (fun _ _ _ h => h) hS (yields_load 31 _ (by rfl) rfl ⟨X, 0, none⟩ (uL um) rfl LU.out) ?_
    (try simp only [Act.put, List.setIfInBounds_toArray, List.set_cons_zero, List.set_cons_succ])
    refine wpAnyH_all (rs := [6, 11]) (by kernel_rfl) (by simp) (fun i hi => ?_)
    simp only [List.mem_cons, List.not_mem_nil, or_false] at hi
    rcases hi with rfl | rfl
    · skip
      refine wpOp_step (o := _) rfl (fun J hJ => ?_)
      try rw [if_pos (by rfl)]
      go_simp
      refine (SA.out wd).mono ?_
      rintro e wS ⟨l, Ls, rfl, hl, pS, hL⟩
      have eS : Only [] W3 wS := hE.trans pS
      refine hJ _ _ ⟨eS.mono (by simp), ?_⟩
      clear hJ J
      (try simp only [Act.put, List.setIfInBounds_toArray, List.set_cons_zero, List.set_cons_succ])
      refine wpAnyH_all (rs := [7, 11]) (by kernel_rfl) (by simp) (fun i hi => ?_)
      simp only [List.mem_cons, List.not_mem_nil, or_false] at hi
      rcases hi with rfl | rfl
      · skip
        refine wpOp_step (o := _) rfl (fun J hJ => ?_)
        try rw [if_pos (by rfl)]
        go_simp
        refine (RB.out wS l Ls (V7.out.only0 eS) (R7.out.only eS (by simp)) hl (fun h => by have := hL _ h; have := RL.out; have := hE.size; omega)).mono ?_
        rintro e wR ⟨mv2, kv2, rfl, hr2, p2, hm2, hk2, fm2, fk2⟩
        dsimp only at hr2 hm2 hk2 fm2 fk2
        obtain ⟨ma2, mc2, z1⟩ := holdsM_slice hm2
        obtain ⟨ka2, kc2, z2⟩ := holdsM_slice hk2
        subst z1 z2
        have sR : Only [r] W3 wR := (eS.mono (by simp)).trans p2
        refine hJ _ _ ⟨sR, ?_⟩
        clear hJ J
        (try simp only [Act.put, List.setIfInBounds_toArray, List.set_cons_zero, List.set_cons_succ])
        refine wpAnyH_read 8 (v := ?va106) rfl (by kernel_rfl) (by kernel_rfl) (by kernel_rfl) (fun _ _ _ h => h) sR (Or.inl ⟨by rfl, ?ya106⟩) ?ra106
        case ya106 =>
          intro w hSw
          obtain ⟨hc1, hc2⟩ := XC.out w hSw
          go_simp
          (try with_reducible rfl)
        (try simp only [Act.put, List.setIfInBounds_toArray, List.set_cons_zero, List.set_cons_succ])
        refine wpAnyH_read 9 (v := ?va107) rfl (by kernel_rfl) (by kernel_rfl) (by kernel_rfl) (fun _ _ _ h => h) sR (Or.inl ⟨by rfl, ?ya107⟩) ?ra107
        case ya107 =>
          intro w hSw
          obtain ⟨hc1, hc2⟩ := XC.out w hSw
          go_simp
          (try with_reducible rfl)
        (try simp only [Act.put, List.setIfInBounds_toArray, List.set_cons_zero, List.set_cons_succ])
        refine wpAnyH_read 10 (v := ?va108) rfl (by kernel_rfl) (by kernel_rfl) (by kernel_rfl) (fun _ _ _ h => h) sR (Or.inl ⟨by rfl, ?ya108⟩) ?ra108
        case ya108 =>
          intro w hSw
          obtain ⟨hc1, hc2⟩ := XC.out w hSw
          go_simp
          (try with_reducible rfl)
        (try simp only [Act.put, List.setIfInBounds_toArray, List.set_cons_zero, List.set_cons_succ])
        refine wpAnyH_all (rs := [11]) (by kernel_rfl) (by simp) (fun i hi => ?_)
        simp only [List.mem_cons, List.not_mem_nil, or_false] at hi
        subst hi
        refine wpOp_step (o := _) rfl (fun J hJ => ?_)
        try rw [if_pos (by rfl)]
        go_simp
        have bA := Blk.new wR 25 (hC h0 (.slice none 0 0) (.slice none 0 0)).toArray
        have oA := (Only.refl [] wR).alloc (.cells (hC h0 (.slice none 0 0) (.slice none 0 0)).toArray 25)
        have hA1 : wR.heap.size < (wR.alloc (.cells (hC h0 (.slice none 0 0) (.slice none 0 0)).toArray 25)).heap.size := bA.lt
        simp only [hC, h0] at bA oA hA1
        have tA : Only [r] W3 (wR.alloc _) := sR.trans ((oA.mono (by simp) : Only [r] _ _))
        refine hJ _ _ ⟨tA, ?_⟩
        clear hJ J
        generalize hal : World.alloc wR _ = wA at *
        clear hal
        (try simp only [Act.put, List.setIfInBounds_toArray, List.set_cons_zero, List.set_cons_succ])
        refine wpAnyH_all (rs := [12]) (by kernel_rfl) (by simp) (fun i hi => ?_)
        simp only [List.mem_cons, List.not_mem_nil, or_false] at hi
        subst hi
        refine wpOp_step (o := _) rfl (fun J hJ => ?_)
        try rw [if_pos (by rfl)]
        refine wp_store_op 25 _ _ rfl wR.heap.size _ _ (hC y (.slice ma2 y.mods.length mc2) (.slice ka2 y.marks.length kc2)) rfl rfl (info_hdr' _ _ _) bA (by simp [hC]) (one_hC _ rfl rfl) ?_
        intro w8 c8 p8
        have s8 : Only [r] W3 w8 := tA.trans2 p8 (fun y hy => .inr (by rw [List.mem_singleton.1 hy]; have := sR.size; omega))
        refine hJ _ _ ⟨s8, ?_⟩
        clear hJ J
        (try simp only [Act.put, List.setIfInBounds_toArray, List.set_cons_zero, List.set_cons_succ])
        refine wpAnyH_read 13 (v := ?va109) rfl (by kernel_rfl) (by kernel_rfl) (by kernel_rfl) (fun _ _ _ h => h) s8 (Or.inl ⟨by rfl, ?ya109⟩) ?ra109
        case ya109 =>
          intro w hSw
          obtain ⟨hc1, hc2⟩ := XC.out w hSw
          go_simp
          (try with_reducible rfl)
        (try simp only [Act.put, List.setIfInBounds_toArray, List.set_cons_zero, List.set_cons_succ])
        refine wpAnyH_done (by kernel_rfl) ?_ _
        go_wp2_with fail
        go_meet
        exact ⟨_, ma2, mc2, ka2, kc2, rfl, rfl, c8, (hr2.only oA (by simp)).only p8 (by simp; have := hr2.lt; omega), (hm2.only0 oA).only2 p8 (fun ad n c e hl hm => by rw [List.mem_singleton] at hm; cases e; have := HoldsM.lt hm2 hl; omega), (hk2.only0 oA).only2 p8 (fun ad n c e hl hm => by rw [List.mem_singleton] at hm; cases e; have := HoldsM.lt hk2 hl; omega), s8⟩
      · skip
        refine wpOp_step (o := _) rfl (fun J hJ => ?_)
        try rw [if_pos (by rfl)]
        go_simp
        have bA := Blk.new wS 25 (hC h0 (.slice none 0 0) (.slice none 0 0)).toArray
        have oA := (Only.refl [] wS).alloc (.cells (hC h0 (.slice none 0 0) (.slice none 0 0)).toArray 25)
        have hA1 : wS.heap.size < (wS.alloc (.cells (hC h0 (.slice none 0 0) (.slice none 0 0)).toArray 25)).heap.size := bA.lt
        simp only [hC, h0] at bA oA hA1
        have tA : Only [r] W3 (wS.alloc _) := (eS.mono (by simp)).trans ((oA.mono (by simp) : Only [r] _ _))
        refine hJ _ _ ⟨tA, ?_⟩
        clear hJ J
        generalize hal : World.alloc wS _ = wA at *
        clear hal
        (try simp only [Act.put, List.setIfInBounds_toArray, List.set_cons_zero, List.set_cons_succ])
        refine wpAnyH_all (rs := [7]) (by kernel_rfl) (by simp) (fun i hi => ?_)
        simp only [List.mem_cons, List.not_mem_nil, or_false] at hi
        subst hi
        refine wpOp_step (o := _) rfl (fun J hJ => ?_)
        try rw [if_pos (by rfl)]
        go_simp
        refine (RB.out wA l Ls (V7.out.only0 (eS.trans oA)) (R7.out.only (eS.trans oA) (by simp)) (hl.only oA (by simp)) (fun h => by have := hL _ h; have := RL.out; have := hE.size; omega)).mono ?_
        rintro e wR ⟨mv2, kv2, rfl, hr2, p2, hm2, hk2, fm2, fk2⟩
        dsimp only at hr2 hm2 hk2 fm2 fk2
        obtain ⟨ma2, mc2, z1⟩ := holdsM_slice hm2
        obtain ⟨ka2, kc2, z2⟩ := holdsM_slice hk2
        subst z1 z2
        have sR : Only [r] W3 wR := ((eS.trans oA).mono (by simp)).trans p2
        refine hJ _ _ ⟨sR, ?_⟩
        clear hJ J
        (try simp only [Act.put, List.setIfInBounds_toArray, List.set_cons_zero, List.set_cons_succ])
        refine wpAnyH_read 8 (v := ?va110) rfl (by kernel_rfl) (by kernel_rfl) (by kernel_rfl) (fun _ _ _ h => h) sR (Or.inl ⟨by rfl, ?ya110⟩) ?ra110
        case ya110 =>
          intro w hSw
          obtain ⟨hc1, hc2⟩ := XC.out w hSw
          go_simp
          (try with_reducible rfl)
        (try simp only [Act.put, List.setIfInBounds_toArray, List.set_cons_zero, List.set_cons_succ])
        refine wpAnyH_read 9 (v := ?va111) rfl (by kernel_rfl) (by kernel_rfl) (by kernel_rfl) (fun _ _ _ h => h) sR (Or.inl ⟨by rfl, ?ya111⟩) ?ra111
        case ya111 =>
          intro w hSw
          obtain ⟨hc1, hc2⟩ := XC.out w hSw
          go_simp
          (try with_reducible rfl)
        (try simp only [Act.put, List.setIfInBounds_toArray, List.set_cons_zero, List.set_cons_succ])
        refine wpAnyH_read 10 (v := ?va112) rfl (by kernel_rfl) (by kernel_rfl) (by kernel_rfl) (fun _ _ _ h => h) sR (Or.inl ⟨by rfl, ?ya112⟩) ?ra112
        case ya112 =>
          intro w hSw
          obtain ⟨hc1, hc2⟩ := XC.out w hSw
          go_simp
          (try with_reducible rfl)
        (try simp only [Act.put, List.setIfInBounds_toArray, List.set_cons_zero, List.set_cons_succ])
        refine wpAnyH_all (rs := [12]) (by kernel_rfl) (by simp) (fun i hi => ?_)
        simp only [List.mem_cons, List.not_mem_nil, or_false] at hi
        subst hi
        refine wpOp_step (o := _) rfl (fun J hJ => ?_)
        try rw [if_pos (by rfl)]
        refine wp_store_op 25 _ _ rfl wS.heap.size _ _ (hC y (.slice ma2 y.mods.length mc2) (.slice ka2 y.marks.length kc2)) rfl rfl (info_hdr' _ _ _) (bA.only p2 (by simp; have := RL.out; have := hE.size; have := eS.size; omega)) (by simp [hC]) (one_hC _ rfl rfl) ?_
        intro w8 c8 p8
        have s8 : Only [r] W3 w8 := sR.trans2 p8 (fun y hy => .inr (by rw [List.mem_singleton.1 hy]; have := eS.size; omega))
        refine hJ _ _ ⟨s8, ?_⟩
        clear hJ J
        (try simp only [Act.put, List.setIfInBounds_toArray, List.set_cons_zero, List.set_cons_succ])
        refine wpAnyH_read 13 (v := ?va113) rfl (by kernel_rfl) (by kernel_rfl) (by kernel_rfl) (fun _ _ _ h => h) s8 (Or.inl ⟨by rfl, ?ya113⟩) ?ra113
        case ya113 =>
          intro w hSw
          obtain ⟨hc1, hc2⟩ := XC.out w hSw
          go_simp
          (try with_reducible rfl)
        (try simp only [Act.put, List.setIfInBounds_toArray, List.set_cons_zero, List.set_cons_succ])
        refine wpAnyH_done (by kernel_rfl) ?_ _
        go_wp2_with fail
        go_meet
        exact ⟨_, ma2, mc2, ka2, kc2, rfl, rfl, c8, hr2.only p8 (by simp; have := RL.out; have := eS.size; omega), hm2.only2 p8 (fun ad n c e hl hm => by rw [List.mem_singleton] at hm; have := fm2 ad n c e hl; omega), hk2.only2 p8 (fun ad n c e hl hm => by rw [List.mem_singleton] at hm; have := fk2 ad n c e hl; omega), s8⟩
    · skip
      refine wpOp_step (o := _) rfl (fun J hJ => ?_)
      try rw [if_pos (by rfl)]
      go_simp
      have bA := Blk.new wd 25 (hC h0 (.slice none 0 0) (.slice none 0 0)).toArray
      have oA := (Only.refl [] wd).alloc (.cells (hC h0 (.slice none 0 0) (.slice none 0 0)).toArray 25)
      have hA1 : wd.heap.size < (wd.alloc (.cells (hC h0 (.slice none 0 0) (.slice none 0 0)).toArray 25)).heap.size := bA.lt
      simp only [hC, h0] at bA oA hA1
      have tA : Only [r] W3 (wd.alloc _) := hS.trans ((oA.mono (by simp) : Only [r] _ _))
      refine hJ _ _ ⟨tA, ?_⟩
      clear hJ J
      generalize hal : World.alloc wd _ = wA at *
      clear hal
      (try simp only [Act.put, List.setIfInBounds_toArray, List.set_cons_zero, List.set_cons_succ])
      refine wpAnyH_all (rs := [6]) (by kernel_rfl) (by simp) (fun i hi => ?_)
      simp only [List.mem_cons, List.not_mem_nil, or_false] at hi
      subst hi
      refine wpOp_step (o := _) rfl (fun J hJ => ?_)
      try rw [if_pos (by rfl)]
      go_simp
      refine (SA.out wA).mono ?_
      rintro e wS ⟨l, Ls, rfl, hl, pS, hL⟩
      have eS : Only [] W3 wS := (hE.trans oA).trans pS
      refine hJ _ _ ⟨eS.mono (by simp), ?_⟩
      clear hJ J
      (try simp only [Act.put, List.setIfInBounds_toArray, List.set_cons_zero, List.set_cons_succ])
      refine wpAnyH_all (rs := [7]) (by kernel_rfl) (by simp) (fun i hi => ?_)
      simp only [List.mem_cons, List.not_mem_nil, or_false] at hi
      subst hi
      refine wpOp_step (o := _) rfl (fun J hJ => ?_)
      try rw [if_pos (by rfl)]
      go_simp
      refine (RB.out wS l Ls (V7.out.only0 eS) (R7.out.only eS (by simp)) hl (fun h => by have := hL _ h; have := RL.out; have := hE.size; omega)).mono ?_
      rintro e wR ⟨mv2, kv2, rfl, hr2, p2, hm2, hk2, fm2, fk2⟩
      dsimp only at hr2 hm2 hk2 fm2 fk2
      obtain ⟨ma2, mc2, z1⟩ := holdsM_slice hm2
      obtain ⟨ka2, kc2, z2⟩ := holdsM_slice hk2
      subst z1 z2
      have sR : Only [r] W3 wR := (eS.mono (by simp)).trans p2
      refine hJ _ _ ⟨sR, ?_⟩
      clear hJ J
      (try simp only [Act.put, List.setIfInBounds_toArray, List.set_cons_zero, List.set_cons_succ])
      refine wpAnyH_read 8 (v := ?va114) rfl (by kernel_rfl) (by kernel_rfl) (by kernel_rfl) (fun _ _ _ h => h) sR (Or.inl ⟨by rfl, ?ya114⟩) ?ra114
      case ya114 =>
        intro w hSw
        obtain ⟨hc1, hc2⟩ := XC.out w hSw
        go_simp
        (try with_reducible rfl)
      (try simp only [Act.put, List.setIfInBounds_toArray, List.set_cons_zero, List.set_cons_succ])
      refine wpAnyH_read 9 (v := ?va115) rfl (by kernel_rfl) (by kernel_rfl) (by kernel_rfl) (fun _ _ _ h => h) sR (Or.inl ⟨by rfl, ?ya115⟩) ?ra115
      case ya115 =>
        intro w hSw
        obtain ⟨hc1, hc2⟩ := XC.out w hSw
        go_simp
        (try with_reducible rfl)
      (try simp only [Act.put, List.setIfInBounds_toArray, List.set_cons_zero, List.set_cons_succ])
      refine wpAnyH_read 10 (v := ?va116) rfl (by kernel_rfl) (by kernel_rfl) (by kernel_rfl) (fun _ _ _ h => h) sR (Or.inl ⟨by rfl, ?ya116⟩) ?ra116
      case ya116 =>
        intro w hSw
        obtain ⟨hc1, hc2⟩ := XC.out w hSw
        go_simp
        (try with_reducible rfl)
      (try simp only [Act.put, List.setIfInBounds_toArray, List.set_cons_zero, List.set_cons_succ])
      refine wpAnyH_all (rs := [12]) (by kernel_rfl) (by simp) (fun i hi => ?_)
      simp only [List.mem_cons, List.not_mem_nil, or_false] at hi
      subst hi
      refine wpOp_step (o := _) rfl (fun J hJ => ?_)
      try rw [if_pos (by rfl)]
      refine wp_store_op 25 _ _ rfl wd.heap.size _ _ (hC y (.slice ma2 y.mods.length mc2) (.slice ka2 y.marks.length kc2)) rfl rfl (info_hdr' _ _ _) ((bA.only pS (by simp)).only p2 (by simp; have := RL.out; have := hE.size; omega)) (by simp [hC]) (one_hC _ rfl rfl) ?_
      intro w8 c8 p8
      have s8 : Only [r] W3 w8 := sR.trans2 p8 (fun y hy => .inr (by rw [List.mem_singleton.1 hy]; have := hE.size; omega))
      refine hJ _ _ ⟨s8, ?_⟩
      clear hJ J
      (try simp only [Act.put, List.setIfInBounds_toArray, List.set_cons_zero, List.set_cons_succ])
      refine wpAnyH_read 13 (v := ?va117) rfl (by kernel_rfl) (by kernel_rfl) (by kernel_rfl) (fun _ _ _ h => h) s8 (Or.inl ⟨by rfl, ?ya117⟩) ?ra117
      case ya117 =>
        intro w hSw
        obtain ⟨hc1, hc2⟩ := XC.out w hSw
        go_simp
        (try with_reducible rfl)
      (try simp only [Act.put, List.setIfInBounds_toArray, List.set_cons_zero, List.set_cons_succ])
      refine wpAnyH_done (by kernel_rfl) ?_ _
      go_wp2_with fail
      go_meet
      exact ⟨_, ma2, mc2, ka2, kc2, rfl, rfl, c8, hr2.only p8 (by simp; have := RL.out; have := hE.size; omega), hm2.only2 p8 (fun ad n c e hl hm => by rw [List.mem_singleton] at hm; have := fm2 ad n c e hl; have := pS.size; omega), hk2.only2 p8 (fun ad n c e hl hm => by rw [List.mem_singleton] at hm; have := fk2 ad n c e hl; have := pS.size; omega), s8⟩
  case rest =>
  obtain ⟨A, ma2, mc2, ka2, kc2, rfl, rfl, hA, hR, hm, hk, hO⟩ := hcut
  have BA := hid hA
  have R8 := hid hR
  have HN := hid (And.intro hm hk)
  have BU8 := hid (BU7.out.only hO (by simp; exact rW.out.2))
  have O8 := hid (show Only [] w wc from O7.out.trans2 hO (fun y hy => .inr (by rw [List.mem_singleton.1 hy]; exact rW.out.1)))
  have V8 := hid (V7.out.rd R7.out hO)
  clear hA hR hm hk hO BU7 O7 V7 R7 rW
  have AW := hid (fun w' (o : Only [] wc w') => hawake_any w' (V8.out.only0 o))
  by_cases he : re = 0
  · subst he
    obtain ⟨c1, B1, z1⟩ := only_of UO.out.2.1 UO.out.2.2.1 P8.out RR.out
    have OK := hid (checkH_oks c1)
    have PP := (begin_ok UO.out.2.1 UO.out.2.2.1 (checkH_ok c1).2.1).2.2.2.2.1
    obtain ⟨L, hL⟩ : ∃ L, L = bitsH um y := ⟨_, rfl⟩
    have HB := hid (hbits_any y um _ _ wc V8.out HN.out.1 HN.out.2 OK.out.1 OK.out.2 R0.out)
    rw [hBits_ok c1, ← hL] at HB
    have CK := hid (fun w' (o : Only [] wc w') => hcheck_any y um _ _ w' (V8.out.only0 o) (HN.out.1.only0 o) (HN.out.2.only0 o) OK.out.1 OK.out.2 R0.out)
    rw [c1] at CK
    rw [← hL] at B1 z1
    have LB : P + L.length ≤ 8 * t.size := B1.1
    have BB := hid B1
    have TZ' := TZ.out
    subst z1
    clear c1 B1 hL RR OK HN
    go_upto_if 47 with (fail)
    go_wp2_with (first
      | (refine load_atA rfl 25 _ rfl ⟨A, 0, none⟩ (hC y (.slice ma2 y.mods.length mc2) (.slice ka2 y.marks.length kc2)) rfl (ho_hdrB BA.out) ?_)
      | (refine load_atA rfl 31 _ rfl ⟨X, 0, none⟩ (uL um) rfl (ho_unitB BU8.out) ?_))
    refine HB.out.mono ?_
    rintro e wa ⟨rfl, oa⟩
    have OA := hid oa
    have u0 := (BU8.out.only oa (by simp)).cell (i := 0) (v := .int .u8 um.ref) rfl
    have u1 := (BU8.out.only oa (by simp)).cell (i := 1) (v := .bool um.idr) rfl
    clear oa HB
    obtain ⟨back, hback⟩ : ∃ b, b = chars L := ⟨_, rfl⟩
    have BK := hid hback
    have bz : back.size = L.length := by rw [hback, size_chars]
    rw [← hback]
    clear hback
    have l0 : (L.length : Int) ≤ 480 := by omega
    have l1 : (P : Int) + (L.length : Int) ≤ 8 * (t.size : Int) := by omega
    have BZ := hid bz
    clear bz
    go_wp2_with (first
      | (refine load_atA rfl 25 _ rfl ⟨A, 0, none⟩ (hC y (.slice ma2 y.mods.length mc2) (.slice ka2 y.marks.length kc2)) rfl (ho_hdrB (BA.out.only OA.out (by simp))) ?_)
      | (refine load_atA rfl 27 _ rfl ⟨X, 2, none⟩ (pL um.p) rfl (ho_ppsU (BU8.out.only OA.out (by simp))) ?_)
      | (refine load_atA rfl 29 _ rfl ⟨X, 12, none⟩ (sL um.s) rfl (ho_spsU (BU8.out.only OA.out (by simp))) ?_))
    refine (CK.out _ OA.out).mono ?_
    rintro e wb ⟨rfl, ob⟩
    have OB := hid (OA.out.trans ob)
    clear ob OA CK u0 u1
    have pz : ((P + L.length : Nat) : Int) = (P : Int) + (L.length : Int) := by omega
    go_wp2_with fail
    refine (pos_any r t _ wb (R8.out.only OB.out (by simp))).mono ?_
    rintro e wz ⟨rfl, hwz⟩
    rw [← hwz]
    clear hwz wz
    rw [BZ.out, pz]
    have d1 : ((L.length : Int) != ((P : Int) + (L.length : Int) - (P : Int))) = false := by simp; omega
    have d2 : IntKind.i64.wrap ((P : Int) + (L.length : Int) - (P : Int)) = (L.length : Int) := by rw [IntWalk.i64_in _ ⟨by omega, by omega⟩]; omega
    have d3 : (P : Int) + (L.length : Int) - (P : Int) = (L.length : Int) := by omega
    have d4 : ((L.length : Int) != (L.length : Int)) = false := by simp
    go_wp2_with fail
    refine (pos_any r t _ wb (R8.out.only OB.out (by simp))).mono ?_
    rintro e wz ⟨rfl, hwz⟩
    rw [← hwz]
    clear hwz wz
    rw [pz]
    have a3 := (BA.out.only OB.out (by simp)).cell (i := 3) (v := .int .i64 y.pps) rfl
    have u2 := (BU8.out.only OB.out (by simp)).cell (i := 2) (v := .int .i64 um.p.id) rfl
    rw [PP] at a3
    have d5 : (um.p.id != um.p.id) = false := by simp
    have d6 : ¬ (8 * (t.size : Int) < (P : Int) + (L.length : Int)) := by omega
    clear PP
    go_wp2_with fail
    go_loopg [13] L.length (fun g t5 wr => ∃ i : Nat, i + g = L.length ∧ t5 = .int .i64 i ∧ Only [] wb wr)
    case atStart => exact ⟨0, by omega, rfl, Only.refl _ _⟩
    case round =>
      obtain ⟨i, hi, rfl, hO⟩ := hrel
      have OO := hid hO
      clear hO
      have bz := BZ.out
      by_cases h0 : gk = 0
      · subst h0
        obtain rfl : i = L.length := by omega
        clear hi
        go_wp2_with fail
        refine (AW.out _ (OB.out.trans OO.out)).mono ?_
        rintro e wz ⟨rfl, oz⟩
        go_wp2_with fail
        go_ret
        exact ⟨rfl, (O8.out.trans OB.out).trans (OO.out.trans oz)⟩
      · obtain ⟨q, hq⟩ : ∃ q, q = P + i := ⟨_, rfl⟩
        have hqI : (P : Int) + (i : Int) = (q : Int) := by omega
        have q0 : q / 8 < t.size := by omega
        have i1 : (0 : Int) ≤ (q : Int) / 8 := by omega
        have i2 : (q : Int) / 8 < (t.size : Int) := by omega
        have i3 : (i : Int) < (back.size : Int) := by omega
        have i4 : (0 : Int) ≤ (q : Int) := by omega
        have i5 : (q : Int) ≤ 480 := by omega
        have iL : (i : Int) < (L.length : Int) := by omega
        have Q := hid hq
        have HI := hid hi
        clear hi hq bz
        go_wp2_with fail
        go_quiet (fail)
        have f1 := bit_left t q q0
        have f2 : ∀ h, (((back[i]'h).toNat : Int) - 48) % 256 = ((bitAt t q).toNat : Int) := by
          intro h
          rw [show (((back[i]'h).toNat : Int) - 48) % 256 = IntKind.u8.wrap (((back[i]'h).toNat : Int) - 48) from rfl]
          have e := BK.out
          subst e
          rw [bit_right L i (by simpa using h), Q.out, BB.out.2 i (by omega)]
        have f3 : (((bitAt t q).toNat : Int) != ((bitAt t q).toNat : Int)) = false := by simp
        simp only [f1, f2, f3]
        go_wp2_with fail
        go_roundg (gk - 1)
        case measure => omega
        case rel => exact ⟨i + 1, by have := HI.out; omega, by go_num, OO.out.drewN nq⟩
  · obtain ⟨e1, e2⟩ := readH_err RR.out he
    subst e1 e2
    have BEs := hid he
    have een : (re != 0) = true := by simp; exact he
    clear he
    go_upto_if 47 with (fail)
    have EQ := hid (eqh_any h0 _ _ _ _ wc HN.out.1 HN.out.2 (holdsM_none _) (holdsM_none _) (by simp [h0]) (by simp [h0]))
    go_wp2_with (refine load_atA rfl 25 _ rfl ⟨A, 0, none⟩ (hC h0 (.slice ma2 h0.mods.length mc2) (.slice ka2 h0.marks.length kc2)) rfl (ho_hdrB BA.out) ?_)
    refine EQ.out.mono ?_
    rintro e wa ⟨rfl, oa⟩
    have OA := hid oa
    clear oa EQ
    go_wp2_with fail
    refine (pos_any r t _ wa (R8.out.only OA.out (by simp))).mono ?_
    rintro e wz ⟨rfl, hwz⟩
    rw [← hwz]
    clear hwz wz
    have d1 : ((rq : Int) == (rq : Int)) = true := by simp
    go_wp2_with fail
    refine (AW.out _ OA.out).mono ?_
    rintro e wz ⟨rfl, oz⟩
    go_wp2_with fail
    go_ret
    exact ⟨rfl, O8.out.trans (OA.out.trans oz)⟩
end Go.Proofs.YtojahafmfcfpaaaGreatDoor


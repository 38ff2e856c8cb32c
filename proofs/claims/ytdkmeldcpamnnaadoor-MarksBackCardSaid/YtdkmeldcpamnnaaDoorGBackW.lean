/- MarksBack: the walk. -/
import Derived.Test.YtdkmeldcpamnnaaDoorMkF
import Derived.Test.YtdkmeldcpamnnaaDoorQuiet
namespace Go.Proofs.YtdkmeldcpamnnaaDoor
open Go.RowKit
set_option linter.unusedVariables false

set_option maxRecDepth 200000 in
set_option maxHeartbeats 4000000 in
theorem mback_any (m : Bool) (a : Value) (l : List (Int × Int × Int)) (before : Int) (s : ByteArray) (W : World) (hV : Vars W) (ha : HoldsM W a l) (hk : OksM l) (b0 : -9223372036854775808 ≤ before) (b1 : before ≤ 9223372036854775807) (hs : s.size ≤ maxLen) :
    Calls Tryd.prog 6 #[.bool m, a, .int .i64 before, .string s] W fun e w' => e = .returned (.bool true) ∧ Only [] W w' := by
  have HV := hid hV
  clear hV
  have VA := hid (valid9_any m a l W ha hk)
  obtain ⟨a, c, rfl, _⟩ := ha
  obtain ⟨n, hn⟩ : ∃ n, n = min s.size 60 := ⟨_, rfl⟩
  have hnI : min (s.size : Int) 60 = (n : Int) := by omega
  have hn1 : (n : Int) ≤ (s.size : Int) := by omega
  have hn2 : (n : Int) ≤ 60 := by omega
  have hb : (s.size : Int) ≤ 9223372036854775807 := by unfold maxLen at hs; omega
  obtain ⟨t, ht⟩ : ∃ t, t = s.extract 0 n := ⟨_, rfl⟩
  have ts : t.size = n := by rw [ht, ByteArray.size_extract]; omega
  have HT := hid ht
  clear ht
  obtain ⟨v, hv⟩ : ∃ v, v = validL m l := ⟨_, rfl⟩
  have vc : checkI m v = 0 := by rw [hv]; exact validL_check m l
  have vo := hid (show OksM v by rw [hv]; exact validL_oks m l)
  rw [← hv] at VA
  have VC := hid vc
  have r0 : -9 ≤ before.tmod 10 := by have := Int.lt_tmod_of_pos before (by decide : (0 : Int) < 10); omega
  have r1 : before.tmod 10 ≤ 9 := by have := Int.tmod_lt_of_pos before (by decide : (0 : Int) < 10); omega
  obtain ⟨K, hK⟩ : ∃ K : Nat, (before.tmod 10 + 10) % 10 = (K : Int) := ⟨((before.tmod 10 + 10) % 10).toNat, by omega⟩
  have K9 : (K : Int) ≤ 9 := by omega
  have K9' : min (K : Int) 9 = (K : Int) := by omega
  have PT := hid (pre_take ⟨K, by omega⟩)
  have PL := hid (show (preL.take K).length = K by rw [List.length_take]; simp [preL]; omega)
  have AW := hid (awake_any)
  clear hn hs hk hv vc
  go_enter Tryd.func6, Tryd.ntmps6
  go_wp2_with fail
  refine VA.out.mono ?_
  rintro e w1 ⟨vv, rfl, hrow, hO1, _⟩
  have V1 := hid hrow.holds
  have O1 := hid hO1
  clear hrow hO1 VA
  obtain ⟨va, vcap, hvv, _, _, _⟩ := id V1.out
  subst hvv
  go_upto_region 6 with fail
  have mk : min K 9 = K := by omega
  rw [mk, PT.out, ← HT.out]
  have BI : bitsI m v = listB m v := by unfold bitsI; rw [if_pos VC.out]
  obtain ⟨B, hB⟩ : ∃ B, B = listB m v := ⟨_, rfl⟩
  have B0 := listB_pos m v
  have B1 := listB_le VC.out
  have BO := hid (fun w (hV : Vars w) h => bitsof_any m (.slice va v.length vcap) v w hV h vo.out)
  rw [BI, ← hB] at BO
  rw [← hB] at B0 B1
  obtain ⟨p, hp⟩ : ∃ p, p = preL.take K := ⟨_, rfl⟩
  have pl : p.length = K := by rw [hp]; exact PL.out
  rw [← hp]
  have BY := hid (fun w => bytesof_any (p ++ B) w (by rw [List.length_append]; omega))
  rw [← chars_append] at BY
  have cps : (chars p).size = K := by rw [size_chars, pl]
  have cBs : (chars B).size = B.length := size_chars B
  have RI := readI_of (m := m) (s := pack (p ++ B) ++ t) (p := K) VC.out (by rw [← hB, ← pl]; exact begins_mid p B t)
  rw [← hB] at RI
  have Sz : (pack (p ++ B) ++ t).size ≤ 100000 ∧ K + B.length ≤ 8 * (pack (p ++ B) ++ t).size := by
    rw [ByteArray.size_append, size_pack, List.length_append, pl, ts]
    omega
  have pbz : (pack (p ++ B)).size ≤ 3000 := by rw [size_pack, List.length_append, pl]; omega
  have tz : t.size ≤ 60 := by omega
  have NE : ¬ (chars B).toList = [] := by
    rw [Lib.toList_data]
    intro e
    have := congrArg List.length e
    simp [chars] at this
    rw [this] at B0
    simp at B0
  generalize pack (p ++ B) = pb at *
  generalize chars p = cp at *
  generalize chars B = cB at *
  obtain ⟨bn, hbn⟩ : ∃ bn, bn = B.length := ⟨_, rfl⟩
  rw [← hbn] at RI Sz cBs B0 B1
  have RIh := hid RI
  have SZ := hid Sz
  have VL := hid (show v.length ≤ 66 from (checkI_firstE VC.out).2)
  have TS := hid tz
  have tzi : (t.size : Int) ≤ 60 := by omega
  have pzi : (pb.size : Int) ≤ 3000 := by omega
  clear ts
  have CBI : (cB.size : Int) = (bn : Int) := by omega
  have bn0 : (0 : Int) < (bn : Int) := by omega
  have bn1 : (bn : Int) ≤ 20000 := by omega
  clear hB BI PT PL mk hp pl RI Sz hbn B0 B1 hnI hn1 hn2 hb r0 r1 hK K9'
  go_wp2_with fail
  refine (BO.out _ (HV.out.only0 O1.out) V1.out).mono ?_
  rintro e w2 ⟨rfl, hO2⟩
  have O2 := hid (O1.out.trans hO2)
  have V2 := hid (V1.out.only0 hO2)
  clear hO2 V1 O1
  go_wp2_with fail
  refine (BY.out _).mono ?_
  rintro e w3 ⟨rfl, hO3⟩
  have O3 := hid (O2.out.trans hO3)
  have V3 := hid (V2.out.only0 hO3)
  clear hO3 V2 O2
  go_wp2_with fail
  refine (at9_any (pb ++ t) K w3 (by have := SZ.out; omega) (by have := SZ.out; omega)).mono ?_
  rintro e w4 ⟨r, rfl, hR4, hr4, hO4⟩
  have R4 := hid hR4
  have O4 := hid (O3.out.trans hO4)
  have V4 := hid (V3.out.only0 hO4)
  have rW := hid (show W.heap.size ≤ r ∧ w3.heap.size ≤ r from ⟨Nat.le_trans O3.out.size hr4, hr4⟩)
  have RD := hid (lread_any m r (pb ++ t) K w4 (HV.out.only0 O4.out) hR4 (by have := SZ.out; omega))
  rw [RIh.out] at RD
  have O34 := hid hO4
  clear hR4 hr4 hO4 O3 RIh
  go_wp2_with fail
  refine RD.out.mono ?_
  rintro e w5 ⟨sx, rfl, hH5, hR5, hO5, _⟩
  have X5 := hid hH5
  have R5 := hid hR5
  have O5 := hid (O4.out.trans2 hO5 (fun y hy => .inr (by rw [List.mem_singleton.1 hy]; exact rW.out.1)))
  have V5 := hid (show HoldsM w5 (.slice va v.length vcap) v from (V3.out.aside ((O34.out.mono (T := [r]) (by simp)).trans hO5) (fun x hx => by rw [List.mem_singleton.1 hx]; exact rW.out.2)))
  clear hH5 hR5 hO5 O4 V4 R4 RD
  go_upto_region 10 with fail
  go_cut [77] (fun s77 wx => s77 = .bool false ∧ Only [] w5 wx)
  case first =>
    go_wp2_with fail
    refine (lcheck_any m _ v w5 (HV.out.only0 O5.out) V5.out vo.out).mono ?_
    rintro e w6 ⟨rfl, hO6⟩
    have O6 := hid hO6
    have vc := VC.out
    rw [vc]
    clear hO6 vc
    go_wp2_with fail
    refine (eqm_any sx _ v v w6 (X5.out.only0 O6.out) (V5.out.only0 O6.out) (by have := VL.out; omega) (by have := VL.out; omega)).mono ?_
    rintro e w7 ⟨rfl, hO7⟩
    have O7 := hid (O6.out.trans hO7)
    have dv : decide (v = v) = true := decide_eq_true rfl
    rw [dv]
    clear hO7 dv
    go_wp2_with fail
    refine (pos_any r _ _ w7 (R5.out.only O7.out (by simp))).mono ?_
    rintro e w8 ⟨rfl, rfl⟩
    go_wp2_with fail
    go_meet
    exact ⟨by rw [show cB.toList.isEmpty = false from by simpa using NE], O7.out⟩
  case rest =>
    obtain ⟨rfl, hO6⟩ := hcut
    have O6 := hid (O5.out.trans hO6)
    clear hO6 O5 V5 X5 R5 V3 O34 rW
    go_wp2_with fail
    refine (read_any t _ (by have := TS.out; omega)).mono ?_
    rintro e w7 ⟨rfl, hR7, hO7⟩
    obtain ⟨x, hx⟩ : ∃ x, x = wc.heap.size := ⟨_, rfl⟩
    rw [← hx] at hR7 ⊢
    have O7 := hid (O6.out.trans hO7)
    have xW := hid (show W.heap.size ≤ x by rw [hx]; exact O6.out.size)
    have RD := hid (lread_any m x t 0 w7 (HV.out.only0 O7.out) hR7 (by have := TS.out; omega))
    obtain ⟨y, re, rq, hy⟩ : ∃ y re rq, readI m t 0 = (y, re, rq) := ⟨_, _, _, rfl⟩
    rw [hy] at RD
    have HY := hid hy
    clear hR7 hO7 hx O6 hy
    go_wp2_with fail
    refine RD.out.mono ?_
    rintro e w8 ⟨sy, rfl, hH8, hR8, hO8, _⟩
    have Y8 := hid hH8
    have R8 := hid hR8
    have O8 := hid (O7.out.trans2 hO8 (fun z hz => .inr (by rw [List.mem_singleton.1 hz]; exact xW.out)))
    clear hH8 hR8 hO8 O7 RD
    obtain ⟨ya, yc, hyy, _, _, _⟩ := id Y8.out
    subst hyy
    by_cases he : re = 0
    · subst he
      obtain ⟨yk, yo, yb, yq⟩ := readI_back (by omega) HY.out
      have YO := hid yo
      have YC := hid yk
      have YB := hid yb
      have QB := hid yq
      have YL := listB_le yk
      have BI : bitsI m y = listB m y := by unfold bitsI; rw [if_pos yk]
      have BO := hid (fun w (hV : Vars w) h => bitsof_any m (.slice ya y.length yc) y w hV h YO.out)
      rw [BI] at BO
      have CHR := hid (fun i h => char_val (listB m y) i h)
      have cz : (chars (listB m y)).size = rq := by rw [size_chars]; omega
      obtain ⟨z, hz⟩ : ∃ z, z = chars (listB m y) := ⟨_, rfl⟩
      rw [← hz] at BO cz CHR
      have z1 : (z.size : Int) ≤ 20000 := by omega
      have zq : (rq : Int) = (z.size : Int) := by omega
      have qle : (rq : Int) ≤ 8 * (t.size : Int) := by have := yb.1; omega
      have CZ := hid cz
      clear yk yo yb yq BI hz YL cz
      go_wp2_with fail
      refine (BO.out _ (HV.out.only0 O8.out) Y8.out).mono ?_
      rintro e w9 ⟨rfl, hO9⟩
      have O9 := hid (O8.out.trans hO9)
      have Y9 := hid (Y8.out.only0 hO9)
      have R9 := hid (R8.out.only hO9 (by simp))
      clear hO9 O8 Y8 R8
      go_wp2_with fail
      refine (lcheck_any m _ y w9 (HV.out.only0 O9.out) Y9.out YO.out).mono ?_
      rintro e w10 ⟨rfl, hO10⟩
      have O10 := hid (O9.out.trans hO10)
      have R10 := hid (R9.out.only hO10 (by simp))
      have yc0 := YC.out
      rw [yc0]
      clear hO10 O9 R9 yc0
      go_wp2_with fail
      refine (pos_any x _ _ _ R10.out).mono ?_
      rintro e w11 ⟨rfl, rfl⟩
      go_wp2_with fail
      refine (pos_any x _ _ _ R10.out).mono ?_
      rintro e w11 ⟨rfl, rfl⟩
      go_wp2_with fail
      go_loopg [17] z.size (fun g t17 wr => ∃ i : Nat, i + g = z.size ∧ t17 = .int .i64 i ∧ Only [] W wr)
      case atStart => exact ⟨0, by omega, rfl, O10.out⟩
      case round =>
        obtain ⟨i, hi, rfl, hO⟩ := hrel
        have O := hid hO
        clear hO
        have i0 : (0 : Int) ≤ (i : Int) := by omega
        by_cases hg : gk = 0
        · obtain rfl : i = z.size := by omega
          have g1 : ¬ (z.size : Int) < (z.size : Int) := by omega
          clear hi hg
          go_wp2_with fail
          refine (AW.out _ (HV.out.only0 O.out)).mono ?_
          rintro e w12 ⟨rfl, hO12⟩
          go_wp2_with fail
          go_ret
          exact ⟨rfl, O.out.trans hO12⟩
        · have g1 : (i : Int) < (z.size : Int) := by omega
          obtain ⟨g, rfl⟩ : ∃ g, gk = g + 1 := ⟨gk - 1, by omega⟩
          have IG := hid (show i + 1 + g = z.size by omega)
          have hiz : i < z.size := by omega
          have i2 : (i : Int) ≤ 20000 := by omega
          have j0 : (0 : Int) ≤ (i : Int) / 8 := by omega
          have j1 : (i : Int) / 8 < (t.size : Int) := by omega
          have hjt : i / 8 < t.size := by omega
          have m0 : (0 : Int) ≤ (i : Int) % 8 := by omega
          have m1 : (i : Int) % 8 ≤ 7 := by omega
          have CI := CHR.out i hiz
          have BE : bits .and .u8 (((t[i / 8]'hjt).toNat : Int) / 2 ^ (7 - i % 8)) 1 = ((bitL (listB m y) i).toNat : Int) := by
            rw [bit_num _ _ (UInt8.toNat_lt _), ← getD_at t (i / 8) hjt]
            have := YB.out.2 i (by have := CZ.out; have := QB.out; omega)
            rw [Nat.zero_add] at this
            rw [← this]
            rfl
          have hb1 : (bitL (listB m y) i).toNat ≤ 1 := Bool.toNat_le _
          generalize (bitL (listB m y) i).toNat = bb at *
          have bb1 : (bb : Int) ≤ 1 := by omega
          have E8 : (48 + (bb : Int) - 48) % 256 = (bb : Int) := by omega
          clear hi hg hb1
          go_wp2_with fail
          go_quiet (fail)
          go_wp2_with fail
          go_roundg g
          case measure => omega
          case rel => exact ⟨i + 1, IG.out, by go_num, O.out.drewN _⟩
    · obtain ⟨y0, yq⟩ := readI_no HY.out he
      subst y0
      subst yq
      go_wp2_with fail
      refine (pos_any x _ _ _ R8.out).mono ?_
      rintro e w9 ⟨rfl, rfl⟩
      go_wp2_with fail
      refine (AW.out _ (HV.out.only0 O8.out)).mono ?_
      rintro e w10 ⟨rfl, hO10⟩
      go_wp2_with fail
      go_ret
      exact ⟨rfl, O8.out.trans hO10⟩
end Go.Proofs.YtdkmeldcpamnnaaDoor

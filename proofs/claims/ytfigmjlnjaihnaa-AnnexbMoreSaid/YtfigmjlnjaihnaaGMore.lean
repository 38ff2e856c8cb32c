/- AnnexbMore: the walk. -/
import Derived.Test.YtfigmjlnjaihnaaKnown4
import Derived.Test.YtfigmjlnjaihnaaLFits
import Derived.Test.YtfigmjlnjaihnaaApS
import Derived.Test.YtfigmjlnjaihnaaArgS
namespace Go.Proofs.Ytfigmjlnjaihnaa
open Go.RowKit
set_option linter.unusedVariables false

theorem units_may {us : List ByteArray} (h : Units us) : mayAll us = true := List.all_eq_true.2 (fun u hu => (h u hu).1)
theorem units_long {us : List ByteArray} (h : Units us) (b : Bool) : (joinF b us).length ≤ 205 * us.length := by
  have h1 := bare_le us 201 (fun u hu => (h u hu).2)
  have h2 := join_len us b
  omega
theorem strOf_app (l m : List UInt8) : strOf l ++ strOf m = strOf (l ++ m) := by
  apply ByteArray.ext; simp [strOf]
theorem eqT {a b : ByteArray} (h : a = b) : (a.toList == b.toList) = true := by rw [h]; exact beq_self_eq_true _
/-- All units joined: where the second part has the byte 0 that it had alone, or none of them is. -/
theorem more_same (us vs : List ByteArray) (h : us = [] ∨ vs = [] ∨ ∃ u r, vs = u :: r ∧ longB (headN u % 32) false = true) : strOf (joinF true (us ++ vs)) = strOf (joinF true us) ++ strOf (joinF true vs) := by
  rw [strOf_app, joinF_append]
  rcases h with rfl | rfl | ⟨u, r, rfl, e⟩
  · simp [joinF]
  · simp [joinF]
  · have j : joinF true (u :: r) = joinF false (u :: r) := by rw [join_false, if_pos e]
    rw [j]
    cases us with
    | nil => show strOf (joinF true [] ++ joinF true (u :: r)) = _; rw [j]
    | cons a l => rfl
theorem more_less (us r : List ByteArray) (u : ByteArray) (hu : us ≠ []) (e : longB (headN u % 32) false = false) :
    strOf (joinF true (us ++ u :: r)) = strOf (joinF true us) ++ (strOf (joinF true (u :: r))).extract 1 (strOf (joinF true (u :: r))).size := by
  have h1 : (strOf (joinF true (u :: r))).extract 1 (strOf (joinF true (u :: r))).size = strOf (joinF false (u :: r)) := by
    rw [join_false, if_neg (by rw [e]; simp)]
    apply ByteArray.ext
    simp [strOf, ByteArray.size]
  rw [h1, strOf_app, joinF_append]
  cases us with
  | nil => exact absurd rfl hu
  | cons a l => rfl
set_option maxRecDepth 100000 in
set_option maxHeartbeats 8000000 in
theorem more_walk (a b : Value) (l m : List ByteArray) (W : World) (hM : MaxL W) (ha : Holds W a l) (hb : Holds W b m) :
    Calls Try.prog 9 #[a, b] W fun e w' => e = .returned (.bool true) ∧ Only [] W w' := by
  have KN := hid (fun w (o : Only [] W w) => known_any w (hM.only0 o))
  have MX := hid (fun w (o : Only [] W w) => hM.only0 o)
  have FA := hid (fits_any a l W ha)
  have FB := hid (fun w (o : Only [] W w) => fits_any b m w (hb.only o (by simp)))
  clear ha hb
  go_enter Try.func9, Try.ntmps9
  go_wp2_with fail
  refine FA.out.mono ?_
  rintro e w1 ⟨hE, ho⟩
  have O1 := hid ho
  clear ho
  rcases hE with rfl | ⟨sa, ua, rfl, hr, hn, h40, hU, hf⟩
  · go_wp2_with fail
    refine (FB.out _ O1.out).mono ?_
    rintro e w2 ⟨hE, ho⟩
    have O2 := hid (O1.out.trans ho)
    clear ho
    rcases hE with rfl | ⟨sb, ub, rfl, hr, hn, h40, hU, hf⟩
    all_goals
      (try clear hr hn h40 hU hf)
      go_wp2_with fail
      refine (KN.out _ O2.out).mono ?_
      rintro e w3 ⟨rfl, ho⟩
      have O := hid (O2.out.trans ho)
      clear ho
      go_wp2_with fail
      go_ret
      exact ⟨rfl, O.out⟩
  · have RA := hid hr
    have UA := hid hU
    have NA := hid (show ua.length ≤ 40 by omega)
    clear hr hn h40 hU hf
    go_wp2_with fail
    refine (FB.out _ O1.out).mono ?_
    rintro e w2 ⟨hE, ho⟩
    have O2 := hid (O1.out.trans ho)
    have HA2 := hid (RA.out.holds.only ho (by simp))
    clear ho
    rcases hE with rfl | ⟨sb, ub, rfl, hr, hn, h40, hU, hf⟩
    · go_wp2_with fail
      refine (KN.out _ O2.out).mono ?_
      rintro e w3 ⟨rfl, ho⟩
      have O := hid (O2.out.trans ho)
      clear ho
      go_wp2_with fail
      go_ret
      exact ⟨rfl, O.out⟩
    · have HB2 := hid hr.holds
      have UB := hid hU
      have NB := hid (show ub.length ≤ 40 by omega)
      clear hr hn h40 hU hf
      have UC := hid (show Units (ua ++ ub) from fun u hu => by
        rcases List.mem_append.1 hu with e | e
        · exact UA.out u e
        · exact UB.out u e)
      have NC := hid (show (ua ++ ub).length ≤ 80 by rw [List.length_append]; have := NA.out; have := NB.out; omega)
      have la := units_long UA.out true
      have lb := units_long UB.out true
      have lc := units_long UC.out true
      have na := NA.out
      have nb := NB.out
      have nc := NC.out
      have JA := hid (join_of ua (units_may UA.out) (by omega) (by omega))
      have JB := hid (join_of ub (units_may UB.out) (by omega) (by omega))
      have JC := hid (join_of (ua ++ ub) (units_may UC.out) (by omega) (by omega))
      have SP := hid (split_of (ua ++ ub) (strOf (joinF true ua) ++ strOf (joinF true ub)) (units_may UC.out) (by
        rw [strOf_app]
        have := stream_append (datas ua) (datas ub) _ (stream_join ub true) _ (stream_join ua true)
        simpa [datas, strOf] using this) (by rw [ByteArray.size_append, strOf_size, strOf_size]; omega) (by omega))
      have sz : ∀ us : List ByteArray, Units us → ∀ (j : Nat) (u : ByteArray), us[j]? = some u → u.size ≤ 100000000 := fun us h j u hj => by
        have := (h u (List.mem_of_getElem? hj)).2
        omega
      have sa1 : (strOf (joinF true ua)).size ≤ 10000 := by rw [strOf_size]; omega
      have sb1 : (strOf (joinF true ub)).size ≤ 10000 := by rw [strOf_size]; omega
      have SZ := hid sz
      have c1 : (strOf (joinF true ua)).size + (strOf (joinF true ub)).size ≤ 9223372036854775807 := by omega
      have c2 : ((strOf (joinF true ua)).size : Int) + ((strOf (joinF true ub)).size : Int) ≤ 9223372036854775807 := by omega
      have MS := hid (more_same ua ub)
      have ML := hid (fun r u => more_less ua r u)
      clear la lb lc na nb nc sz
      go_wp2_with fail
      refine (cps_any _ ua _ HA2.out (by have := NA.out; omega)).mono ?_
      rintro e w3 ⟨sv, rfl, hr, ho, hf⟩
      have O3 := hid (O2.out.trans ho)
      have HA3 := hid (HA2.out.only ho (by simp))
      have HB3 := hid (HB2.out.only ho (by simp))
      obtain ⟨sv2, w4, hrun, hrow, honly, hown⟩ := append_rows w3 sv sb ua ub hr HB3.out (by have := NA.out; have := NB.out; omega)
      have hO4 := ho.trans2 honly (fun x hx => .inr (hf x hx))
      have O4 := hid (O2.out.trans hO4)
      have HA4 := hid (HA2.out.only hO4 (by simp))
      have HB4 := hid (HB2.out.only hO4 (by simp))
      have HC4 := hid hrow.holds
      clear hr ho hf hrow honly hown hO4 O3 HA3 HB3 HA2 HB2 RA O1 O2
      go_wp2_with (at_builtin; refine Lib.wpList_append_run _ rfl _ _ _ _ rfl _ _ rfl rfl _ _ hrun ?_)
      refine (join_any _ ua _ (MX.out _ O4.out) HA4.out (by have := NA.out; omega) (SZ.out ua UA.out)).mono ?_
      rw [JA.out]
      rintro e w5 ⟨rfl, ho⟩
      have O5 := hid (O4.out.trans ho)
      have HB5 := hid (HB4.out.only ho (by simp))
      have HC5 := hid (HC4.out.only ho (by simp))
      have HA5 := hid (HA4.out.only ho (by simp))
      clear ho HA4 HB4 HC4 O4
      go_wp2_with fail
      refine (join_any _ ub _ (MX.out _ O5.out) HB5.out (by have := NB.out; omega) (SZ.out ub UB.out)).mono ?_
      rw [JB.out]
      rintro e w6 ⟨rfl, ho⟩
      have O6 := hid (O5.out.trans ho)
      have HB6 := hid (HB5.out.only ho (by simp))
      have HC6 := hid (HC5.out.only ho (by simp))
      have HA6 := hid (HA5.out.only ho (by simp))
      clear ho HA5 HB5 HC5 O5
      go_wp2_with fail
      refine (join_any _ (ua ++ ub) _ (MX.out _ O6.out) HC6.out (by have := NC.out; omega) (SZ.out _ UC.out)).mono ?_
      rw [JC.out]
      rintro e w7 ⟨rfl, ho⟩
      have O7 := hid (O6.out.trans ho)
      have HB7 := hid (HB6.out.only ho (by simp))
      have HC7 := hid (HC6.out.only ho (by simp))
      have HA7 := hid (HA6.out.only ho (by simp))
      clear ho HA6 HB6 HC6 O6
      generalize strOf (joinF true ua) = ta at *
      obtain ⟨tc, htc⟩ : ∃ tc, tc = strOf (joinF true (ua ++ ub)) := ⟨_, rfl⟩
      obtain ⟨tb, htb⟩ : ∃ tb, tb = strOf (joinF true ub) := ⟨_, rfl⟩
      rw [← htc] at MS ⊢
      rw [← htb] at MS SP c1 c2 sb1 ⊢
      have TB := hid htb
      have TC := hid htc
      clear htb htc
      have t1 : (ta ++ tb).size ≤ 100000000 := by rw [ByteArray.size_append]; omega
      go_wp2_with fail
      refine (split_any _ _ (MX.out _ O7.out) t1).mono ?_
      rw [SP.out]
      rintro e w8 ⟨sv8, rfl, hh, ho⟩
      have O8 := hid (O7.out.trans ho)
      have HB8 := hid (HB7.out.only ho (by simp))
      have HC8 := hid (HC7.out.only ho (by simp))
      have HA8 := hid (HA7.out.only ho (by simp))
      have HS8 := hid hh
      clear ho hh HA7 HB7 HC7 O7
      go_wp2_with fail
      refine (eqs_any _ _ _ _ _ HS8.out HC8.out (by have := NC.out; omega) (by have := NC.out; omega)).mono ?_
      rintro e w9 ⟨rfl, ho⟩
      have O9 := hid (O8.out.trans ho)
      have HB9 := hid (HB8.out.only ho (by simp))
      have HA9 := hid (HA8.out.only ho (by simp))
      have ED : decide (ua ++ ub = ua ++ ub) = true := decide_eq_true rfl
      clear ho HA8 HB8 HC8 HS8 O8
      rw [ED]
      clear ED
      obtain ⟨xa, ca, rfl, hxa⟩ := HA9.out
      obtain ⟨xb, cb, rfl, hxb⟩ := HB9.out
      have HXB := hid hxb
      clear hxa hxb
      have na0 : (ua.length : Int) ≤ 40 := by have := NA.out; omega
      have nb0 : (ub.length : Int) ≤ 40 := by have := NB.out; omega
      by_cases ea : ua.length = 0
      · have n1 : ¬ (0 : Int) < (ua.length : Int) := by omega
        have EQ := eqT (MS.out (.inl (List.length_eq_zero_iff.1 ea)))
        clear ea
        go_wp2_with fail
        refine (KN.out _ O9.out).mono ?_
        rintro e w10 ⟨rfl, ho⟩
        have O := hid (O9.out.trans ho)
        clear ho
        go_wp2_with fail
        go_ret
        exact ⟨rfl, O.out⟩
      · have n1 : (0 : Int) < (ua.length : Int) := by omega
        have une : ua ≠ [] := fun h => ea (by rw [h]; rfl)
        have UNE := hid une
        clear ea une
        by_cases eb : ub = []
        · have n2 : ¬ (0 : Int) < (ub.length : Int) := by rw [eb]; simp
          have EQ := eqT (MS.out (.inr (.inl eb)))
          clear eb
          go_wp2_with fail
          refine (KN.out _ O9.out).mono ?_
          rintro e w10 ⟨rfl, ho⟩
          have O := hid (O9.out.trans ho)
          clear ho
          go_wp2_with fail
          go_ret
          exact ⟨rfl, O.out⟩
        · obtain ⟨u, r, rfl⟩ := List.exists_cons_of_ne_nil eb
          have n2 : (0 : Int) < ((u :: r).length : Int) := by simp only [List.length_cons]; omega
          obtain ⟨ad, rfl, hx0⟩ := HXB.out 0 u rfl
          have hx : w9.cell? ad = some (.string u) := by simpa [Addr.add] using hx0
          clear hx0
          have up := may_size u (UB.out u (by simp)).1
          have hd := head_get u up
          have upI : (0 : Int) < (u.size : Int) := by omega
          have b0 : 0 ≤ (u[0].toNat : Int) := Int.natCast_nonneg _
          have b1 : (u[0].toNat : Int) ≤ 255 := by have := UInt8.toNat_lt u[0]; omega
          have LG := hid (fun w => long_any ((u[0].toNat : Int) % 32) false w (by omega) (by omega))
          cases hlb : longB ((u[0].toNat : Int) % 32) false with
          | true =>
            rw [hlb] at LG
            have EQ := eqT (MS.out (.inr (.inr ⟨u, r, rfl, by rw [hd]; exact hlb⟩)))
            clear eb hlb hd
            go_wp2_with fail
            refine (LG.out _).mono ?_
            rintro e w' ⟨rfl, rfl⟩
            go_wp2_with fail
            refine (KN.out _ O9.out).mono ?_
            rintro e w10 ⟨rfl, ho⟩
            have O := hid (O9.out.trans ho)
            clear ho
            go_wp2_with fail
            go_ret
            exact ⟨rfl, O.out⟩
          | false =>
            rw [hlb] at LG
            have EL := ML.out r u UNE.out (by rw [hd]; exact hlb)
            rw [← TC.out, ← TB.out] at EL
            have EQ := eqT EL
            have tp : 1 ≤ tb.size := by
              rw [TB.out, strOf_size, join_false, if_neg (by rw [hd, hlb]; simp), List.length_cons]
              omega
            have tne : ¬ tb.toList = [] := by rw [Lib.toList_data]; exact nonempty tb (by omega)
            have tem : tb.toList.isEmpty = false := by rw [List.isEmpty_eq_false_iff]; exact tne
            have tpI : (1 : Int) ≤ (tb.size : Int) := by omega
            have tbI : (tb.size : Int) ≤ 10000 := by omega
            have c3 : ta.size + (tb.extract 1 tb.size).size ≤ 9223372036854775807 := by rw [ByteArray.size_extract]; omega
            clear eb hlb hd EL
            go_wp2_with fail
            refine (LG.out _).mono ?_
            rintro e w' ⟨rfl, rfl⟩
            go_wp2_with fail
            refine (KN.out _ O9.out).mono ?_
            rintro e w10 ⟨rfl, ho⟩
            have O := hid (O9.out.trans ho)
            clear ho
            go_wp2_with fail
            go_ret
            exact ⟨rfl, O.out⟩
open Go.ChangeShapes Go.WideShapes Go.ChangeAt
theorem annexbMore_core {H : Type} {enc : TypeId × Value → H} (W : World) (hM : MaxL W) (base : Nat)
    (v0 : Value) (d0 : DataW H) (p0 : List MemPlace) (k0 : Value.okWide Try.prog W .any base 23 v0) (h0 : DataW.Trod enc Try.prog W 0 (fun _ => true) true 23 v0 d0 p0)
    (v1 : Value) (d1 : DataW H) (p1 : List MemPlace) (k1 : Value.okWide Try.prog W .any base 23 v1) (h1 : DataW.Trod enc Try.prog W 0 (fun _ => true) true 23 v1 d1 p1) :
    Calls Try.prog 9 #[v0, v1] W fun e w' => e = .returned (.bool true) ∧ Below W.heap.size W w' := by
  obtain ⟨l, hl, _, _⟩ := open_strsl k0 h0
  obtain ⟨m, hm, _, _⟩ := open_strsl k1 h1
  exact (more_walk v0 v1 l m W hM hl hm).mono fun e w' ⟨he, ho⟩ => ⟨he, ho.below (Nat.le_refl _) (by simp)⟩
end Go.Proofs.Ytfigmjlnjaihnaa

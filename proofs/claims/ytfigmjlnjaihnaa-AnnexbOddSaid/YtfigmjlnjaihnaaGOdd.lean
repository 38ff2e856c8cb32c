/- AnnexbOdd: the walk. -/
import Derived.Test.YtfigmjlnjaihnaaKnown4
import Derived.Test.YtfigmjlnjaihnaaLFits
import Derived.Test.YtfigmjlnjaihnaaApS
import Derived.Test.YtfigmjlnjaihnaaPart
import Derived.Test.YtfigmjlnjaihnaaArgS
import Derived.Test.YtfigmjlnjaihnaaLMay
import Derived.ShutString
import Derived.ChangeOld
import Derived.Deep.RegionLaw
import Derived.DataShut
namespace Go.Proofs.Ytfigmjlnjaihnaa
open Go.RowKit
open Go.ChangeMaps (open_string shut_string)
set_option linter.unusedVariables false

theorem units_odd {us : List ByteArray} (h : Units us) : mayAll us = true := List.all_eq_true.2 (fun u hu => (h u hu).1)
/-- What the two appends do. -/
theorem odd_runs (W1 wA : World) (sv x p2 : Value) (us1 us2 : List ByteArray) (odd : ByteArray) (hR : RowS wA sv us1) (hx : Holds wA x [odd]) (hp : Holds wA p2 us2) (hO : Only [] W1 wA) (hf : ∀ g, g ∈ ownOf sv → W1.heap.size ≤ g)
    (hp2 : ∀ a n c, p2 = .slice (some a) n c → a.block < W1.heap.size) (h1 : us1.length ≤ 100) (h2 : us2.length ≤ 100) :
    ∃ sv2 w3 sv3 w4, (Builtin.append_ #[23, 23] 23 #[sv, x]).run Try.prog wA = .ok sv2 w3 ∧ (Builtin.append_ #[23, 23] 23 #[sv2, p2]).run Try.prog w3 = .ok sv3 w4 ∧
      RowS w4 sv3 (us1 ++ [odd] ++ us2) ∧ Only [] W1 w4 := by
  obtain ⟨sv2, w3, hrun, hrow, honly, hown⟩ := append_rows wA sv x us1 [odd] hR hx (by simp; omega)
  have hp3 : Holds w3 p2 us2 := hp.only honly (fun a n c e hm => by have := hf _ hm; have := hp2 a n c e; omega)
  have O3 : Only [] W1 w3 := hO.trans2 honly (fun g hg => .inr (hf g hg))
  obtain ⟨sv3, w4, hrun2, hrow2, honly2, _⟩ := append_rows w3 sv2 p2 (us1 ++ [odd]) us2 hrow hp3 (by simp; omega)
  refine ⟨sv2, w3, sv3, w4, hrun, hrun2, hrow2, O3.trans2 honly2 (fun g hg => .inr ?_)⟩
  rcases hown g hg with e | e
  · exact hf g e
  · have := hO.size; omega
set_option maxRecDepth 100000 in
set_option maxHeartbeats 8000000 in
theorem odd_walk (a : Value) (l : List ByteArray) (odd : ByteArray) (x : Int) (W : World) (hM : MaxL W) (ha : Holds W a l) (hod : odd.size ≤ maxLen) (x0 : 0 ≤ x) (x1 : x ≤ 255) :
    Calls Try.prog 10 #[a, .string odd, .int .u8 x] W fun e w' => e = .returned (.bool true) ∧ Only [] W w' := by
  have KN := hid (fun w (o : Only [] W w) => known_any w (hM.only0 o))
  have ML := hid (fun w (o : Only [] W w) => hM.only0 o)
  have FI := hid (fits_any a l W ha)
  have ob : (odd.size : Int) ≤ 9223372036854775807 := by unfold maxLen at hod; omega
  clear ha hod
  go_enter Try.func10, Try.ntmps10
  go_wp2_with fail
  refine FI.out.mono ?_
  rintro e w1 ⟨hE, ho⟩
  have O1 := hid ho
  clear ho
  rcases hE with rfl | ⟨sv, us, rfl, hr, hn, h40, hU, hf⟩
  · go_wp2_with fail
    refine (KN.out _ O1.out).mono ?_
    rintro e w2 ⟨rfl, ho⟩
    have O := hid (O1.out.trans ho)
    clear ho
    go_wp2_with fail
    go_ret
    exact ⟨rfl, O.out⟩
  · by_cases ho2 : 200 < odd.size
    · have i2 : (200 : Int) < (odd.size : Int) := by omega
      clear hr hn h40 hU hf ho2
      go_wp2_with fail
      refine (KN.out _ O1.out).mono ?_
      rintro e w2 ⟨rfl, ho⟩
      have O := hid (O1.out.trans ho)
      clear ho
      go_wp2_with fail
      go_ret
      exact ⟨rfl, O.out⟩
    · have i2 : ¬ (200 : Int) < (odd.size : Int) := by omega
      have H1 := hid hr.holds
      obtain ⟨a1, c1, rfl, hc1⟩ := hr.form
      have U := hid hU
      have l1 : us.length ≤ 40 := by omega
      have L1 := hid l1
      have nb : (us.length : Int) ≤ 40 := by omega
      have n0 : (0 : Int) ≤ (us.length : Int) := by omega
      obtain ⟨k, hk⟩ : ∃ k : Nat, (k : Int) = x % ((us.length : Int) + 1) := ⟨(x % ((us.length : Int) + 1)).toNat, by have := Int.emod_nonneg x (show (us.length : Int) + 1 ≠ 0 by omega); omega⟩
      have kle : k ≤ us.length := by have := Int.emod_lt_of_pos x (show (0 : Int) < (us.length : Int) + 1 by omega); omega
      have kI : (k : Int) ≤ (us.length : Int) := by omega
      have k0 : (0 : Int) ≤ (k : Int) := by omega
      have c1I : (us.length : Int) ≤ (c1 : Int) := by omega
      have kc : k ≤ c1 := by omega
      have HK := hid hk
      obtain ⟨p2, hp2e⟩ : ∃ p2, p2 = Value.slice (if c1 = k then a1 else Option.map (fun x => x.add k) a1) (us.length - k) (c1 - k) := ⟨_, rfl⟩
      have P1 := holds_part1 H1.out k kle
      have P2 := holds_part2 H1.out k kle hc1
      rw [← hp2e] at P2
      have pb : ∀ a n c, p2 = .slice (some a) n c → a.block < w1.heap.size := fun a n c e => by
        rw [hp2e] at e
        injection e with e _ _
        cases a1 with
        | none => simp at e
        | some ad =>
          have hlt := hr.lt ad.block (by simp [ownOf, Value.ownBlock])
          split at e
          · injection e with e; rw [← e]; exact hlt
          · simp at e
            rw [← e]
            rw [show (ad.add k).block = ad.block from by cases k <;> rfl]
            exact hlt
      have t1 : (us.take k).length ≤ 100 := by rw [List.length_take]; omega
      have t2 : (us.drop k).length ≤ 100 := by rw [List.length_drop]; omega
      have CPA : Calls Try.prog 15 #[.slice a1 k c1] w1.drew fun e w2 => ∃ sv sv2 w3 sv3 w4, e = .returned sv ∧ (Builtin.append_ #[23, 23] 23 #[sv, .slice (some ⟨w2.heap.size, 0, none⟩) 1 1]).run Try.prog (w2.alloc (.cells #[.string odd] 9)) = .ok sv2 w3 ∧
          (Builtin.append_ #[23, 23] 23 #[sv2, p2]).run Try.prog w3 = .ok sv3 w4 ∧ RowS w4 sv3 (us.take k ++ [odd] ++ us.drop k) ∧ Only [] w1 w4 :=
        (cps_any _ (us.take k) w1.drew (P1.only (Only.refl [] w1).drew (by simp)) (by omega)).mono fun e w2 ⟨sv, he, hr2, ho2, hf2⟩ => by
          have oA : Only [] w1 (w2.alloc (.cells #[.string odd] 9)) := ((Only.refl [] w1).drew.trans ho2).alloc _
          obtain ⟨sv2, w3, sv3, w4, h⟩ := odd_runs w1 (w2.alloc (.cells #[.string odd] 9)) sv _ p2 (us.take k) (us.drop k) odd (hr2.only ((Only.refl [] w2).alloc _) (by simp)) (holds_one w2 odd) (P2.only oA (by simp)) oA hf2 pb t1 t2
          exact ⟨sv, sv2, w3, sv3, w4, he, h⟩
      have CPB : Calls Try.prog 15 #[.slice a1 k c1] (w1.alloc (.cells #[.string odd] 9)).drew fun e w2 => ∃ sv sv2 w3 sv3 w4, e = .returned sv ∧ (Builtin.append_ #[23, 23] 23 #[sv, .slice (some ⟨w1.heap.size, 0, none⟩) 1 1]).run Try.prog w2 = .ok sv2 w3 ∧
          (Builtin.append_ #[23, 23] 23 #[sv2, p2]).run Try.prog w3 = .ok sv3 w4 ∧ RowS w4 sv3 (us.take k ++ [odd] ++ us.drop k) ∧ Only [] w1 w4 :=
        (cps_any _ (us.take k) _ (P1.only ((Only.refl [] w1).alloc _).drew (by simp)) (by omega)).mono fun e w2 ⟨sv, he, hr2, ho2, hf2⟩ => by
          have oA : Only [] w1 w2 := (((Only.refl [] w1).alloc _).drew).trans ho2
          obtain ⟨sv2, w3, sv3, w4, h⟩ := odd_runs w1 w2 sv _ p2 (us.take k) (us.drop k) odd hr2 ((holds_one w1 odd).only ((Only.refl [] (w1.alloc (.cells #[.string odd] 9))).drew.trans ho2) (by simp)) (P2.only oA (by simp)) oA (fun g hg => by have := hf2 g hg; simp at this; omega) pb t1 t2
          exact ⟨sv, sv2, w3, sv3, w4, he, h⟩
      rw [hp2e] at CPA CPB
      obtain ⟨al, hal⟩ : ∃ al, al = us.take k ++ [odd] ++ us.drop k := ⟨_, rfl⟩
      rw [← hal] at CPA CPB
      have CPA := hid CPA
      have CPB := hid CPB
      have mem : ∀ v, v ∈ al → v = odd ∨ v ∈ us := fun v hv => by
        rw [hal] at hv
        rcases List.mem_append.1 hv with e | e
        · rcases List.mem_append.1 e with e | e
          · exact .inr (List.mem_of_mem_take e)
          · exact .inl (List.mem_singleton.1 e)
        · exact .inr (List.mem_of_mem_drop e)
      have la : al.length ≤ 41 := by
        rw [hal, List.length_append, List.length_append, List.length_take, List.length_drop]
        simp
        omega
      have l2 : al.length ≤ 1000000 := by omega
      have LA := hid l2
      have SZ := hid (fun (j : Nat) (u : ByteArray) (h : al[j]? = some u) => (show u.size ≤ 100000000 from by
        rcases mem u (List.mem_of_getElem? h) with e | e
        · rw [e]; omega
        · have := (U.out u e).2; omega))
      have oz : odd.size ≤ 100000000 := by omega
      have MY := hid (fun w => lmay_any odd w oz)
      cases hmb : mayB odd.data.toList with
      | true =>
        have UA : Units al := fun v hv => by
          rcases mem v hv with e | e
          · rw [e]; exact ⟨hmb, by omega⟩
          · exact U.out v e
        have b1 := bare_le al 201 (fun u hu => (UA u hu).2)
        have jl := join_len al true
        have JA := hid (join_of al (units_odd UA) (by omega) (by omega))
        have BA := hid (back_of al (units_odd UA) (by omega) (by omega))
        have sz : (strOf (joinF true al)).size ≤ 100000000 := by rw [strOf_size]; omega
        have SS := hid sz
        rw [hmb] at MY
        clear hr hn h40 hU hf ho2 l1 hk P1 P2 pb t1 t2 hp2e mem la l2 hal oz hmb b1 jl sz UA
        go_wp2_with fail
        rw [← HK.out]
        go_region_law (first
          | (go_simp; go_at_call 15; (with_reducible refine CPA.out.mono ?_); rintro e w2 ⟨sv, sv2, w3, sv3, w4, rfl, hrun1, hrun2, hrow, honly⟩; have hrun1 := hid hrun1; have hrun2 := hid hrun2; have R4 := hid hrow; have O4 := hid (O1.out.trans honly); clear hrow honly)
          | (go_simp; go_at_call 15; (with_reducible refine CPB.out.mono ?_); rintro e w2 ⟨sv, sv2, w3, sv3, w4, rfl, hrun1, hrun2, hrow, honly⟩; have hrun1 := hid hrun1; have hrun2 := hid hrun2; have R4 := hid hrow; have O4 := hid (O1.out.trans honly); clear hrow honly)
          | refine step_append_eq rfl _ _ _ _ rfl _ _ rfl rfl _ _ hrun1.out ?_
          | refine step_append_eq rfl _ _ _ _ rfl _ _ rfl rfl _ _ hrun2.out ?_)
        · generalize (if c1 = k then a1 else Option.map (fun x => x.add k) a1) = a2
          go_wp2_with fail
          refine (join_any _ al _ (ML.out _ O4.out) R4.out.holds LA.out SZ.out).mono ?_
          rw [JA.out]
          rintro e w5 ⟨rfl, ho⟩
          have O5 := hid (O4.out.trans ho)
          have H5 := hid (R4.out.holds.only ho (by simp))
          clear ho
          go_wp2_with fail
          refine (MY.out _).mono ?_
          rintro e w' ⟨rfl, rfl⟩
          go_wp2_with fail
          refine (split_any _ _ (ML.out _ O5.out) SS.out).mono ?_
          rw [BA.out]
          rintro e w6 ⟨sv6, rfl, hh, ho⟩
          have O6 := hid (O5.out.trans ho)
          have H6 := hid (H5.out.only ho (by simp))
          have K6 := hid hh
          clear ho hh
          go_wp2_with fail
          refine (eqs_any _ _ _ _ _ K6.out H6.out LA.out LA.out).mono ?_
          rintro e w7 ⟨rfl, ho⟩
          have O7 := hid (O6.out.trans ho)
          have ED : decide (al = al) = true := decide_eq_true rfl
          clear ho
          rw [ED]
          clear ED
          go_wp2_with fail
          refine (KN.out _ O7.out).mono ?_
          rintro e w8 ⟨rfl, ho⟩
          have O8 := hid (O7.out.trans ho)
          clear ho
          go_wp2_with fail
          go_ret
          exact ⟨rfl, O8.out⟩
        · generalize (if c1 = k then a1 else Option.map (fun x => x.add k) a1) = a2
          go_wp2_with fail
          refine (join_any _ al _ (ML.out _ O4.out) R4.out.holds LA.out SZ.out).mono ?_
          rw [JA.out]
          rintro e w5 ⟨rfl, ho⟩
          have O5 := hid (O4.out.trans ho)
          have H5 := hid (R4.out.holds.only ho (by simp))
          clear ho
          go_wp2_with fail
          refine (MY.out _).mono ?_
          rintro e w' ⟨rfl, rfl⟩
          go_wp2_with fail
          refine (split_any _ _ (ML.out _ O5.out) SS.out).mono ?_
          rw [BA.out]
          rintro e w6 ⟨sv6, rfl, hh, ho⟩
          have O6 := hid (O5.out.trans ho)
          have H6 := hid (H5.out.only ho (by simp))
          have K6 := hid hh
          clear ho hh
          go_wp2_with fail
          refine (eqs_any _ _ _ _ _ K6.out H6.out LA.out LA.out).mono ?_
          rintro e w7 ⟨rfl, ho⟩
          have O7 := hid (O6.out.trans ho)
          have ED : decide (al = al) = true := decide_eq_true rfl
          clear ho
          rw [ED]
          clear ED
          go_wp2_with fail
          refine (KN.out _ O7.out).mono ?_
          rintro e w8 ⟨rfl, ho⟩
          have O8 := hid (O7.out.trans ho)
          clear ho
          go_wp2_with fail
          go_ret
          exact ⟨rfl, O8.out⟩
      | false =>
        have JN := hid (join_no al (by rw [hal, mayAll_append, mayAll_append, show mayAll [odd] = false from by unfold mayAll; simp [hmb]]; simp) (by omega))
        rw [hmb] at MY
        clear hr hn h40 hU hf ho2 l1 hk P1 P2 pb t1 t2 hp2e mem la l2 hal oz hmb
        go_wp2_with fail
        rw [← HK.out]
        go_region_law (first
          | (go_simp; go_at_call 15; (with_reducible refine CPA.out.mono ?_); rintro e w2 ⟨sv, sv2, w3, sv3, w4, rfl, hrun1, hrun2, hrow, honly⟩; have hrun1 := hid hrun1; have hrun2 := hid hrun2; have R4 := hid hrow; have O4 := hid (O1.out.trans honly); clear hrow honly)
          | (go_simp; go_at_call 15; (with_reducible refine CPB.out.mono ?_); rintro e w2 ⟨sv, sv2, w3, sv3, w4, rfl, hrun1, hrun2, hrow, honly⟩; have hrun1 := hid hrun1; have hrun2 := hid hrun2; have R4 := hid hrow; have O4 := hid (O1.out.trans honly); clear hrow honly)
          | refine step_append_eq rfl _ _ _ _ rfl _ _ rfl rfl _ _ hrun1.out ?_
          | refine step_append_eq rfl _ _ _ _ rfl _ _ rfl rfl _ _ hrun2.out ?_)
        · generalize (if c1 = k then a1 else Option.map (fun x => x.add k) a1) = a2
          go_wp2_with fail
          refine (join_any _ al _ (ML.out _ O4.out) R4.out.holds LA.out SZ.out).mono ?_
          rw [JN.out]
          rintro e w5 ⟨rfl, ho⟩
          have O5 := hid (O4.out.trans ho)
          clear ho
          go_wp2_with fail
          refine (MY.out _).mono ?_
          rintro e w' ⟨rfl, rfl⟩
          go_wp2_with fail
          refine (KN.out _ O5.out).mono ?_
          rintro e w8 ⟨rfl, ho⟩
          have O8 := hid (O5.out.trans ho)
          clear ho
          go_wp2_with fail
          go_ret
          exact ⟨rfl, O8.out⟩
        · generalize (if c1 = k then a1 else Option.map (fun x => x.add k) a1) = a2
          go_wp2_with fail
          refine (join_any _ al _ (ML.out _ O4.out) R4.out.holds LA.out SZ.out).mono ?_
          rw [JN.out]
          rintro e w5 ⟨rfl, ho⟩
          have O5 := hid (O4.out.trans ho)
          clear ho
          go_wp2_with fail
          refine (MY.out _).mono ?_
          rintro e w' ⟨rfl, rfl⟩
          go_wp2_with fail
          refine (KN.out _ O5.out).mono ?_
          rintro e w8 ⟨rfl, ho⟩
          have O8 := hid (O5.out.trans ho)
          clear ho
          go_wp2_with fail
          go_ret
          exact ⟨rfl, O8.out⟩
open Go.ChangeShapes Go.WideShapes Go.ChangeAt
theorem annexbOdd_core {H : Type} {enc : TypeId × Value → H} (W : World) (hM : MaxL W) (base : Nat)
    (v0 : Value) (d0 : DataW H) (p0 : List MemPlace) (k0 : Value.okWide Try.prog W .any base 23 v0) (h0 : DataW.Trod enc Try.prog W 0 (fun _ => true) true 23 v0 d0 p0)
    (v1 : Value) (d1 : DataW H) (p1 : List MemPlace) (k1 : Value.okWide Try.prog W .any base 9 v1) (h1 : DataW.Trod enc Try.prog W 0 (fun _ => true) true 9 v1 d1 p1)
    (v2 : Value) (d2 : DataW H) (p2 : List MemPlace) (k2 : Value.okWide Try.prog W .any base 5 v2) (h2 : DataW.Trod enc Try.prog W 0 (fun _ => true) true 5 v2 d2 p2) :
    Calls Try.prog 10 #[v0, v1, v2] W fun e w' => e = .returned (.bool true) ∧ Below W.heap.size W w' := by
  obtain ⟨l, hl, _, _⟩ := open_strsl k0 h0
  obtain ⟨s, rfl, rfl, rfl, w1⟩ := open_string Try.underlying9 k1 h1
  obtain ⟨n, rfl, rfl, rfl, w2⟩ := open_int Try.underlying5 k2 h2
  have w2' : 0 ≤ n ∧ n ≤ 255 := by
    have h := (Lit.wf_int_iff .u8 n).1 w2
    have a : IntKind.u8.min = 0 := rfl
    have b : IntKind.u8.max = 255 := by decide
    omega
  exact (odd_walk v0 l s n W hM hl w1 w2'.1 w2'.2).mono fun e w' ⟨he, ho⟩ => ⟨he, ho.below (Nat.le_refl _) (by simp)⟩
end Go.Proofs.Ytfigmjlnjaihnaa

/- AnnexbJoins: the walk. -/
import Derived.Test.YtfigmjlnjaihnaaKnown4
import Derived.Test.YtfigmjlnjaihnaaCpS
import Derived.Test.YtfigmjlnjaihnaaArgS
import Derived.DataShut
namespace Go.Proofs.Ytfigmjlnjaihnaa
open Go.RowKit
set_option linter.unusedVariables false

set_option maxHeartbeats 4000000 in
theorem joins_walk (a : Value) (l : List ByteArray) (k : Int) (first : Bool) (W : World) (hM : MaxL W) (ha : Holds W a l) (hl0 : l.length ≤ maxLen) (hu0 : ∀ (j : Nat) (u : ByteArray), l[j]? = some u → u.size ≤ maxLen) (k0 : 0 ≤ k) (k1 : k ≤ 255) :
    Calls Try.prog 4 #[a, .int .u8 k, .bool first] W fun e w' => e = .returned (.bool true) ∧ Only [] W w' := by
  have KN := hid (fun w (o : Only [] W w) => known_any w (hM.only0 o))
  have ML := hid (fun w (o : Only [] W w) => hM.only0 o)
  have HH := hid ha
  obtain ⟨a, c, rfl, HA⟩ := ha
  have HA := hid HA
  have HU := hid hu0
  have hl' : (l.length : Int) ≤ 9223372036854775807 := by unfold maxLen at hl0; omega
  clear hu0 hl0
  by_cases hm : 60 < l.length
  · have i1 : (60 : Int) < (l.length : Int) := by omega
    clear hm
    go_enter Try.func4, Try.ntmps4
    go_wp2_with fail
    refine (KN.out _ (Only.refl _ _)).mono ?_
    rintro e w1 ⟨rfl, ho⟩
    have O := hid ho
    clear ho
    go_wp2_with fail
    go_ret
    exact ⟨rfl, O.out⟩
  · have i1 : ¬ (60 : Int) < (l.length : Int) := by omega
    have LL := hid hm
    have nb : (l.length : Int) ≤ 60 := by omega
    clear hm
    go_enter Try.func4, Try.ntmps4
    go_wp2_with fail
    go_loopg [7] l.length (fun g t wr => ∃ j : Nat, j + g = l.length ∧ t = .int .i64 j ∧ (∀ (i : Nat) (u : ByteArray), i < j → l[i]? = some u → u.size ≤ 300) ∧ wr = W)
    case atStart => exact ⟨0, by omega, rfl, fun i u h => absurd h (by omega), rfl⟩
    case round =>
      obtain ⟨j, hj, rfl, hs, hw⟩ := hrel
      obtain rfl : W = wr := hw.symm
      have J := hid hj
      have S := hid hs
      clear hs
      have jb : (j : Int) ≤ 60 := by omega
      have j0 : (0 : Int) ≤ (j : Int) := by omega
      by_cases hg : gk = 0
      · obtain rfl : j = l.length := by omega
        have j1 : ¬ (l.length : Int) < (l.length : Int) := by omega
        have SZ : ∀ (i : Nat) (u : ByteArray), l[i]? = some u → u.size ≤ 100000000 := fun i u h => by
          have := S.out i u ((List.getElem?_eq_some_iff.1 h).1) h
          omega
        have SZ := hid SZ
        have l1 : l.length ≤ 1000000 := by have := LL.out; omega
        have L1 := hid l1
        clear hj hg l1
        go_wp2_with fail
        refine (cps_any _ l _ HH.out L1.out).mono ?_
        rintro e w1 ⟨sv, rfl, hr, ho, hf⟩
        have O1 := hid ho
        have H1 := hid hr.holds
        clear hr ho hf
        go_wp2_with fail
        refine (join_any _ l _ (ML.out _ O1.out) H1.out L1.out SZ.out).mono ?_
        rintro e w2 ⟨rfl, ho⟩
        have O2 := hid (O1.out.trans ho)
        have H2 := hid (H1.out.only ho (by simp))
        clear ho
        go_wp2_with fail
        refine (rjoin_any _ l _ (HH.out.only O2.out (by simp)) L1.out SZ.out).mono ?_
        rintro e w3 ⟨rfl, ho⟩
        have O3 := hid (O2.out.trans ho)
        have H3 := hid (H2.out.only ho (by simp))
        clear ho
        generalize joinR l = r at *
        obtain ⟨rs, re⟩ := r
        go_wp2_with fail
        refine (eqs_any _ _ _ _ _ H3.out (HH.out.only O3.out (by simp)) L1.out L1.out).mono ?_
        rintro e w4 ⟨rfl, ho⟩
        have O4 := hid (O3.out.trans ho)
        have ED : decide (l = l) = true := decide_eq_true rfl
        clear ho
        rw [ED]
        clear ED
        go_wp2_with fail
        refine (long_any k first _ k0 k1).mono ?_
        rintro e w5 ⟨rfl, rfl⟩
        go_wp2_with fail
        refine (rlong_any k first _ k0 k1).mono ?_
        rintro e w5 ⟨rfl, rfl⟩
        go_wp2_with fail
        refine (KN.out _ O4.out).mono ?_
        rintro e w6 ⟨rfl, ho⟩
        have O6 := hid (O4.out.trans ho)
        clear ho
        go_wp2_with fail
        go_ret
        exact ⟨rfl, O6.out⟩
      · have j1 : (j : Int) < (l.length : Int) := by omega
        obtain ⟨g, rfl⟩ : ∃ g, gk = g + 1 := ⟨gk - 1, by omega⟩
        obtain ⟨s, hls⟩ : ∃ s, l[j]? = some s := ⟨l[j]'(by omega), List.getElem?_eq_getElem _⟩
        obtain ⟨ad, rfl, hx⟩ := HA.out j s hls
        have sb : (s.size : Int) ≤ 9223372036854775807 := by have := HU.out j s hls; unfold maxLen at this; omega
        have LS := hid hls
        clear hj hg hls
        by_cases h2 : 300 < s.size
        · have h2' : (300 : Int) < (s.size : Int) := by omega
          clear h2
          go_wp2_with fail
          refine (KN.out _ (Only.refl _ _)).mono ?_
          rintro e w1 ⟨rfl, ho⟩
          have O := hid ho
          clear ho
          go_wp2_with fail
          go_ret
          exact ⟨rfl, O.out⟩
        · have h2' : ¬ (300 : Int) < (s.size : Int) := by omega
          have S2 : ∀ (i : Nat) (u : ByteArray), i < j + 1 → l[i]? = some u → u.size ≤ 300 := fun i u hi hu => by
            by_cases e : i = j
            · subst e
              rw [LS.out] at hu
              cases hu
              omega
            · exact S.out i u (by omega) hu
          have S2 := hid S2
          clear h2
          go_wp2_with fail
          go_roundg g
          case measure => omega
          case rel => exact ⟨j + 1, by have := J.out; omega, by go_num, S2.out, rfl⟩
open Go.ChangeShapes Go.WideShapes Go.ChangeAt
theorem annexbJoins_core {H : Type} {enc : TypeId × Value → H} (W : World) (hM : MaxL W) (base : Nat)
    (v0 : Value) (d0 : DataW H) (p0 : List MemPlace) (k0 : Value.okWide Try.prog W .any base 23 v0) (h0 : DataW.Trod enc Try.prog W 0 (fun _ => true) true 23 v0 d0 p0)
    (v1 : Value) (d1 : DataW H) (p1 : List MemPlace) (k1 : Value.okWide Try.prog W .any base 5 v1) (h1 : DataW.Trod enc Try.prog W 0 (fun _ => true) true 5 v1 d1 p1)
    (v2 : Value) (d2 : DataW H) (p2 : List MemPlace) (k2 : Value.okWide Try.prog W .any base 4 v2) (h2 : DataW.Trod enc Try.prog W 0 (fun _ => true) true 4 v2 d2 p2) :
    Calls Try.prog 4 #[v0, v1, v2] W fun e w' => e = .returned (.bool true) ∧ Below W.heap.size W w' := by
  obtain ⟨l, hh, hl, hu⟩ := open_strsl k0 h0
  obtain ⟨n, rfl, rfl, rfl, w1⟩ := open_int Try.underlying5 k1 h1
  obtain ⟨b, rfl, rfl, rfl⟩ := open_bool Try.underlying4 k2 h2
  have w1' : 0 ≤ n ∧ n ≤ 255 := by
    have h := (Lit.wf_int_iff .u8 n).1 w1
    have a : IntKind.u8.min = 0 := rfl
    have b : IntKind.u8.max = 255 := by decide
    omega
  exact (joins_walk v0 l n b W hM hh hl hu w1'.1 w1'.2).mono fun e w' ⟨he, ho⟩ => ⟨he, ho.below (Nat.le_refl _) (by simp)⟩
end Go.Proofs.Ytfigmjlnjaihnaa

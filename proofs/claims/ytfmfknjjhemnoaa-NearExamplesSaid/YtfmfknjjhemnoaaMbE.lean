/- The kit's EqualVecs and EqualBlocks; slices of vectors, slices of slices. -/
import Derived.Test.YtfmfknjjhemnoaaMbV
import Derived.Test.YtfmfknjjhemnoaaEqI
import Derived.Test.YtfmfknjjhemnoaaQheld
import Derived.Laws.StructEq
import Derived.Deep.LoopGhost
import Derived.Deep.DeepCutAuto
import Derived.Deep.CutBlock
namespace Go.Proofs.Ytfmfknjjhemnoaa
open Go.RowKit
set_option linter.unusedVariables false
set_option linter.unusedSimpArgs false

def vcC (x : Int × Int) : List Value := [.int .i64 x.1, .int .i64 x.2]
theorem vcC_ok : CellsN vcC 2 := ⟨fun _ => rfl, fun x u h => by simp [vcC] at h; rcases h with h | h <;> (subst h; rfl), by omega⟩
/-- Where a slice lies. -/
abbrev SlV := Option Addr × Nat × Nat
def SlV.sl (x : SlV) : Value := .slice x.1 x.2.1 x.2.2
def slC (x : SlV) : List Value := [x.sl]
theorem slC_ok : CellsN slC 1 := ⟨fun _ => rfl, fun x u h => by simp [slC] at h; subst h; rfl, by omega⟩
/-- A slice of slices of numbers. -/
def HoldsB (w : World) (sv : Value) (l : List (List Int)) : Prop := ∃ vs : List SlV, HoldsG slC 1 w sv vs ∧ vs.length = l.length ∧ ∀ (j : Nat) (v : SlV) (x : List Int), vs[j]? = some v → l[j]? = some x → HoldsI .i64 w v.sl x
theorem HoldsB.only0 {w w' : World} {sv : Value} {l : List (List Int)} (h : HoldsB w sv l) (k : Only [] w w') : HoldsB w' sv l := by
  obtain ⟨vs, a, b, c⟩ := h
  exact ⟨vs, a.only0 k, b, fun j v x hv hx => (c j v x hv hx).only0 k⟩
theorem holdsB_none (w : World) : HoldsB w (.slice none 0 0) [] := ⟨[], holdsG_none w, rfl, fun j v x hv => by simp at hv⟩
theorem take_oneG {α : Type} (l : List α) (j : Nat) (h : j < l.length) : ∃ x, l[j]? = some x ∧ l.take (j + 1) = l.take j ++ [x] := ⟨l[j], List.getElem?_eq_getElem h, List.take_succ_eq_append_getElem h⟩
theorem neq_vec (x y : Int × Int) (w : World) : (binOp .neq 71 (.agg #[.int .i64 x.1, .int .i64 x.2]) (.agg #[.int .i64 y.1, .int .i64 y.2])).run Try.prog w = .ok (.bool (!decide (x = y))) w := by
  obtain ⟨a, b⟩ := x
  obtain ⟨d, e⟩ := y
  go_simp
  by_cases h1 : a = d <;> by_cases h2 : b = e <;> simp [h1, h2]
set_option maxHeartbeats 2000000 in
theorem eqv_any (a b : Value) (ss ts : List (Int × Int)) (w : World) (ha : HoldsG vcC 2 w a ss) (hb : HoldsG vcC 2 w b ts) (h1 : ss.length ≤ 1000000) (h2 : ts.length ≤ 1000000) :
    Calls Try.prog 40 #[a, b] w fun e w' => e = .returned (.bool (decide (ss = ts))) ∧ Only [] w w' := by
  have HA := hid ha
  have HB := hid hb
  obtain ⟨a, c, rfl, _⟩ := ha
  obtain ⟨b, d, rfl, _⟩ := hb
  by_cases hl : ss.length = ts.length
  · have TL := hid hl
    obtain ⟨n, hn⟩ : ∃ n, n = ss.length := ⟨_, rfl⟩
    have N1 := hid hn
    have N2 := hid (hn.trans hl)
    rw [← hl, ← hn]
    rw [← hn] at h1
    clear hl h2 hn
    obtain ⟨r, hr⟩ : ∃ r, r = decide (ss = ts) := ⟨_, rfl⟩
    rw [← hr]
    have R := hid hr
    clear hr
    have nb : (n : Int) ≤ 1000000 := by omega
    go_enter Try.func40, Try.ntmps40
    go_wp2_with fail
    go_loopg [5] n (fun g t wr => ∃ j : Nat, j + g = n ∧ t = .int .i64 j ∧ ss.take j = ts.take j ∧ Only [] w wr)
    case atStart => exact ⟨0, by omega, rfl, rfl, Only.refl _ _⟩
    case round =>
      obtain ⟨j, hj, rfl, ht, hO⟩ := hrel
      have J := hid hj
      have T := hid ht
      have O := hid hO
      clear ht hO
      have jb : (j : Int) ≤ 1000000 := by omega
      have j0 : (0 : Int) ≤ (j : Int) := by omega
      by_cases hg : gk = 0
      · obtain rfl : j = n := by omega
        have i1 : ¬ (j : Int) < (j : Int) := by omega
        have E := R.out
        have e := T.out
        rw [List.take_of_length_le (by have := N1.out; omega), List.take_of_length_le (by have := N2.out; omega)] at e
        rw [decide_eq_true e] at E
        subst E
        clear hj hg e
        go_wp2_with fail
        go_ret
        exact ⟨rfl, O.out⟩
      · have i1 : (j : Int) < (n : Int) := by omega
        obtain ⟨g, rfl⟩ : ∃ g, gk = g + 1 := ⟨gk - 1, by omega⟩
        have l1 : j < ss.length := by have := N1.out; omega
        have l2 : j < ts.length := by have := N2.out; omega
        obtain ⟨x, X, T1⟩ := take_oneG ss j l1
        obtain ⟨y, Y, T2⟩ := take_oneG ts j l2
        obtain ⟨xb, xo, rfl, hx⟩ := HA.out.at X
        obtain ⟨yb, yo, rfl, hy⟩ := HB.out.at Y
        have x0 := O.out.cell (hx 0 (.int .i64 x.1) rfl) (by simp)
        have x1 := O.out.cell (hx 1 (.int .i64 x.2) rfl) (by simp)
        have y0 := O.out.cell (hy 0 (.int .i64 y.1) rfl) (by simp)
        have y1 := O.out.cell (hy 1 (.int .i64 y.2) rfl) (by simp)
        rw [Nat.add_zero] at x0 y0
        have EQ := neq_vec x y
        have X := hid X
        have Y := hid Y
        have T1 := hid T1
        have T2 := hid T2
        clear hj hg l1 l2 hx hy
        by_cases e : x = y
        · rw [decide_eq_true e] at EQ
          have EE := hid e
          clear e
          go_wp2_with fail
          go_quiet (fail)
          go_wp2_with fail
          go_roundg g
          case measure => omega
          case rel => exact ⟨j + 1, by have := J.out; omega, by go_num, by rw [T1.out, T2.out, T.out, EE.out], O.out.drewN _⟩
        · rw [decide_eq_false e] at EQ
          have NE : decide (ss = ts) = false := by
            rw [decide_eq_false_iff_not]
            intro h
            subst h
            exact e (Option.some.inj (X.out.symm.trans Y.out))
          have E := R.out
          rw [NE] at E
          subst E
          clear e NE
          go_wp2_with fail
          go_quiet (fail)
          go_wp2_with fail
          go_ret
          exact ⟨rfl, O.out.drewN _⟩
  · have hne : ((ss.length : Int) == (ts.length : Int)) = false := by rw [beq_eq_false_iff_ne]; omega
    have hne2 : ((ss.length : Int) != (ts.length : Int)) = true := by rw [bne_iff_ne]; omega
    rw [decide_eq_false (fun e => hl (by rw [e]))]
    clear hl
    go_enter Try.func40, Try.ntmps40
    go_wp2_with fail
    go_ret
    exact ⟨rfl, Only.refl _ _⟩
set_option maxHeartbeats 2000000 in
theorem eqb_any (a b : Value) (ss ts : List (List Int)) (w : World) (ha : HoldsB w a ss) (hb : HoldsB w b ts) (h1 : ss.length ≤ 1000000) (h2 : ts.length ≤ 1000000) (k1 : ∀ l, l ∈ ss → l.length ≤ 1000000) (k2 : ∀ l, l ∈ ts → l.length ≤ 1000000) :
    Calls Try.prog 41 #[a, b] w fun e w' => e = .returned (.bool (decide (ss = ts))) ∧ Only [] w w' := by
  have K1 := hid k1
  have K2 := hid k2
  obtain ⟨us, ha, hau⟩ := ha
  obtain ⟨vs, hb, hbv⟩ := hb
  have HA := hid ha
  have HB := hid hb
  have UA := hid hau
  have VB := hid hbv
  obtain ⟨a, c, rfl, _⟩ := ha
  obtain ⟨b, d, rfl, _⟩ := hb
  rw [hau.1] at HA ⊢
  rw [hbv.1] at HB ⊢
  clear hau hbv k1 k2
  by_cases hl : ss.length = ts.length
  · have TL := hid hl
    obtain ⟨n, hn⟩ : ∃ n, n = ss.length := ⟨_, rfl⟩
    have N1 := hid hn
    have N2 := hid (hn.trans hl)
    rw [← hl, ← hn]
    rw [← hn] at h1
    clear hl h2 hn
    obtain ⟨r, hr⟩ : ∃ r, r = decide (ss = ts) := ⟨_, rfl⟩
    rw [← hr]
    have R := hid hr
    clear hr
    have nb : (n : Int) ≤ 1000000 := by omega
    go_enter Try.func41, Try.ntmps41
    go_wp2_with fail
    go_loopg [5] n (fun g t wr => ∃ j : Nat, j + g = n ∧ t = .int .i64 j ∧ ss.take j = ts.take j ∧ Only [] w wr)
    case atStart => exact ⟨0, by omega, rfl, rfl, Only.refl _ _⟩
    case round =>
      obtain ⟨j, hj, rfl, ht, hO⟩ := hrel
      have J := hid hj
      have T := hid ht
      have O := hid hO
      clear ht hO
      have jb : (j : Int) ≤ 1000000 := by omega
      have j0 : (0 : Int) ≤ (j : Int) := by omega
      by_cases hg : gk = 0
      · obtain rfl : j = n := by omega
        have i1 : ¬ (j : Int) < (j : Int) := by omega
        have E := R.out
        have e := T.out
        rw [List.take_of_length_le (by have := N1.out; omega), List.take_of_length_le (by have := N2.out; omega)] at e
        rw [decide_eq_true e] at E
        subst E
        clear hj hg e
        go_wp2_with fail
        go_ret
        exact ⟨rfl, O.out⟩
      · have i1 : (j : Int) < (n : Int) := by omega
        obtain ⟨g, rfl⟩ : ∃ g, gk = g + 1 := ⟨gk - 1, by omega⟩
        have l1 : j < ss.length := by have := N1.out; omega
        have l2 : j < ts.length := by have := N2.out; omega
        obtain ⟨x, X, T1⟩ := take_oneG ss j l1
        obtain ⟨y, Y, T2⟩ := take_oneG ts j l2
        obtain ⟨u, hu⟩ : ∃ u, us[j]? = some u := ⟨_, List.getElem?_eq_getElem (by rw [UA.out.1]; exact l1)⟩
        obtain ⟨v, hv⟩ : ∃ v, vs[j]? = some v := ⟨_, List.getElem?_eq_getElem (by rw [VB.out.1]; exact l2)⟩
        have HU := hid (UA.out.2 j u x hu X)
        have HVV := hid (VB.out.2 j v y hv Y)
        obtain ⟨xb, xo, rfl, hx⟩ := HA.out.at hu
        obtain ⟨yb, yo, rfl, hy⟩ := HB.out.at hv
        have hx0 := hx 0 u.sl rfl
        have hy0 := hy 0 v.sl rfl
        rw [Nat.add_zero, Nat.mul_one] at hx0 hy0
        have x0 := hid (fun w' (o : Only [] wr w') => (O.out.trans o).cell hx0 (by simp))
        have y0 := hid (fun w' (o : Only [] wr w') => (O.out.trans o).cell hy0 (by simp))
        clear hx0 hy0
        have LX := K1.out x (List.mem_of_getElem? X)
        have LY := K2.out y (List.mem_of_getElem? Y)
        have EQI := hid (fun w' (o : Only [] wr w') => eqi_any u.sl v.sl x y w' (HU.out.only0 (O.out.trans o)) (HVV.out.only0 (O.out.trans o)) LX LY)
        clear hu hv LX LY
        have X := hid X
        have Y := hid Y
        have T1 := hid T1
        have T2 := hid T2
        clear hj hg l1 l2 hx hy
        obtain ⟨eq, heq⟩ : ∃ b, b = decide (x = y) := ⟨_, rfl⟩
        rw [← heq] at EQI
        have HE := hid heq
        clear heq
        go_upto_region 6 with fail
        refine wp_region_heldH (fun w' => Only [] wr w') 10 (by kernel_rfl) rfl (Only.refl [] wr).drew (fun hS => ?_)
        generalize wr.drew = wd at *
        refine wpAnyH_read 0 (v := ?va0) rfl (by kernel_rfl) (by kernel_rfl) (by kernel_rfl) (fun _ _ _ h => h) hS (Or.inl ⟨by rfl, ?ya0⟩) ?ra0
        case ya0 =>
          intro w' hSw
          skip
          go_simp
          (try with_reducible rfl)
        (try simp only [Act.put, List.setIfInBounds_toArray, List.set_cons_zero, List.set_cons_succ])
        refine wpAnyH_read 1 (v := ?va1) rfl (by kernel_rfl) (by kernel_rfl) (by kernel_rfl) (fun _ _ _ h => h) hS (Or.inl ⟨by rfl, ?ya1⟩) ?ra1
        case ya1 =>
          intro w' hSw
          skip
          go_simp
          (try with_reducible rfl)
        (try simp only [Act.put, List.setIfInBounds_toArray, List.set_cons_zero, List.set_cons_succ])
        refine wpAnyH_read 2 (v := ?va2) rfl (by kernel_rfl) (by kernel_rfl) (by kernel_rfl) (fun _ _ _ h => h) hS (Or.inl ⟨by rfl, ?ya2⟩) ?ra2
        case ya2 =>
          intro w' hSw
          skip
          go_simp
          (try with_reducible rfl)
        (try simp only [Act.put, List.setIfInBounds_toArray, List.set_cons_zero, List.set_cons_succ])
        refine wpAnyH_read 3 (v := ?va3) rfl (by kernel_rfl) (by kernel_rfl) (by kernel_rfl) (fun _ _ _ h => h) hS (Or.inl ⟨by rfl, ?ya3⟩) ?ra3
        case ya3 =>
          intro w' hSw
          have hc := x0.out w' hSw
          go_simp
          (try with_reducible rfl)
        (try simp only [Act.put, List.setIfInBounds_toArray, List.set_cons_zero, List.set_cons_succ])
        refine wpAnyH_read 4 (v := ?va4) rfl (by kernel_rfl) (by kernel_rfl) (by kernel_rfl) (fun _ _ _ h => h) hS (Or.inl ⟨by rfl, ?ya4⟩) ?ra4
        case ya4 =>
          intro w' hSw
          skip
          go_simp
          (try with_reducible rfl)
        (try simp only [Act.put, List.setIfInBounds_toArray, List.set_cons_zero, List.set_cons_succ])
        refine wpAnyH_read 5 (v := ?va5) rfl (by kernel_rfl) (by kernel_rfl) (by kernel_rfl) (fun _ _ _ h => h) hS (Or.inl ⟨by rfl, ?ya5⟩) ?ra5
        case ya5 =>
          intro w' hSw
          skip
          go_simp
          (try with_reducible rfl)
        (try simp only [Act.put, List.setIfInBounds_toArray, List.set_cons_zero, List.set_cons_succ])
        refine wpAnyH_read 6 (v := ?va6) rfl (by kernel_rfl) (by kernel_rfl) (by kernel_rfl) (fun _ _ _ h => h) hS (Or.inl ⟨by rfl, ?ya6⟩) ?ra6
        case ya6 =>
          intro w' hSw
          skip
          go_simp
          (try with_reducible rfl)
        (try simp only [Act.put, List.setIfInBounds_toArray, List.set_cons_zero, List.set_cons_succ])
        refine wpAnyH_read 7 (v := ?va7) rfl (by kernel_rfl) (by kernel_rfl) (by kernel_rfl) (fun _ _ _ h => h) hS (Or.inl ⟨by rfl, ?ya7⟩) ?ra7
        case ya7 =>
          intro w' hSw
          have hc := y0.out w' hSw
          go_simp
          (try with_reducible rfl)
        (try simp only [Act.put, List.setIfInBounds_toArray, List.set_cons_zero, List.set_cons_succ])
        refine wpAnyH_call 8 rfl (by kernel_rfl) (fun J hJ => ?_)
        rw [if_pos (by rfl)]
        go_simp
        refine (EQI.out _ hS).mono ?_
        rintro e u1 ⟨rfl, p_⟩
        have s1 := hS.trans p_
        clear p_
        refine hJ.out _ _ s1 ?_
        clear hJ J
        (try simp only [Act.put, List.setIfInBounds_toArray, List.set_cons_zero, List.set_cons_succ])
        refine wpAnyH_read 9 (v := ?va9) rfl (by kernel_rfl) (by kernel_rfl) (by kernel_rfl) (fun _ _ _ h => h) s1 (Or.inl ⟨by rfl, ?ya9⟩) ?ra9
        case ya9 =>
          intro w' hSw
          skip
          go_simp
          (try with_reducible rfl)
        (try simp only [Act.put, List.setIfInBounds_toArray, List.set_cons_zero, List.set_cons_succ])
        refine wpAnyH_done (by kernel_rfl) ?_ _
        by_cases e : x = y
        · have heq := HE.out
          rw [decide_eq_true e] at heq
          clear HE
          have EE := hid e
          subst heq
          clear e
          go_wp2_with fail
          go_roundg g
          case measure => omega
          case rel => exact ⟨j + 1, by have := J.out; omega, by go_num, by rw [T1.out, T2.out, T.out, EE.out], O.out.trans s1⟩
        · have heq := HE.out
          rw [decide_eq_false e] at heq
          clear HE
          subst heq
          have NE : decide (ss = ts) = false := by
            rw [decide_eq_false_iff_not]
            intro h
            subst h
            exact e (Option.some.inj (X.out.symm.trans Y.out))
          have E := R.out
          rw [NE] at E
          subst E
          clear e NE
          go_wp2_with fail
          go_ret
          exact ⟨rfl, O.out.trans s1⟩
  · have hne : ((ss.length : Int) == (ts.length : Int)) = false := by rw [beq_eq_false_iff_ne]; omega
    have hne2 : ((ss.length : Int) != (ts.length : Int)) = true := by rw [bne_iff_ne]; omega
    rw [decide_eq_false (fun e => hl (by rw [e]))]
    clear hl
    go_enter Try.func41, Try.ntmps41
    go_wp2_with fail
    go_ret
    exact ⟨rfl, Only.refl _ _⟩
end Go.Proofs.Ytfmfknjjhemnoaa

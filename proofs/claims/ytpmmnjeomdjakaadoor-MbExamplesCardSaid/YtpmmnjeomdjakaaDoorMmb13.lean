/- The program's small functions: Intra, Parts, Pieces of kinds; hasCbp, hasQp, Size, checkPcm of mb. -/
/- The program's within, checkFixed, checkList. -/
import Derived.Test.YtpmmnjeomdjakaaDoorMqV
import Derived.Test.YtpmmnjeomdjakaaDoorMmb8
import Derived.Test.YtpmmnjeomdjakaaDoorMmb6
import Derived.Deep.LoopGhost
import Derived.Test.YtpmmnjeomdjakaaDoorEqI
section
set_option maxRecDepth 20000
namespace Go.Proofs.YtpmmnjeomdjakaaDoor
open Go.RowKit
set_option linter.unusedVariables false
set_option linter.unusedSimpArgs false

theorem pintra_any (k : Int) (w : World) : Calls Tryd.prog 19 #[.int .u8 k] w fun e w' => e = .returned (.bool (intraI k)) ∧ w' = w := by
  unfold intraI
  by_cases h0 : k = 0
  · subst h0
    go_enter Tryd.func19, Tryd.ntmps19
    go_wp2_with fail
    go_ret
    exact ⟨rfl, rfl⟩
  · by_cases h1 : k = 1
    · subst h1
      go_enter Tryd.func19, Tryd.ntmps19
      go_wp2_with fail
      go_ret
      exact ⟨rfl, rfl⟩
    · by_cases h2 : k = 2
      · subst h2
        go_enter Tryd.func19, Tryd.ntmps19
        go_wp2_with fail
        go_ret
        exact ⟨rfl, rfl⟩
      · rw [decide_eq_false (by omega)]
        have b0 : (k == 0) = false := by simpa using h0
        have b1 : (k == 1) = false := by simpa using h1
        have b2 : (k == 2) = false := by simpa using h2
        clear h0 h1 h2
        go_enter Tryd.func19, Tryd.ntmps19
        go_wp2_with fail
        go_ret
        exact ⟨rfl, rfl⟩
theorem pparts_any (k : Int) (w : World) (hV : MbV w) (k0 : 0 ≤ k) (k1 : k ≤ 255) : Calls Tryd.prog 31 #[.int .u8 k] w fun e w' => e = .returned (.int .i64 (partsI k)) ∧ w' = w := by
  by_cases h : k = 3 ∨ k = 4 ∨ k = 5 ∨ k = 6
  · obtain ⟨a0, c0, e0⟩ := hV.d 0 (by omega)
    obtain ⟨a1, c1, e1⟩ := hV.d 1 (by omega)
    obtain ⟨a2, c2, e2⟩ := hV.d 2 (by omega)
    obtain ⟨a3, c3, e3⟩ := hV.d 3 (by omega)
    dsimp only [divN] at e0 e1 e2 e3
    clear hV k0 k1
    rcases h with rfl | rfl | rfl | rfl
    all_goals
      go_enter Tryd.func31, Tryd.ntmps31
      go_wp2_with fail
      go_ret
      exact ⟨rfl, rfl⟩
  · rw [show partsI k = 0 from by unfold partsI; rw [if_neg (by omega), if_neg (by omega), if_neg (by omega)]]
    clear hV
    by_cases h3 : k < 3
    · have d : decide (k < 3) = true := decide_eq_true h3
      go_enter Tryd.func31, Tryd.ntmps31
      go_wp2_with fail
      go_ret
      exact ⟨rfl, rfl⟩
    · have d : decide (k < 3) = false := decide_eq_false h3
      have d2 : decide (6 < k) = true := decide_eq_true (by omega)
      go_enter Tryd.func31, Tryd.ntmps31
      go_wp2_with fail
      go_ret
      exact ⟨rfl, rfl⟩
theorem psize_any (c : Int) (w : World) (hV : MbV w) (c0 : 0 ≤ c) (c1 : c ≤ 255) : Calls Tryd.prog 24 #[.int .u8 c] w fun e w' => e = .returned (.tuple #[.int .i64 (sizeI c).1, .int .i64 (sizeI c).2]) ∧ w' = w := by
  by_cases h : c = 0 ∨ c = 1 ∨ c = 2 ∨ c = 3 ∨ c = 4
  · have e0 := hV.s 0 (by omega)
    have e1 := hV.s 1 (by omega)
    have e2 := hV.s 2 (by omega)
    have e3 := hV.s 3 (by omega)
    have e4 := hV.s 4 (by omega)
    dsimp only [szL, List.getD_cons_zero, List.getD_cons_succ] at e0 e1 e2 e3 e4
    clear hV c0 c1
    rcases h with rfl | rfl | rfl | rfl | rfl
    all_goals
      go_enter Tryd.func24, Tryd.ntmps24
      go_wp2_with fail
      go_ret2
      exact ⟨rfl, rfl⟩
  · rw [show sizeI c = (0, 3) from by unfold sizeI; rw [if_neg (by omega), if_neg (by omega), if_neg (by omega), if_neg (by omega), if_neg (by omega)]]
    have d : decide (5 ≤ c) = true := decide_eq_true (by omega)
    clear hV h
    go_enter Tryd.func24, Tryd.ntmps24
    go_wp2_with fail
    go_ret2
    exact ⟨rfl, rfl⟩
set_option maxRecDepth 100000 in
theorem phascbp_any (x : MV) (rv vv bv : Value) (w : World) : Calls Tryd.prog 61 #[mV x rv vv bv] w fun e w' => e = .returned (.bool (codedI x.kind)) ∧ Only [] w w' := by
  obtain ⟨W1, hW⟩ : ∃ W, W = w.alloc (.cells (mC x rv vv bv).toArray 28) := ⟨_, rfl⟩
  have BX := hid (show Blk W1 w.heap.size 28 (mC x rv vv bv).toArray from hW ▸ Blk.new w _ _)
  have oW := hid (show Only [] w W1 from hW ▸ ((Only.refl [] w).alloc _))
  obtain ⟨Z, hZ⟩ : ∃ Z, Z = w.heap.size := ⟨_, rfl⟩
  rw [← hZ] at BX
  have c0 := BX.out.cell (i := 0) (v := .int .u8 x.kind) rfl
  have HW := hid hW
  have HZ := hid hZ
  clear hW hZ
  generalize x.kind = k at c0 ⊢
  have K : codedI k = (decide (k ≤ 6) && !(k == 2)) := by
    unfold codedI
    by_cases h : k = 2
    · subst h; rfl
    · have : (k == 2) = false := by simpa using h
      rw [this]
      simp only [Bool.not_false, Bool.and_true]
      by_cases h6 : k ≤ 6
      · rw [decide_eq_true h6]
        by_cases h1 : k ≤ 1
        · rw [decide_eq_true h1]; rfl
        · rw [decide_eq_false h1, decide_eq_true (by omega : 3 ≤ k)]; rfl
      · rw [decide_eq_false h6, decide_eq_false (by omega : ¬ k ≤ 1)]; simp
  rw [K]
  clear K
  unfold mV
  by_cases h6 : k ≤ 6
  · have d6 : decide (k ≤ 6) = true := decide_eq_true h6
    rw [d6]
    clear h6
    go_enter Tryd.func61, Tryd.ntmps61
    go_wp2_with (refine wp_box rfl 28 (.tmp 0) rfl (mC x rv vv bv).toArray rfl HW.out HZ.out ?_; simp only [Act.put, List.setIfInBounds_toArray, List.set_cons_zero, List.set_cons_succ])
    go_ret
    exact ⟨rfl, oW.out⟩
  · have d6 : decide (k ≤ 6) = false := decide_eq_false h6
    rw [d6, Bool.false_and]
    clear h6
    go_enter Tryd.func61, Tryd.ntmps61
    go_wp2_with (refine wp_box rfl 28 (.tmp 0) rfl (mC x rv vv bv).toArray rfl HW.out HZ.out ?_; simp only [Act.put, List.setIfInBounds_toArray, List.set_cons_zero, List.set_cons_succ])
    go_ret
    exact ⟨rfl, oW.out⟩
end Go.Proofs.YtpmmnjeomdjakaaDoor

end
section
set_option maxRecDepth 20000
namespace Go.Proofs.YtpmmnjeomdjakaaDoor
open Go.RowKit
set_option linter.unusedVariables false
set_option linter.unusedSimpArgs false

def allI (l : List Int) (lo hi : Int) : Bool := l.all (fun n => inI n lo hi)
theorem allI_snoc (l : List Int) (x lo hi : Int) : allI (l ++ [x]) lo hi = (allI l lo hi && inI x lo hi) := by simp [allI]
theorem allI_no {l : List Int} {j : Nat} {x lo hi : Int} (h : l[j]? = some x) (hx : inI x lo hi = false) : allI l lo hi = false := by
  unfold allI
  rw [List.all_eq_false]
  exact ⟨x, List.mem_of_getElem? h, by rw [hx]; decide⟩
/-- checkFixed, checkList. -/
def fixE (b : Bool) (l : List Int) (lo hi : Int) : Int := if b = true then (if allI l lo hi = true then 0 else 3) else (if allI l 0 0 = true then 0 else 2)
def listE (l : List Int) (n lo hi : Int) : Int := if (l.length : Int) = n then (if allI l lo hi = true then 0 else 3) else 2
set_option maxHeartbeats 1000000 in
theorem pwithinU_any (a : Value) (l : List Int) (lo hi : Int) (w : World) (ha : HoldsI .u8 w a l) (h1 : l.length ≤ 1000000) :
    Calls Tryd.prog 64 #[a, .int .u8 lo, .int .u8 hi] w fun e w' => e = .returned (.bool (allI l lo hi)) ∧ w' = w := by
  have HA := hid ha
  obtain ⟨a, c, rfl, _⟩ := ha
  obtain ⟨n, hn⟩ : ∃ n, n = l.length := ⟨_, rfl⟩
  have N1 := hid hn
  rw [← hn]
  rw [← hn] at h1
  clear hn
  have nb : (n : Int) ≤ 1000000 := by omega
  obtain ⟨r, hr⟩ : ∃ r, r = allI l lo hi := ⟨_, rfl⟩
  rw [← hr]
  have R := hid hr
  clear hr
  go_enter Tryd.func64, Tryd.ntmps64
  go_wp2_with fail
  go_loopg [11] n (fun g t wr => ∃ j : Nat, j + g = n ∧ t = .int .i64 j ∧ allI (l.take j) lo hi = true ∧ wr = w)
  case atStart => exact ⟨0, by omega, rfl, rfl, rfl⟩
  case round =>
    obtain ⟨j, hj, rfl, ht, rfl⟩ := hrel
    have J := hid hj
    have T := hid ht
    clear ht
    have jb : (j : Int) ≤ 1000000 := by omega
    have j0 : (0 : Int) ≤ (j : Int) := by omega
    by_cases hg : gk = 0
    · obtain rfl : j = n := by omega
      have i1 : ¬ (j : Int) < (j : Int) := by omega
      have E := R.out
      have e := T.out
      rw [List.take_of_length_le (by have := N1.out; omega)] at e
      rw [e] at E
      subst E
      clear hj hg e
      go_wp2_with fail
      go_ret
      exact ⟨rfl, rfl⟩
    · have i1 : (j : Int) < (n : Int) := by omega
      obtain ⟨g, rfl⟩ : ∃ g, gk = g + 1 := ⟨gk - 1, by omega⟩
      have l1 : j < l.length := by have := N1.out; omega
      obtain ⟨x, X, T1⟩ := take_oneI l j l1
      obtain ⟨xb, xo, rfl, hx⟩ := HA.out.at X
      have X := hid X
      have T1 := hid T1
      clear hj hg l1
      by_cases e1 : x < lo
      · have NE : allI l lo hi = false := allI_no X.out (by unfold inI; rw [decide_eq_false (by omega)]; rfl)
        have E := R.out
        rw [NE] at E
        subst E
        have d1 : decide (x < lo) = true := decide_eq_true e1
        clear NE e1
        go_wp2_with fail
        go_ret
        exact ⟨rfl, rfl⟩
      · have d1 : decide (x < lo) = false := decide_eq_false e1
        by_cases e2 : hi < x
        · have NE : allI l lo hi = false := allI_no X.out (by unfold inI; rw [decide_eq_false (by omega : ¬ x ≤ hi), Bool.and_false])
          have E := R.out
          rw [NE] at E
          subst E
          have d2 : decide (hi < x) = true := decide_eq_true e2
          clear NE e1 e2
          go_wp2_with fail
          go_ret
          exact ⟨rfl, rfl⟩
        · have d2 : decide (hi < x) = false := decide_eq_false e2
          have YES := hid (show inI x lo hi = true from by unfold inI; rw [decide_eq_true (by omega), decide_eq_true (by omega)]; rfl)
          clear e1 e2
          go_wp2_with fail
          go_roundg g
          case measure => omega
          case rel => exact ⟨j + 1, by have := J.out; omega, by go_num, by rw [T1.out, allI_snoc, T.out, YES.out]; rfl, rfl⟩
set_option maxHeartbeats 1000000 in
theorem pwithinI_any (a : Value) (l : List Int) (lo hi : Int) (w : World) (ha : HoldsI .i64 w a l) (h1 : l.length ≤ 1000000) :
    Calls Tryd.prog 65 #[a, .int .i64 lo, .int .i64 hi] w fun e w' => e = .returned (.bool (allI l lo hi)) ∧ w' = w := by
  have HA := hid ha
  obtain ⟨a, c, rfl, _⟩ := ha
  obtain ⟨n, hn⟩ : ∃ n, n = l.length := ⟨_, rfl⟩
  have N1 := hid hn
  rw [← hn]
  rw [← hn] at h1
  clear hn
  have nb : (n : Int) ≤ 1000000 := by omega
  obtain ⟨r, hr⟩ : ∃ r, r = allI l lo hi := ⟨_, rfl⟩
  rw [← hr]
  have R := hid hr
  clear hr
  go_enter Tryd.func65, Tryd.ntmps65
  go_wp2_with fail
  go_loopg [11] n (fun g t wr => ∃ j : Nat, j + g = n ∧ t = .int .i64 j ∧ allI (l.take j) lo hi = true ∧ wr = w)
  case atStart => exact ⟨0, by omega, rfl, rfl, rfl⟩
  case round =>
    obtain ⟨j, hj, rfl, ht, rfl⟩ := hrel
    have J := hid hj
    have T := hid ht
    clear ht
    have jb : (j : Int) ≤ 1000000 := by omega
    have j0 : (0 : Int) ≤ (j : Int) := by omega
    by_cases hg : gk = 0
    · obtain rfl : j = n := by omega
      have i1 : ¬ (j : Int) < (j : Int) := by omega
      have E := R.out
      have e := T.out
      rw [List.take_of_length_le (by have := N1.out; omega)] at e
      rw [e] at E
      subst E
      clear hj hg e
      go_wp2_with fail
      go_ret
      exact ⟨rfl, rfl⟩
    · have i1 : (j : Int) < (n : Int) := by omega
      obtain ⟨g, rfl⟩ : ∃ g, gk = g + 1 := ⟨gk - 1, by omega⟩
      have l1 : j < l.length := by have := N1.out; omega
      obtain ⟨x, X, T1⟩ := take_oneI l j l1
      obtain ⟨xb, xo, rfl, hx⟩ := HA.out.at X
      have X := hid X
      have T1 := hid T1
      clear hj hg l1
      by_cases e1 : x < lo
      · have NE : allI l lo hi = false := allI_no X.out (by unfold inI; rw [decide_eq_false (by omega)]; rfl)
        have E := R.out
        rw [NE] at E
        subst E
        have d1 : decide (x < lo) = true := decide_eq_true e1
        clear NE e1
        go_wp2_with fail
        go_ret
        exact ⟨rfl, rfl⟩
      · have d1 : decide (x < lo) = false := decide_eq_false e1
        by_cases e2 : hi < x
        · have NE : allI l lo hi = false := allI_no X.out (by unfold inI; rw [decide_eq_false (by omega : ¬ x ≤ hi), Bool.and_false])
          have E := R.out
          rw [NE] at E
          subst E
          have d2 : decide (hi < x) = true := decide_eq_true e2
          clear NE e1 e2
          go_wp2_with fail
          go_ret
          exact ⟨rfl, rfl⟩
        · have d2 : decide (hi < x) = false := decide_eq_false e2
          have YES := hid (show inI x lo hi = true from by unfold inI; rw [decide_eq_true (by omega), decide_eq_true (by omega)]; rfl)
          clear e1 e2
          go_wp2_with fail
          go_roundg g
          case measure => omega
          case rel => exact ⟨j + 1, by have := J.out; omega, by go_num, by rw [T1.out, allI_snoc, T.out, YES.out]; rfl, rfl⟩
theorem pfixedU_any (b : Bool) (a : Value) (l : List Int) (lo hi : Int) (w : World) (ha : HoldsI .u8 w a l) (h1 : l.length ≤ 1000000) :
    Calls Tryd.prog 29 #[.bool b, a, .int .u8 lo, .int .u8 hi] w fun e w' => e = .returned (.int .i64 (fixE b l lo hi)) ∧ w' = w := by
  have C0 := hid (pwithinU_any a l 0 0 w ha h1)
  have C1 := hid (pwithinU_any a l lo hi w ha h1)
  unfold fixE
  clear ha h1
  cases b
  · simp only [Bool.false_eq_true, if_false]
    generalize allI l 0 0 = r at C0 ⊢
    clear C1
    cases r
    all_goals
      go_enter Tryd.func29, Tryd.ntmps29
      go_wp2_with fail
      refine C0.out.mono ?_
      rintro e w2 ⟨rfl, rfl⟩
      go_wp2_with fail
      go_ret
      exact ⟨rfl, rfl⟩
  · simp only [if_true]
    generalize allI l lo hi = r at C1 ⊢
    clear C0
    cases r
    all_goals
      go_enter Tryd.func29, Tryd.ntmps29
      go_wp2_with fail
      refine C1.out.mono ?_
      rintro e w2 ⟨rfl, rfl⟩
      go_wp2_with fail
      go_ret
      exact ⟨rfl, rfl⟩
theorem pfixedI_any (b : Bool) (a : Value) (l : List Int) (lo hi : Int) (w : World) (ha : HoldsI .i64 w a l) (h1 : l.length ≤ 1000000) :
    Calls Tryd.prog 34 #[.bool b, a, .int .i64 lo, .int .i64 hi] w fun e w' => e = .returned (.int .i64 (fixE b l lo hi)) ∧ w' = w := by
  have C0 := hid (pwithinI_any a l 0 0 w ha h1)
  have C1 := hid (pwithinI_any a l lo hi w ha h1)
  unfold fixE
  clear ha h1
  cases b
  · simp only [Bool.false_eq_true, if_false]
    generalize allI l 0 0 = r at C0 ⊢
    clear C1
    cases r
    all_goals
      go_enter Tryd.func34, Tryd.ntmps34
      go_wp2_with fail
      refine C0.out.mono ?_
      rintro e w2 ⟨rfl, rfl⟩
      go_wp2_with fail
      go_ret
      exact ⟨rfl, rfl⟩
  · simp only [if_true]
    generalize allI l lo hi = r at C1 ⊢
    clear C0
    cases r
    all_goals
      go_enter Tryd.func34, Tryd.ntmps34
      go_wp2_with fail
      refine C1.out.mono ?_
      rintro e w2 ⟨rfl, rfl⟩
      go_wp2_with fail
      go_ret
      exact ⟨rfl, rfl⟩
theorem plist_any (a : Value) (l : List Int) (n lo hi : Int) (w : World) (ha : HoldsI .i64 w a l) (h1 : l.length ≤ 1000000) :
    Calls Tryd.prog 30 #[a, .int .i64 n, .int .i64 lo, .int .i64 hi] w fun e w' => e = .returned (.int .i64 (listE l n lo hi)) ∧ w' = w := by
  have C1 := hid (pwithinI_any a l lo hi w ha h1)
  obtain ⟨a, c, rfl, _⟩ := ha
  unfold listE
  by_cases hl : (l.length : Int) = n
  · rw [if_pos hl]
    subst hl
    generalize allI l lo hi = r at C1 ⊢
    cases r
    all_goals
      go_enter Tryd.func30, Tryd.ntmps30
      go_wp2_with fail
      refine C1.out.mono ?_
      rintro e w2 ⟨rfl, rfl⟩
      go_wp2_with fail
      go_ret
      exact ⟨rfl, rfl⟩
  · rw [if_neg hl]
    have ne : ((l.length : Int) == n) = false := by simpa using hl
    have ne2 : ((l.length : Int) != n) = true := by simpa using hl
    clear hl C1
    go_enter Tryd.func30, Tryd.ntmps30
    go_wp2_with fail
    go_ret
    exact ⟨rfl, rfl⟩
end Go.Proofs.YtpmmnjeomdjakaaDoor

end

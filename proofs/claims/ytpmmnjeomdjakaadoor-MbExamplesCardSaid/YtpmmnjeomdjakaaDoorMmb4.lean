/- The kit's EqualVecs and EqualBlocks; slices of vectors, slices of slices. -/
/- The kit's EqualMb. -/
/- The kit's EqualMb: the walk. -/
/- Operations that are no more wanted are skipped by reckoning. -/
/- slices.Equal of two types, slices.EqualFunc. -/
import Derived.Test.YtpmmnjeomdjakaaDoorMmb2
import Derived.Test.YtpmmnjeomdjakaaDoorEqI
import Derived.Test.YtpmmnjeomdjakaaDoorQheld
import Derived.Laws.StructEq
import Derived.Deep.LoopGhost
import Derived.Deep.DeepCutAuto
import Derived.Deep.CutBlock
import Derived.ChangeKeysEq
section
set_option maxRecDepth 20000
namespace Go.Proofs.YtpmmnjeomdjakaaDoor
open Go.RowKit
set_option linter.unusedVariables false
set_option linter.unusedSimpArgs false

def vcC (x : Int × Int) : List Value := [.int .i64 x.1, .int .i64 x.2]
theorem vcC_ok : CellsN vcC 2 := ⟨fun _ => rfl, fun x u h => by simp [vcC] at h; rcases h with h | h <;> (subst h; rfl), by omega⟩
/-- Where a slice lies. -/
abbrev SlV := Option Addr × Nat × Nat
def SlV.sl (x : SlV) : Value := .slice x.1 x.2.1 x.2.2
def slC (x : SlV) : List Value := [x.sl]
theorem slC_ok : CellsN slC 1 := ⟨fun _ => rfl, fun x u h => by simp [slC] at h; subst h; rfl, by omega⟩
/-- A slice of slices of numbers. -/
def HoldsB (w : World) (sv : Value) (l : List (List Int)) : Prop := ∃ vs : List SlV, HoldsG slC 1 w sv vs ∧ vs.length = l.length ∧ ∀ (j : Nat) (v : SlV) (x : List Int), vs[j]? = some v → l[j]? = some x → HoldsI .i64 w v.sl x
theorem HoldsB.only0 {w w' : World} {sv : Value} {l : List (List Int)} (h : HoldsB w sv l) (k : Only [] w w') : HoldsB w' sv l := by
  obtain ⟨vs, a, b, c⟩ := h
  exact ⟨vs, a.only0 k, b, fun j v x hv hx => (c j v x hv hx).only0 k⟩
theorem holdsB_none (w : World) : HoldsB w (.slice none 0 0) [] := ⟨[], holdsG_none w, rfl, fun j v x hv => by simp at hv⟩
theorem take_oneG {α : Type} (l : List α) (j : Nat) (h : j < l.length) : ∃ x, l[j]? = some x ∧ l.take (j + 1) = l.take j ++ [x] := ⟨l[j], List.getElem?_eq_getElem h, List.take_succ_eq_append_getElem h⟩
theorem neq_vec (x y : Int × Int) (w : World) : (binOp .neq 36 (.agg #[.int .i64 x.1, .int .i64 x.2]) (.agg #[.int .i64 y.1, .int .i64 y.2])).run Tryd.prog w = .ok (.bool (!decide (x = y))) w := by
  obtain ⟨a, b⟩ := x
  obtain ⟨d, e⟩ := y
  go_simp
  by_cases h1 : a = d <;> by_cases h2 : b = e <;> simp [h1, h2]
set_option maxHeartbeats 2000000 in
theorem eqv_any (a b : Value) (ss ts : List (Int × Int)) (w : World) (ha : HoldsG vcC 2 w a ss) (hb : HoldsG vcC 2 w b ts) (h1 : ss.length ≤ 1000000) (h2 : ts.length ≤ 1000000) :
    Calls Tryd.prog 44 #[a, b] w fun e w' => e = .returned (.bool (decide (ss = ts))) ∧ Only [] w w' := by
  have HA := hid ha
  have HB := hid hb
  obtain ⟨a, c, rfl, _⟩ := ha
  obtain ⟨b, d, rfl, _⟩ := hb
  by_cases hl : ss.length = ts.length
  · have TL := hid hl
    obtain ⟨n, hn⟩ : ∃ n, n = ss.length := ⟨_, rfl⟩
    have N1 := hid hn
    have N2 := hid (hn.trans hl)
    rw [← hl, ← hn]
    rw [← hn] at h1
    clear hl h2 hn
    obtain ⟨r, hr⟩ : ∃ r, r = decide (ss = ts) := ⟨_, rfl⟩
    rw [← hr]
    have R := hid hr
    clear hr
    have nb : (n : Int) ≤ 1000000 := by omega
    go_enter Tryd.func44, Tryd.ntmps44
    go_wp2_with fail
    go_loopg [5] n (fun g t wr => ∃ j : Nat, j + g = n ∧ t = .int .i64 j ∧ ss.take j = ts.take j ∧ Only [] w wr)
    case atStart => exact ⟨0, by omega, rfl, rfl, Only.refl _ _⟩
    case round =>
      obtain ⟨j, hj, rfl, ht, hO⟩ := hrel
      have J := hid hj
      have T := hid ht
      have O := hid hO
      clear ht hO
      have jb : (j : Int) ≤ 1000000 := by omega
      have j0 : (0 : Int) ≤ (j : Int) := by omega
      by_cases hg : gk = 0
      · obtain rfl : j = n := by omega
        have i1 : ¬ (j : Int) < (j : Int) := by omega
        have E := R.out
        have e := T.out
        rw [List.take_of_length_le (by have := N1.out; omega), List.take_of_length_le (by have := N2.out; omega)] at e
        rw [decide_eq_true e] at E
        subst E
        clear hj hg e
        go_wp2_with fail
        go_ret
        exact ⟨rfl, O.out⟩
      · have i1 : (j : Int) < (n : Int) := by omega
        obtain ⟨g, rfl⟩ : ∃ g, gk = g + 1 := ⟨gk - 1, by omega⟩
        have l1 : j < ss.length := by have := N1.out; omega
        have l2 : j < ts.length := by have := N2.out; omega
        obtain ⟨x, X, T1⟩ := take_oneG ss j l1
        obtain ⟨y, Y, T2⟩ := take_oneG ts j l2
        obtain ⟨xb, xo, rfl, hx⟩ := HA.out.at X
        obtain ⟨yb, yo, rfl, hy⟩ := HB.out.at Y
        have x0 := O.out.cell (hx 0 (.int .i64 x.1) rfl) (by simp)
        have x1 := O.out.cell (hx 1 (.int .i64 x.2) rfl) (by simp)
        have y0 := O.out.cell (hy 0 (.int .i64 y.1) rfl) (by simp)
        have y1 := O.out.cell (hy 1 (.int .i64 y.2) rfl) (by simp)
        rw [Nat.add_zero] at x0 y0
        have EQ := neq_vec x y
        have X := hid X
        have Y := hid Y
        have T1 := hid T1
        have T2 := hid T2
        clear hj hg l1 l2 hx hy
        by_cases e : x = y
        · rw [decide_eq_true e] at EQ
          have EE := hid e
          clear e
          go_wp2_with fail
          go_quiet (fail)
          go_wp2_with fail
          go_roundg g
          case measure => omega
          case rel => exact ⟨j + 1, by have := J.out; omega, by go_num, by rw [T1.out, T2.out, T.out, EE.out], O.out.drewN _⟩
        · rw [decide_eq_false e] at EQ
          have NE : decide (ss = ts) = false := by
            rw [decide_eq_false_iff_not]
            intro h
            subst h
            exact e (Option.some.inj (X.out.symm.trans Y.out))
          have E := R.out
          rw [NE] at E
          subst E
          clear e NE
          go_wp2_with fail
          go_quiet (fail)
          go_wp2_with fail
          go_ret
          exact ⟨rfl, O.out.drewN _⟩
  · have hne : ((ss.length : Int) == (ts.length : Int)) = false := by rw [beq_eq_false_iff_ne]; omega
    have hne2 : ((ss.length : Int) != (ts.length : Int)) = true := by rw [bne_iff_ne]; omega
    rw [decide_eq_false (fun e => hl (by rw [e]))]
    clear hl
    go_enter Tryd.func44, Tryd.ntmps44
    go_wp2_with fail
    go_ret
    exact ⟨rfl, Only.refl _ _⟩
set_option maxHeartbeats 2000000 in
theorem eqb_any (a b : Value) (ss ts : List (List Int)) (w : World) (ha : HoldsB w a ss) (hb : HoldsB w b ts) (h1 : ss.length ≤ 1000000) (h2 : ts.length ≤ 1000000) (k1 : ∀ l, l ∈ ss → l.length ≤ 1000000) (k2 : ∀ l, l ∈ ts → l.length ≤ 1000000) :
    Calls Tryd.prog 45 #[a, b] w fun e w' => e = .returned (.bool (decide (ss = ts))) ∧ Only [] w w' := by
  have K1 := hid k1
  have K2 := hid k2
  obtain ⟨us, ha, hau⟩ := ha
  obtain ⟨vs, hb, hbv⟩ := hb
  have HA := hid ha
  have HB := hid hb
  have UA := hid hau
  have VB := hid hbv
  obtain ⟨a, c, rfl, _⟩ := ha
  obtain ⟨b, d, rfl, _⟩ := hb
  rw [hau.1] at HA ⊢
  rw [hbv.1] at HB ⊢
  clear hau hbv k1 k2
  by_cases hl : ss.length = ts.length
  · have TL := hid hl
    obtain ⟨n, hn⟩ : ∃ n, n = ss.length := ⟨_, rfl⟩
    have N1 := hid hn
    have N2 := hid (hn.trans hl)
    rw [← hl, ← hn]
    rw [← hn] at h1
    clear hl h2 hn
    obtain ⟨r, hr⟩ : ∃ r, r = decide (ss = ts) := ⟨_, rfl⟩
    rw [← hr]
    have R := hid hr
    clear hr
    have nb : (n : Int) ≤ 1000000 := by omega
    go_enter Tryd.func45, Tryd.ntmps45
    go_wp2_with fail
    go_loopg [5] n (fun g t wr => ∃ j : Nat, j + g = n ∧ t = .int .i64 j ∧ ss.take j = ts.take j ∧ Only [] w wr)
    case atStart => exact ⟨0, by omega, rfl, rfl, Only.refl _ _⟩
    case round =>
      obtain ⟨j, hj, rfl, ht, hO⟩ := hrel
      have J := hid hj
      have T := hid ht
      have O := hid hO
      clear ht hO
      have jb : (j : Int) ≤ 1000000 := by omega
      have j0 : (0 : Int) ≤ (j : Int) := by omega
      by_cases hg : gk = 0
      · obtain rfl : j = n := by omega
        have i1 : ¬ (j : Int) < (j : Int) := by omega
        have E := R.out
        have e := T.out
        rw [List.take_of_length_le (by have := N1.out; omega), List.take_of_length_le (by have := N2.out; omega)] at e
        rw [decide_eq_true e] at E
        subst E
        clear hj hg e
        go_wp2_with fail
        go_ret
        exact ⟨rfl, O.out⟩
      · have i1 : (j : Int) < (n : Int) := by omega
        obtain ⟨g, rfl⟩ : ∃ g, gk = g + 1 := ⟨gk - 1, by omega⟩
        have l1 : j < ss.length := by have := N1.out; omega
        have l2 : j < ts.length := by have := N2.out; omega
        obtain ⟨x, X, T1⟩ := take_oneG ss j l1
        obtain ⟨y, Y, T2⟩ := take_oneG ts j l2
        obtain ⟨u, hu⟩ : ∃ u, us[j]? = some u := ⟨_, List.getElem?_eq_getElem (by rw [UA.out.1]; exact l1)⟩
        obtain ⟨v, hv⟩ : ∃ v, vs[j]? = some v := ⟨_, List.getElem?_eq_getElem (by rw [VB.out.1]; exact l2)⟩
        have HU := hid (UA.out.2 j u x hu X)
        have HVV := hid (VB.out.2 j v y hv Y)
        obtain ⟨xb, xo, rfl, hx⟩ := HA.out.at hu
        obtain ⟨yb, yo, rfl, hy⟩ := HB.out.at hv
        have hx0 := hx 0 u.sl rfl
        have hy0 := hy 0 v.sl rfl
        rw [Nat.add_zero, Nat.mul_one] at hx0 hy0
        have x0 := hid (fun w' (o : Only [] wr w') => (O.out.trans o).cell hx0 (by simp))
        have y0 := hid (fun w' (o : Only [] wr w') => (O.out.trans o).cell hy0 (by simp))
        clear hx0 hy0
        have LX := K1.out x (List.mem_of_getElem? X)
        have LY := K2.out y (List.mem_of_getElem? Y)
        have EQI := hid (fun w' (o : Only [] wr w') => eqi_any u.sl v.sl x y w' (HU.out.only0 (O.out.trans o)) (HVV.out.only0 (O.out.trans o)) LX LY)
        clear hu hv LX LY
        have X := hid X
        have Y := hid Y
        have T1 := hid T1
        have T2 := hid T2
        clear hj hg l1 l2 hx hy
        obtain ⟨eq, heq⟩ : ∃ b, b = decide (x = y) := ⟨_, rfl⟩
        rw [← heq] at EQI
        have HE := hid heq
        clear heq
        go_upto_region 6 with fail
        refine wp_region_heldH (fun w' => Only [] wr w') 10 (by kernel_rfl) rfl (Only.refl [] wr).drew (fun hS => ?_)
        generalize wr.drew = wd at *
        refine wpAnyH_read 0 (v := ?va0) rfl (by kernel_rfl) (by kernel_rfl) (by kernel_rfl) (fun _ _ _ h => h) hS (Or.inl ⟨by rfl, ?ya0⟩) ?ra0
        case ya0 =>
          intro w' hSw
          skip
          go_simp
          (try with_reducible rfl)
        (try simp only [Act.put, List.setIfInBounds_toArray, List.set_cons_zero, List.set_cons_succ])
        refine wpAnyH_read 1 (v := ?va1) rfl (by kernel_rfl) (by kernel_rfl) (by kernel_rfl) (fun _ _ _ h => h) hS (Or.inl ⟨by rfl, ?ya1⟩) ?ra1
        case ya1 =>
          intro w' hSw
          skip
          go_simp
          (try with_reducible rfl)
        (try simp only [Act.put, List.setIfInBounds_toArray, List.set_cons_zero, List.set_cons_succ])
        refine wpAnyH_read 2 (v := ?va2) rfl (by kernel_rfl) (by kernel_rfl) (by kernel_rfl) (fun _ _ _ h => h) hS (Or.inl ⟨by rfl, ?ya2⟩) ?ra2
        case ya2 =>
          intro w' hSw
          skip
          go_simp
          (try with_reducible rfl)
        (try simp only [Act.put, List.setIfInBounds_toArray, List.set_cons_zero, List.set_cons_succ])
        refine wpAnyH_read 3 (v := ?va3) rfl (by kernel_rfl) (by kernel_rfl) (by kernel_rfl) (fun _ _ _ h => h) hS (Or.inl ⟨by rfl, ?ya3⟩) ?ra3
        case ya3 =>
          intro w' hSw
          have hc := x0.out w' hSw
          go_simp
          (try with_reducible rfl)
        (try simp only [Act.put, List.setIfInBounds_toArray, List.set_cons_zero, List.set_cons_succ])
        refine wpAnyH_read 4 (v := ?va4) rfl (by kernel_rfl) (by kernel_rfl) (by kernel_rfl) (fun _ _ _ h => h) hS (Or.inl ⟨by rfl, ?ya4⟩) ?ra4
        case ya4 =>
          intro w' hSw
          skip
          go_simp
          (try with_reducible rfl)
        (try simp only [Act.put, List.setIfInBounds_toArray, List.set_cons_zero, List.set_cons_succ])
        refine wpAnyH_read 5 (v := ?va5) rfl (by kernel_rfl) (by kernel_rfl) (by kernel_rfl) (fun _ _ _ h => h) hS (Or.inl ⟨by rfl, ?ya5⟩) ?ra5
        case ya5 =>
          intro w' hSw
          skip
          go_simp
          (try with_reducible rfl)
        (try simp only [Act.put, List.setIfInBounds_toArray, List.set_cons_zero, List.set_cons_succ])
        refine wpAnyH_read 6 (v := ?va6) rfl (by kernel_rfl) (by kernel_rfl) (by kernel_rfl) (fun _ _ _ h => h) hS (Or.inl ⟨by rfl, ?ya6⟩) ?ra6
        case ya6 =>
          intro w' hSw
          skip
          go_simp
          (try with_reducible rfl)
        (try simp only [Act.put, List.setIfInBounds_toArray, List.set_cons_zero, List.set_cons_succ])
        refine wpAnyH_read 7 (v := ?va7) rfl (by kernel_rfl) (by kernel_rfl) (by kernel_rfl) (fun _ _ _ h => h) hS (Or.inl ⟨by rfl, ?ya7⟩) ?ra7
        case ya7 =>
          intro w' hSw
          have hc := y0.out w' hSw
          go_simp
          (try with_reducible rfl)
        (try simp only [Act.put, List.setIfInBounds_toArray, List.set_cons_zero, List.set_cons_succ])
        refine wpAnyH_call 8 rfl (by kernel_rfl) (fun J hJ => ?_)
        rw [if_pos (by rfl)]
        go_simp
        refine (EQI.out _ hS).mono ?_
        rintro e u1 ⟨rfl, p_⟩
        have s1 := hS.trans p_
        clear p_
        refine hJ.out _ _ s1 ?_
        clear hJ J
        (try simp only [Act.put, List.setIfInBounds_toArray, List.set_cons_zero, List.set_cons_succ])
        refine wpAnyH_read 9 (v := ?va9) rfl (by kernel_rfl) (by kernel_rfl) (by kernel_rfl) (fun _ _ _ h => h) s1 (Or.inl ⟨by rfl, ?ya9⟩) ?ra9
        case ya9 =>
          intro w' hSw
          skip
          go_simp
          (try with_reducible rfl)
        (try simp only [Act.put, List.setIfInBounds_toArray, List.set_cons_zero, List.set_cons_succ])
        refine wpAnyH_done (by kernel_rfl) ?_ _
        by_cases e : x = y
        · have heq := HE.out
          rw [decide_eq_true e] at heq
          clear HE
          have EE := hid e
          subst heq
          clear e
          go_wp2_with fail
          go_roundg g
          case measure => omega
          case rel => exact ⟨j + 1, by have := J.out; omega, by go_num, by rw [T1.out, T2.out, T.out, EE.out], O.out.trans s1⟩
        · have heq := HE.out
          rw [decide_eq_false e] at heq
          clear HE
          subst heq
          have NE : decide (ss = ts) = false := by
            rw [decide_eq_false_iff_not]
            intro h
            subst h
            exact e (Option.some.inj (X.out.symm.trans Y.out))
          have E := R.out
          rw [NE] at E
          subst E
          clear e NE
          go_wp2_with fail
          go_ret
          exact ⟨rfl, O.out.trans s1⟩
  · have hne : ((ss.length : Int) == (ts.length : Int)) = false := by rw [beq_eq_false_iff_ne]; omega
    have hne2 : ((ss.length : Int) != (ts.length : Int)) = true := by rw [bne_iff_ne]; omega
    rw [decide_eq_false (fun e => hl (by rw [e]))]
    clear hl
    go_enter Tryd.func45, Tryd.ntmps45
    go_wp2_with fail
    go_ret
    exact ⟨rfl, Only.refl _ _⟩
end Go.Proofs.YtpmmnjeomdjakaaDoor

end
section
set_option maxRecDepth 20000
namespace Go.Proofs.YtpmmnjeomdjakaaDoor
open Go.RowKit
set_option linter.unusedVariables false
set_option linter.unusedSimpArgs false

/-- A struct that comes in is boxed. -/
theorem wp_box {P : Program} {w W' : World} {ops : Array Oper} {rest : List Oper} {o : Oper} {a : Act} {Q : Exit → Act → World → Prop} {k : Nat} (hg : o.guard = none) (t : TypeId) (x : Operand) (ho : o.op = .box t x) (cs : Array Value)
    (hx : a.eval x = .agg cs) (hW : W' = w.alloc (.cells cs t)) (hk : k = w.heap.size) (h : wpList P ops Q rest (a.put o.dst (.pointer (some ⟨k, 0, none⟩))) W') : wpList P ops Q (o :: rest) a w := by
  subst hW hk
  refine wpList_plain hg fun K hK => ?_
  unfold Oper.wp execOp
  simp only [ho, hx]
  have hc : (Value.agg cs).cells = cs := by simp [Value.cells]
  simp [Result.andThen, hc]
  exact hK _ _ h
/-- One cell is loaded, where a guard lets it. -/
theorem wp_load_cell {P : Program} {w : World} {ops : Array Oper} {rest : List Oper} {o : Oper} {a : Act} {Q : Exit → Act → World → Prop} (hg : Region.wanted o (yielded ops a.tmps) = true) (t : TypeId) (x : Operand) (ho : o.op = .load t x) (p : Addr) (v : Value)
    (hx : a.eval x = .pointer (some p)) (hl : (Instr.loadAt t (.pointer (some p))).run P w = .ok v w)
    (h : wpList P ops Q rest (a.put o.dst v) w) : wpList P ops Q (o :: rest) a w := by
  refine wpList_step fun K hK => ?_
  rw [if_pos hg]
  unfold Oper.wp execOp
  simp only [ho, hx]
  simp [hl, Result.andThen]
  exact hK _ _ (by simpa using h)
/-- Two values are compared, by what the comparison answers. -/
theorem wp_bin_eq {P : Program} {w : World} {ops : Array Oper} {rest : List Oper} {o : Oper} {a : Act} {Q : Exit → Act → World → Prop} (hg : Region.wanted o (yielded ops a.tmps) = true) (b : BinOp) (s : TypeId) (x y : Operand) (t : TypeId) (ho : o.op = .binOp b s x y t) (u v z : Value)
    (hx : a.eval x = u) (hy : a.eval y = v) (hq : (eqGuard b s x y u v).run P w = .ok () w) (hr : (binOp b s u v).run P w = .ok z w)
    (h : wpList P ops Q rest (a.put o.dst z) w) : wpList P ops Q (o :: rest) a w := by
  refine wpList_step fun K hK => ?_
  rw [if_pos hg]
  unfold Oper.wp execOp
  simp only [ho, hx, hy]
  simp [hq, hr, Result.andThen]
  exact hK _ _ h
theorem eqg_p16 (x y : Operand) (a b : Array Value) (w : World) : (eqGuard .eql 22 x y (.agg a) (.agg b)).run Tryd.prog w = .ok () w := by kernel_rfl
theorem eqg_s4 (x y : Operand) (a b : Array Value) (w : World) : (eqGuard .eql 23 x y (.agg a) (.agg b)).run Tryd.prog w = .ok () w := by kernel_rfl
theorem ho_p16 {w : World} {k off : Nat} {x : P16} (hc : ∀ j v, (prC x)[j]? = some v → w.cell? ⟨k, off + j, none⟩ = some v) : (Instr.loadAt 22 (.pointer (some ⟨k, off, none⟩))).run Tryd.prog w = .ok (.agg (prC x).toArray) w := by
  have hl := run_loadCells_list (P := Tryd.prog) w ⟨k, off, none⟩ (prC x) (fun j v hj => by rw [add_off]; exact hc j v hj)
  rw [show (prC x).length = 16 from rfl] at hl
  simp only [Instr.loadAt, Instr.sureAddr, Sem.run_bind, Sem.run_pure, Result.andThen_ok, loadVar]
  simp [hl]
theorem ho_s4 {w : World} {k off : Nat} {x : S4} (hc : ∀ j v, (sbC x)[j]? = some v → w.cell? ⟨k, off + j, none⟩ = some v) : (Instr.loadAt 23 (.pointer (some ⟨k, off, none⟩))).run Tryd.prog w = .ok (.agg (sbC x).toArray) w := by
  have hl := run_loadCells_list (P := Tryd.prog) w ⟨k, off, none⟩ (sbC x) (fun j v hj => by rw [add_off]; exact hc j v hj)
  rw [show (sbC x).length = 4 from rfl] at hl
  simp only [Instr.loadAt, Instr.sureAddr, Sem.run_bind, Sem.run_pure, Result.andThen_ok, loadVar]
  simp [hl]
theorem mC_pr (x : MV) (rv vv bv : Value) : ∀ j v, (prC x.pr)[j]? = some v → (mC x rv vv bv)[3 + j]? = some v := by
  intro j v h
  have hj : j < 16 := (List.getElem?_eq_some_iff.1 h).1
  obtain rfl | rfl | rfl | rfl | rfl | rfl | rfl | rfl | rfl | rfl | rfl | rfl | rfl | rfl | rfl | rfl : j = 0 ∨ j = 1 ∨ j = 2 ∨ j = 3 ∨ j = 4 ∨ j = 5 ∨ j = 6 ∨ j = 7 ∨ j = 8 ∨ j = 9 ∨ j = 10 ∨ j = 11 ∨ j = 12 ∨ j = 13 ∨ j = 14 ∨ j = 15 := by omega
  all_goals exact h
theorem mC_sb (x : MV) (rv vv bv : Value) : ∀ j v, (sbC x.sb)[j]? = some v → (mC x rv vv bv)[19 + j]? = some v := by
  intro j v h
  have hj : j < 4 := (List.getElem?_eq_some_iff.1 h).1
  obtain rfl | rfl | rfl | rfl : j = 0 ∨ j = 1 ∨ j = 2 ∨ j = 3 := by omega
  all_goals exact h
theorem Blk.pr {w : World} {k : Nat} {T : TypeId} {x : MV} {rv vv bv : Value} (h : Blk w k T (mC x rv vv bv).toArray) : (Instr.loadAt 22 (.pointer (some ⟨k, 3, none⟩))).run Tryd.prog w = .ok (.agg (prC x.pr).toArray) w :=
  ho_p16 (fun j v hj => h.cell (by simpa using mC_pr x rv vv bv j v hj))
theorem Blk.sb {w : World} {k : Nat} {T : TypeId} {x : MV} {rv vv bv : Value} (h : Blk w k T (mC x rv vv bv).toArray) : (Instr.loadAt 23 (.pointer (some ⟨k, 19, none⟩))).run Tryd.prog w = .ok (.agg (sbC x.sb).toArray) w :=
  ho_s4 (fun j v hj => h.cell (by simpa using mC_sb x rv vv bv j v hj))
theorem eqItems_u8 (xs ys : Array Value) (f g : Nat → Int) (d : Nat) (w : World) : ∀ is : List Nat, (∀ i, i ∈ is → xs[i]? = some (.int .u8 (f i))) → (∀ i, i ∈ is → ys[i]? = some (.int .u8 (g i))) →
    (Op.eqItems (d + 1) 5 1 xs ys is).run Tryd.prog w = .ok (decide (∀ i, i ∈ is → f i = g i)) w := by
  have he : Tryd.prog.plainKey 5 = true := by kernel_rfl
  have hu : Tryd.prog.underlying 5 = some (.int .u8) := by kernel_rfl
  intro is
  induction is with
  | nil => intro _ _; simp [Op.eqItems]
  | cons i is ih =>
    intro hx hy
    have p1 := run_part_plain (P := Tryd.prog) w he (xs := xs) (off := i * 1) (by rw [Nat.mul_one]; exact hx i (by simp))
    have p2 := run_part_plain (P := Tryd.prog) w he (xs := ys) (off := i * 1) (by rw [Nat.mul_one]; exact hy i (by simp))
    have p3 := run_equalIn_int (P := Tryd.prog) w d 5 .u8 .u8 (f i) (g i) hu
    have ih' := ih (fun j hj => hx j (List.mem_cons_of_mem _ hj)) (fun j hj => hy j (List.mem_cons_of_mem _ hj))
    simp only [Op.eqItems, Sem.run_bind, p1, p2, p3, Result.andThen_ok]
    by_cases e : f i = g i
    · have e1 : (f i == g i) = true := by simpa using e
      rw [e1]
      simp only [Bool.not_true, Bool.false_eq_true, if_false]
      rw [ih']
      congr 1
      rw [decide_eq_decide]
      exact ⟨fun h j hj => (List.mem_cons.1 hj).elim (fun q => q ▸ e) (h j), fun h j hj => h j (List.mem_cons_of_mem _ hj)⟩
    · have e1 : (f i == g i) = false := by simpa using e
      rw [e1]
      simp only [Bool.not_false, if_true, Sem.run_pure]
      congr 1
      rw [eq_comm, decide_eq_false_iff_not]
      exact fun h => e (h i (by simp))
theorem cells_u8m : Tryd.prog.cellsOf 5 = 1 := by kernel_rfl
theorem und_p16 : Tryd.prog.underlying 22 = some (.array 16 5) := by kernel_rfl
theorem und_s4 : Tryd.prog.underlying 23 = some (.array 4 5) := by kernel_rfl
theorem info_u8m : ∃ i, Tryd.prog.info? 5 = some i := by
  have h : (Tryd.prog.info? 5).isSome = true := by kernel_rfl
  exact Option.isSome_iff_exists.1 h
theorem getC {l : List Int} (i : Nat) (h : i < l.length) : ((l.map (Value.int .u8)).toArray)[i]? = some (.int .u8 (l.getD i 0)) := by
  simp [List.getD_eq_getElem?_getD, List.getElem?_eq_getElem h]
theorem all_p16 (x y : P16) : (∀ i, i ∈ List.range 16 → x.l.getD i 0 = y.l.getD i 0) ↔ x = y := by
  constructor
  · intro h
    have k := fun i (hi : i < 16) => h i (List.mem_range.2 hi)
    exact P16.ext (k 0 (by omega)) (k 1 (by omega)) (k 2 (by omega)) (k 3 (by omega)) (k 4 (by omega)) (k 5 (by omega)) (k 6 (by omega)) (k 7 (by omega)) (k 8 (by omega)) (k 9 (by omega)) (k 10 (by omega)) (k 11 (by omega)) (k 12 (by omega)) (k 13 (by omega)) (k 14 (by omega)) (k 15 (by omega))
  · rintro rfl i _; rfl
theorem all_s4 (x y : S4) : (∀ i, i ∈ List.range 4 → x.l.getD i 0 = y.l.getD i 0) ↔ x = y := by
  constructor
  · intro h
    have k := fun i (hi : i < 4) => h i (List.mem_range.2 hi)
    exact S4.ext (k 0 (by omega)) (k 1 (by omega)) (k 2 (by omega)) (k 3 (by omega))
  · rintro rfl i _; rfl
theorem eql_p16 (x y : P16) (w : World) : (binOp .eql 22 (.agg (prC x).toArray) (.agg (prC y).toArray)).run Tryd.prog w = .ok (.bool (decide (x = y))) w := by
  obtain ⟨i0, hi0⟩ := info_u8m
  have h := run_equalIn_array (P := Tryd.prog) (w := w) 9999 (prC x).toArray (prC y).toArray und_p16 hi0
  rw [cells_u8m] at h
  replace h := h.trans (eqItems_u8 (prC x).toArray (prC y).toArray (fun i => x.l.getD i 0) (fun i => y.l.getD i 0) 9998 w (List.range 16) (fun i hi => getC (l := x.l) i (List.mem_range.1 hi)) (fun i hi => getC (l := y.l) i (List.mem_range.1 hi)))
  have e : decide (∀ i, i ∈ List.range 16 → x.l.getD i 0 = y.l.getD i 0) = decide (x = y) := by rw [decide_eq_decide]; exact all_p16 x y
  rw [e] at h
  have h' : (Op.equal 22 (.agg (prC x).toArray) (.agg (prC y).toArray)).run Tryd.prog w = .ok (decide (x = y)) w := h
  simp only [binOp, Sem.run_bind]
  go_simp
theorem eql_s4 (x y : S4) (w : World) : (binOp .eql 23 (.agg (sbC x).toArray) (.agg (sbC y).toArray)).run Tryd.prog w = .ok (.bool (decide (x = y))) w := by
  obtain ⟨i0, hi0⟩ := info_u8m
  have h := run_equalIn_array (P := Tryd.prog) (w := w) 9999 (sbC x).toArray (sbC y).toArray und_s4 hi0
  rw [cells_u8m] at h
  replace h := h.trans (eqItems_u8 (sbC x).toArray (sbC y).toArray (fun i => x.l.getD i 0) (fun i => y.l.getD i 0) 9998 w (List.range 4) (fun i hi => getC (l := x.l) i (List.mem_range.1 hi)) (fun i hi => getC (l := y.l) i (List.mem_range.1 hi)))
  have e : decide (∀ i, i ∈ List.range 4 → x.l.getD i 0 = y.l.getD i 0) = decide (x = y) := by rw [decide_eq_decide]; exact all_s4 x y
  rw [e] at h
  have h' : (Op.equal 23 (.agg (sbC x).toArray) (.agg (sbC y).toArray)).run Tryd.prog w = .ok (decide (x = y)) w := h
  simp only [binOp, Sem.run_bind]
  go_simp
end Go.Proofs.YtpmmnjeomdjakaaDoor

end
section
set_option maxRecDepth 20000
namespace Go.Proofs.YtpmmnjeomdjakaaDoor
open Go.RowKit
set_option linter.unusedVariables false
set_option linter.unusedSimpArgs false

/-- The lists of a macroblock, where they lie. -/
structure MAt (w : World) (x : MV) (rv vv bv : Value) : Prop where
  r : HoldsI .i64 w rv x.refs
  v : HoldsG vcC 2 w vv x.mvds
  b : HoldsB w bv x.blocks
theorem MAt.only0 {w w' : World} {x : MV} {rv vv bv : Value} (h : MAt w x rv vv bv) (k : Only [] w w') : MAt w' x rv vv bv := ⟨h.r.only0 k, h.v.only0 k, h.b.only0 k⟩
/-- Its lists are not too long for a walk. -/
structure MLen (x : MV) : Prop where
  r : x.refs.length ≤ 1000000
  v : x.mvds.length ≤ 1000000
  b : x.blocks.length ≤ 1000000
  i : ∀ l, l ∈ x.blocks → l.length ≤ 1000000
theorem one_load {w : World} {k i : Nat} {T t : TypeId} {A : Array Value} {v : Value} (h : Blk w k T A) (hi : A[i]? = some v) (hs : ∀ w : World, w.cell? ⟨k, i, none⟩ = some v → (Instr.loadAt t (.pointer (some ⟨k, i, none⟩))).run Tryd.prog w = .ok v w) : (Instr.loadAt t (.pointer (some ⟨k, i, none⟩))).run Tryd.prog w = .ok v w := hs w (h.cell hi)
theorem lc_u8 {w : World} {p : Addr} {v : Value} (h : w.cell? p = some v) : (Instr.loadAt 5 (.pointer (some p))).run Tryd.prog w = .ok v w := by
  go_simp
theorem lc_i64 {w : World} {p : Addr} {v : Value} (h : w.cell? p = some v) : (Instr.loadAt 3 (.pointer (some p))).run Tryd.prog w = .ok v w := by
  go_simp
theorem lc_is {w : World} {p : Addr} {v : Value} (h : w.cell? p = some v) : (Instr.loadAt 24 (.pointer (some p))).run Tryd.prog w = .ok v w := by
  go_simp
theorem lc_vs {w : World} {p : Addr} {v : Value} (h : w.cell? p = some v) : (Instr.loadAt 25 (.pointer (some p))).run Tryd.prog w = .ok v w := by
  go_simp
theorem lc_bs {w : World} {p : Addr} {v : Value} (h : w.cell? p = some v) : (Instr.loadAt 26 (.pointer (some p))).run Tryd.prog w = .ok v w := by
  go_simp
theorem lc_st {w : World} {p : Addr} {v : Value} (h : w.cell? p = some v) : (Instr.loadAt 9 (.pointer (some p))).run Tryd.prog w = .ok v w := by
  go_simp
set_option maxRecDepth 100000 in
set_option maxHeartbeats 8000000 in
theorem eqmb_same (x : MV) (ra va ba rb vb bb : Value) (w : World) (hx : MAt w x ra va ba) (hy : MAt w x rb vb bb) (lx : MLen x) :
    Calls Tryd.prog 13 #[mV x ra va ba, mV x rb vb bb] w fun e w' => e = .returned (.bool true) ∧ Only [] w w' := by
  obtain ⟨W1, hW1⟩ : ∃ W, W = w.alloc (.cells (mC x ra va ba).toArray 28) := ⟨_, rfl⟩
  obtain ⟨W2, hW2⟩ : ∃ W, W = W1.alloc (.cells (mC x rb vb bb).toArray 28) := ⟨_, rfl⟩
  obtain ⟨X, hX⟩ : ∃ X, X = w.heap.size := ⟨_, rfl⟩
  have hX1 : X + 1 = W1.heap.size := by rw [hW1, hX]; exact (World.size_alloc _ _).symm
  have o1 : Only [] w W1 := hW1 ▸ ((Only.refl [] w).alloc _)
  have o2 : Only [] W1 W2 := hW2 ▸ ((Only.refl [] W1).alloc _)
  have BA : Blk W2 X 28 (mC x ra va ba).toArray := by
    have := Blk.new w 28 (mC x ra va ba).toArray
    rw [← hW1, ← hX] at this
    exact this.only o2 (by simp)
  have BB : Blk W2 (X + 1) 28 (mC x rb vb bb).toArray := by
    have := Blk.new W1 28 (mC x rb vb bb).toArray
    rwa [← hW2, ← hX1] at this
  have EI := hid (fun w' (o : Only [] W2 w') => by have := eqi_any ra rb x.refs x.refs w' (hx.r.only0 ((o1.trans o2).trans o)) (hy.r.only0 ((o1.trans o2).trans o)) lx.r lx.r; rw [decide_eq_true rfl] at this; exact this)
  have EV := hid (fun w' (o : Only [] W2 w') => by have := eqv_any va vb x.mvds x.mvds w' (hx.v.only0 ((o1.trans o2).trans o)) (hy.v.only0 ((o1.trans o2).trans o)) lx.v lx.v; rw [decide_eq_true rfl] at this; exact this)
  have EB := hid (fun w' (o : Only [] W2 w') => by have := eqb_any ba bb x.blocks x.blocks w' (hx.b.only0 ((o1.trans o2).trans o)) (hy.b.only0 ((o1.trans o2).trans o)) lx.b lx.b lx.i lx.i; rw [decide_eq_true rfl] at this; exact this)
  have BA' := hid BA
  have BB' := hid BB
  clear BA BB
  have HW1 := hid hW1
  have HW2 := hid hW2
  have HX := hid hX
  have HX1 := hid hX1
  have OW := hid (o1.trans o2)
  have E16 := eql_p16 x.pr x.pr W2
  have E4 := eql_s4 x.sb x.sb W2
  rw [decide_eq_true rfl] at E16 E4
  have SE : (x.pcm.toList == x.pcm.toList) = true := beq_self_eq_true _
  clear hX hX1 hW1 hW2 o1 o2 hx hy lx
  unfold mV
  go_enter Tryd.func13, Tryd.ntmps13
  go_upto_region 1 with (first
    | (refine wp_box rfl 28 (.tmp 0) rfl (mC x ra va ba).toArray rfl HW1.out HX.out ?_; simp only [Act.put, List.setIfInBounds_toArray, List.set_cons_zero, List.set_cons_succ])
    | (refine wp_box rfl 28 (.tmp 1) rfl (mC x rb vb bb).toArray rfl HW2.out HX1.out ?_; simp only [Act.put, List.setIfInBounds_toArray, List.set_cons_zero, List.set_cons_succ]))
  simp only [List.append_eq, List.cons_append, List.nil_append]
  have E16' := hid E16
  have E4' := hid E4
  clear E16 E4
  go_wp2_with (first
    | (refine wp_bin_eq (by kernel_rfl) .eql 22 (.tmp 26) (.tmp 28) _ rfl _ _ _ rfl rfl (eqg_p16 _ _ _ _ _) E16'.out ?_; simp only [Act.put, List.setIfInBounds_toArray, List.set_cons_zero, List.set_cons_succ])
    | (refine wp_bin_eq (by kernel_rfl) .eql 23 (.tmp 33) (.tmp 35) _ rfl _ _ _ rfl rfl (eqg_s4 _ _ _ _ _) E4'.out ?_; simp only [Act.put, List.setIfInBounds_toArray, List.set_cons_zero, List.set_cons_succ])
    | (refine wp_load_cell (by kernel_rfl) 5 (.tmp 5) rfl ⟨X, 0, none⟩ (.int .u8 x.kind) rfl (lc_u8 (BA'.out.cell (i := 0) rfl)) ?_; simp only [Act.put, List.setIfInBounds_toArray, List.set_cons_zero, List.set_cons_succ])
    | (refine wp_load_cell (by kernel_rfl) 5 (.tmp 7) rfl ⟨X + 1, 0, none⟩ (.int .u8 x.kind) rfl (lc_u8 (BB'.out.cell (i := 0) rfl)) ?_; simp only [Act.put, List.setIfInBounds_toArray, List.set_cons_zero, List.set_cons_succ])
    | (refine wp_load_cell (by kernel_rfl) 5 (.tmp 11) rfl ⟨X, 1, none⟩ (.int .u8 x.mode) rfl (lc_u8 (BA'.out.cell (i := 1) rfl)) ?_; simp only [Act.put, List.setIfInBounds_toArray, List.set_cons_zero, List.set_cons_succ])
    | (refine wp_load_cell (by kernel_rfl) 5 (.tmp 13) rfl ⟨X + 1, 1, none⟩ (.int .u8 x.mode) rfl (lc_u8 (BB'.out.cell (i := 1) rfl)) ?_; simp only [Act.put, List.setIfInBounds_toArray, List.set_cons_zero, List.set_cons_succ])
    | (refine wp_load_cell (by kernel_rfl) 5 (.tmp 18) rfl ⟨X, 2, none⟩ (.int .u8 x.chroma) rfl (lc_u8 (BA'.out.cell (i := 2) rfl)) ?_; simp only [Act.put, List.setIfInBounds_toArray, List.set_cons_zero, List.set_cons_succ])
    | (refine wp_load_cell (by kernel_rfl) 5 (.tmp 20) rfl ⟨X + 1, 2, none⟩ (.int .u8 x.chroma) rfl (lc_u8 (BB'.out.cell (i := 2) rfl)) ?_; simp only [Act.put, List.setIfInBounds_toArray, List.set_cons_zero, List.set_cons_succ])
    | (refine wp_load_cell (by kernel_rfl) 24 (.tmp 39) rfl ⟨X, 23, none⟩ (ra) rfl (lc_is (BA'.out.cell (i := 23) rfl)) ?_; simp only [Act.put, List.setIfInBounds_toArray, List.set_cons_zero, List.set_cons_succ])
    | (refine wp_load_cell (by kernel_rfl) 24 (.tmp 41) rfl ⟨X + 1, 23, none⟩ (rb) rfl (lc_is (BB'.out.cell (i := 23) rfl)) ?_; simp only [Act.put, List.setIfInBounds_toArray, List.set_cons_zero, List.set_cons_succ])
    | (refine wp_load_cell (by kernel_rfl) 22 (.tmp 25) rfl ⟨X, 3, none⟩ (.agg (prC x.pr).toArray) rfl BA'.out.pr ?_; simp only [Act.put, List.setIfInBounds_toArray, List.set_cons_zero, List.set_cons_succ])
    | (refine wp_load_cell (by kernel_rfl) 23 (.tmp 32) rfl ⟨X, 19, none⟩ (.agg (sbC x.sb).toArray) rfl BA'.out.sb ?_; simp only [Act.put, List.setIfInBounds_toArray, List.set_cons_zero, List.set_cons_succ])
    | (refine wp_load_cell (by kernel_rfl) 22 (.tmp 27) rfl ⟨X + 1, 3, none⟩ (.agg (prC x.pr).toArray) rfl BB'.out.pr ?_; simp only [Act.put, List.setIfInBounds_toArray, List.set_cons_zero, List.set_cons_succ])
    | (refine wp_load_cell (by kernel_rfl) 23 (.tmp 34) rfl ⟨X + 1, 19, none⟩ (.agg (sbC x.sb).toArray) rfl BB'.out.sb ?_; simp only [Act.put, List.setIfInBounds_toArray, List.set_cons_zero, List.set_cons_succ]))
  refine (EI.out W2 (Only.refl [] W2)).mono ?_
  rintro e w3 ⟨rfl, o3⟩
  have O3 := hid o3
  have BA3 := hid (BA'.out.only o3 (by simp))
  have BB3 := hid (BB'.out.only o3 (by simp))
  clear o3 E16' E4' BA' BB'
  go_wp2_with (first
    | (refine wp_load_cell (by kernel_rfl) 25 (.tmp 46) rfl ⟨X, 24, none⟩ (va) rfl (lc_vs (BA3.out.cell (i := 24) rfl)) ?_; simp only [Act.put, List.setIfInBounds_toArray, List.set_cons_zero, List.set_cons_succ])
    | (refine wp_load_cell (by kernel_rfl) 25 (.tmp 48) rfl ⟨X + 1, 24, none⟩ (vb) rfl (lc_vs (BB3.out.cell (i := 24) rfl)) ?_; simp only [Act.put, List.setIfInBounds_toArray, List.set_cons_zero, List.set_cons_succ]))
  refine (EV.out w3 O3.out).mono ?_
  rintro e w4 ⟨rfl, o4⟩
  have O4 := hid (O3.out.trans o4)
  have BA4 := hid (BA3.out.only o4 (by simp))
  have BB4 := hid (BB3.out.only o4 (by simp))
  clear o4 BA3 BB3
  go_wp2_with (first
    | (refine wp_load_cell (by kernel_rfl) 5 (.tmp 53) rfl ⟨X, 25, none⟩ (.int .u8 x.cbp) rfl (lc_u8 (BA4.out.cell (i := 25) rfl)) ?_; simp only [Act.put, List.setIfInBounds_toArray, List.set_cons_zero, List.set_cons_succ])
    | (refine wp_load_cell (by kernel_rfl) 5 (.tmp 55) rfl ⟨X + 1, 25, none⟩ (.int .u8 x.cbp) rfl (lc_u8 (BB4.out.cell (i := 25) rfl)) ?_; simp only [Act.put, List.setIfInBounds_toArray, List.set_cons_zero, List.set_cons_succ])
    | (refine wp_load_cell (by kernel_rfl) 3 (.tmp 60) rfl ⟨X, 26, none⟩ (.int .i64 x.qp) rfl (lc_i64 (BA4.out.cell (i := 26) rfl)) ?_; simp only [Act.put, List.setIfInBounds_toArray, List.set_cons_zero, List.set_cons_succ])
    | (refine wp_load_cell (by kernel_rfl) 3 (.tmp 62) rfl ⟨X + 1, 26, none⟩ (.int .i64 x.qp) rfl (lc_i64 (BB4.out.cell (i := 26) rfl)) ?_; simp only [Act.put, List.setIfInBounds_toArray, List.set_cons_zero, List.set_cons_succ])
    | (refine wp_load_cell (by kernel_rfl) 26 (.tmp 67) rfl ⟨X, 27, none⟩ (ba) rfl (lc_bs (BA4.out.cell (i := 27) rfl)) ?_; simp only [Act.put, List.setIfInBounds_toArray, List.set_cons_zero, List.set_cons_succ])
    | (refine wp_load_cell (by kernel_rfl) 26 (.tmp 69) rfl ⟨X + 1, 27, none⟩ (bb) rfl (lc_bs (BB4.out.cell (i := 27) rfl)) ?_; simp only [Act.put, List.setIfInBounds_toArray, List.set_cons_zero, List.set_cons_succ]))
  refine (EB.out w4 O4.out).mono ?_
  rintro e w5 ⟨rfl, o5⟩
  have O5 := hid (O4.out.trans o5)
  have BA5 := hid (BA4.out.only o5 (by simp))
  have BB5 := hid (BB4.out.only o5 (by simp))
  clear o5 BA4 BB4
  go_wp2_with (first
    | (refine wp_load_cell (by kernel_rfl) 9 (.tmp 74) rfl ⟨X, 28, none⟩ (.string x.pcm) rfl (lc_st (BA5.out.cell (i := 28) rfl)) ?_; simp only [Act.put, List.setIfInBounds_toArray, List.set_cons_zero, List.set_cons_succ])
    | (refine wp_load_cell (by kernel_rfl) 9 (.tmp 76) rfl ⟨X + 1, 28, none⟩ (.string x.pcm) rfl (lc_st (BB5.out.cell (i := 28) rfl)) ?_; simp only [Act.put, List.setIfInBounds_toArray, List.set_cons_zero, List.set_cons_succ]))
  go_ret
  exact ⟨rfl, OW.out.trans O5.out⟩
end Go.Proofs.YtpmmnjeomdjakaaDoor

end
section
set_option maxRecDepth 20000
namespace Go.Proofs.YtpmmnjeomdjakaaDoor
open Go.RowKit
set_option linter.unusedVariables false
set_option linter.unusedSimpArgs false

/-- Operations that are not wanted, and those that only move values, are run. -/
def skipO (ops : Array Oper) : List Oper → Act → Option Act
  | [], a => some a
  | o :: r, a =>
    if Region.wanted o (yielded ops a.tmps) = true then
      match o.op with
      | .move x => skipO ops r (a.put o.dst (a.eval x))
      | .assign x => skipO ops r (a.put o.dst (a.eval x))
      | .pick c x y => match a.eval c with
        | .bool b => skipO ops r (a.put o.dst (if b then a.eval x else a.eval y))
        | _ => none
      | _ => none
    else skipO ops r (a.put o.dst undef)
theorem wpList_skipO {P : Program} {ops : Array Oper} {Q : Exit → Act → World → Prop} {w : World} : ∀ (l : List Oper) (a a' : Act), skipO ops l a = some a' → Q .normal a' w → wpList P ops Q l a w := by
  intro l
  induction l with
  | nil => intro a a' h k; simp only [skipO, Option.some.injEq] at h; subst h; exact k
  | cons o r ih =>
    intro a a' h k
    refine wpList_step fun K hK => ?_
    rw [skipO] at h
    by_cases hw : Region.wanted o (yielded ops a.tmps) = true
    · rw [if_pos hw] at h ⊢
      unfold Oper.wp execOp
      split at h
      · rename_i x hx
        simp only [hx]
        exact hK _ _ (ih _ _ h k)
      · rename_i x hx
        simp only [hx]
        exact hK _ _ (ih _ _ h k)
      · rename_i c x y hx
        split at h
        · rename_i b hb
          simp only [hx, hb, asBool]
          exact hK _ _ (ih _ _ h k)
        · cases h
      · cases h
    · rw [if_neg hw] at h ⊢
      exact hK _ _ (ih _ _ h k)
theorem put_defers (a : Act) (d : Option Tmp) (v : Value) : (a.put d v).defers = a.defers := by cases d <;> rfl
theorem skipO_defers {ops : Array Oper} : ∀ (l : List Oper) (a a' : Act), skipO ops l a = some a' → a'.defers = a.defers := by
  intro l
  induction l with
  | nil => intro a a' h; simp only [skipO, Option.some.injEq] at h; subst h; rfl
  | cons o r ih =>
    intro a a' h
    rw [skipO] at h
    split at h
    · split at h
      · exact (ih _ _ h).trans (put_defers _ _ _)
      · exact (ih _ _ h).trans (put_defers _ _ _)
      · split at h
        · exact (ih _ _ h).trans (put_defers _ _ _)
        · cases h
      · cases h
    · exact (ih _ _ h).trans (put_defers _ _ _)
theorem wpList_skip_to {P : Program} {ops : Array Oper} {Q : Exit → Act → World → Prop} {w : World} {l : List Oper} {a : Act} (n : Nat) (v : Value) (h : (skipO ops l a).map (fun b => b.tmps.getD n undef) = some v) (k : ∀ a' : Act, a'.tmps.getD n undef = v → a'.defers = a.defers → Q .normal a' w) : wpList P ops Q l a w := by
  obtain ⟨a', h1, h2⟩ := Option.map_eq_some_iff.1 h
  exact wpList_skipO l a a' h1 (k a' h2 (skipO_defers l a a' h1))
/-- Here a walk stops. -/
structure HoldOn (p : Prop) : Prop where
  out : p
theorem skip_after {P : Program} {ops : Array Oper} {Q : Exit → Act → World → Prop} {w : World} {l : List Oper} {a : Act} {K : Act → World → Prop} (hK : ∀ a w, wpList P ops Q l a w → K a w) (n : Nat) (v : Value) (h : (skipO ops l a).map (fun b => b.tmps.getD n undef) = some v) (k : ∀ a' : Act, a'.tmps.getD n undef = v → a'.defers = a.defers → Q .normal a' w) : K a w := hK _ _ (wpList_skip_to n v h k)
theorem ne_u8 {x y : Int} (w : World) (h : ¬ x = y) : (binOp .eql 5 (.int .u8 x) (.int .u8 y)).run Tryd.prog w = .ok (.bool false) w := by
  have : (x == y) = false := by simpa using h
  go_simp
theorem ne_i64 {x y : Int} (w : World) (h : ¬ x = y) : (binOp .eql 3 (.int .i64 x) (.int .i64 y)).run Tryd.prog w = .ok (.bool false) w := by
  have : (x == y) = false := by simpa using h
  go_simp
theorem ne_str {x y : ByteArray} (w : World) (h : ¬ x = y) : (binOp .eql 9 (.string x) (.string y)).run Tryd.prog w = .ok (.bool false) w := by
  have : (x.toList == y.toList) = false := by rw [beq_eq_false_iff_ne]; exact fun e => h (toListB_inj.1 e)
  go_simp
theorem g_u8 (x y : Operand) (a b : Int) (w : World) : (eqGuard .eql 5 x y (.int .u8 a) (.int .u8 b)).run Tryd.prog w = .ok () w := by kernel_rfl
theorem g_i64 (x y : Operand) (a b : Int) (w : World) : (eqGuard .eql 3 x y (.int .i64 a) (.int .i64 b)).run Tryd.prog w = .ok () w := by kernel_rfl
theorem g_str (x y : Operand) (a b : ByteArray) (w : World) : (eqGuard .eql 9 x y (.string a) (.string b)).run Tryd.prog w = .ok () w := by kernel_rfl
end Go.Proofs.YtpmmnjeomdjakaaDoor

end
section
set_option maxRecDepth 20000
namespace Go.Proofs.YtpmmnjeomdjakaaDoor
open Go.RowKit
set_option linter.unusedVariables false
set_option linter.unusedSimpArgs false

set_option maxHeartbeats 2000000 in
theorem peqi_any (a b : Value) (ss ts : List Int) (w : World) (ha : HoldsI .i64 w a ss) (hb : HoldsI .i64 w b ts) (h1 : ss.length ≤ 1000000) (h2 : ts.length ≤ 1000000) :
    Calls Tryd.prog 49 #[a, b] w fun e w' => e = .returned (.bool (decide (ss = ts))) ∧ Only [] w w' := by
  have HA := hid ha
  have HB := hid hb
  obtain ⟨a, c, rfl, _⟩ := ha
  obtain ⟨b, d, rfl, _⟩ := hb
  by_cases hl : ss.length = ts.length
  · have TL := hid hl
    obtain ⟨n, hn⟩ : ∃ n, n = ss.length := ⟨_, rfl⟩
    have N1 := hid hn
    have N2 := hid (hn.trans hl)
    rw [← hl, ← hn]
    rw [← hn] at h1
    clear hl h2 hn
    obtain ⟨r, hr⟩ : ∃ r, r = decide (ss = ts) := ⟨_, rfl⟩
    rw [← hr]
    have R := hid hr
    clear hr
    have nb : (n : Int) ≤ 1000000 := by omega
    go_enter Tryd.func49, Tryd.ntmps49
    go_wp2_with fail
    go_loopg [13] n (fun g t wr => ∃ j : Nat, j + g = n ∧ t = .int .i64 j ∧ ss.take j = ts.take j ∧ Only [] w wr)
    case atStart => exact ⟨0, by omega, rfl, rfl, Only.refl _ _⟩
    case round =>
      obtain ⟨j, hj, rfl, ht, hO⟩ := hrel
      have J := hid hj
      have T := hid ht
      have O := hid hO
      clear ht hO
      have jb : (j : Int) ≤ 1000000 := by omega
      have j0 : (0 : Int) ≤ (j : Int) := by omega
      by_cases hg : gk = 0
      · obtain rfl : j = n := by omega
        have i1 : ¬ (j : Int) < (j : Int) := by omega
        have E := R.out
        have e := T.out
        rw [List.take_of_length_le (by have := N1.out; omega), List.take_of_length_le (by have := N2.out; omega)] at e
        rw [decide_eq_true e] at E
        subst E
        clear hj hg e
        go_wp2_with fail
        go_ret
        exact ⟨rfl, O.out⟩
      · have i1 : (j : Int) < (n : Int) := by omega
        obtain ⟨g, rfl⟩ : ∃ g, gk = g + 1 := ⟨gk - 1, by omega⟩
        have l1 : j < ss.length := by have := N1.out; omega
        have l2 : j < ts.length := by have := N2.out; omega
        obtain ⟨x, X, T1⟩ := take_oneI ss j l1
        obtain ⟨y, Y, T2⟩ := take_oneI ts j l2
        obtain ⟨xb, xo, rfl, hx⟩ := HA.out.at X
        obtain ⟨yb, yo, rfl, hy⟩ := HB.out.at Y
        have hx := O.out.cell hx (by simp)
        have hy := O.out.cell hy (by simp)
        have X := hid X
        have Y := hid Y
        have T1 := hid T1
        have T2 := hid T2
        clear hj hg l1 l2
        by_cases e : x = y
        · subst e
          have EE : Hid True := trivial
          go_wp2_with fail
          go_quiet (fail)
          go_wp2_with fail
          go_roundg g
          case measure => omega
          case rel => exact ⟨j + 1, by have := J.out; omega, by go_num, by rw [T1.out, T2.out, T.out], O.out.drewN _⟩
        · have NE : decide (ss = ts) = false := by
            rw [decide_eq_false_iff_not]
            intro h
            subst h
            exact e (Option.some.inj (X.out.symm.trans Y.out))
          have E := R.out
          rw [NE] at E
          subst E
          clear NE
          go_wp2_with fail
          go_quiet (fail)
          go_wp2_with fail
          go_ret
          exact ⟨rfl, O.out.drewN _⟩
  · have hne : ((ss.length : Int) == (ts.length : Int)) = false := by rw [beq_eq_false_iff_ne]; omega
    have hne2 : ((ss.length : Int) != (ts.length : Int)) = true := by rw [bne_iff_ne]; omega
    rw [decide_eq_false (fun e => hl (by rw [e]))]
    clear hl
    go_enter Tryd.func49, Tryd.ntmps49
    go_wp2_with fail
    go_ret
    exact ⟨rfl, Only.refl _ _⟩
set_option maxHeartbeats 2000000 in
theorem peqv_any (a b : Value) (ss ts : List (Int × Int)) (w : World) (ha : HoldsG vcC 2 w a ss) (hb : HoldsG vcC 2 w b ts) (h1 : ss.length ≤ 1000000) (h2 : ts.length ≤ 1000000) :
    Calls Tryd.prog 50 #[a, b] w fun e w' => e = .returned (.bool (decide (ss = ts))) ∧ Only [] w w' := by
  have HA := hid ha
  have HB := hid hb
  obtain ⟨a, c, rfl, _⟩ := ha
  obtain ⟨b, d, rfl, _⟩ := hb
  by_cases hl : ss.length = ts.length
  · have TL := hid hl
    obtain ⟨n, hn⟩ : ∃ n, n = ss.length := ⟨_, rfl⟩
    have N1 := hid hn
    have N2 := hid (hn.trans hl)
    rw [← hl, ← hn]
    rw [← hn] at h1
    clear hl h2 hn
    obtain ⟨r, hr⟩ : ∃ r, r = decide (ss = ts) := ⟨_, rfl⟩
    rw [← hr]
    have R := hid hr
    clear hr
    have nb : (n : Int) ≤ 1000000 := by omega
    go_enter Tryd.func50, Tryd.ntmps50
    go_wp2_with fail
    go_loopg [13] n (fun g t wr => ∃ j : Nat, j + g = n ∧ t = .int .i64 j ∧ ss.take j = ts.take j ∧ Only [] w wr)
    case atStart => exact ⟨0, by omega, rfl, rfl, Only.refl _ _⟩
    case round =>
      obtain ⟨j, hj, rfl, ht, hO⟩ := hrel
      have J := hid hj
      have T := hid ht
      have O := hid hO
      clear ht hO
      have jb : (j : Int) ≤ 1000000 := by omega
      have j0 : (0 : Int) ≤ (j : Int) := by omega
      by_cases hg : gk = 0
      · obtain rfl : j = n := by omega
        have i1 : ¬ (j : Int) < (j : Int) := by omega
        have E := R.out
        have e := T.out
        rw [List.take_of_length_le (by have := N1.out; omega), List.take_of_length_le (by have := N2.out; omega)] at e
        rw [decide_eq_true e] at E
        subst E
        clear hj hg e
        go_wp2_with fail
        go_ret
        exact ⟨rfl, O.out⟩
      · have i1 : (j : Int) < (n : Int) := by omega
        obtain ⟨g, rfl⟩ : ∃ g, gk = g + 1 := ⟨gk - 1, by omega⟩
        have l1 : j < ss.length := by have := N1.out; omega
        have l2 : j < ts.length := by have := N2.out; omega
        obtain ⟨x, X, T1⟩ := take_oneG ss j l1
        obtain ⟨y, Y, T2⟩ := take_oneG ts j l2
        obtain ⟨xb, xo, rfl, hx⟩ := HA.out.at X
        obtain ⟨yb, yo, rfl, hy⟩ := HB.out.at Y
        have x0 := O.out.cell (hx 0 (.int .i64 x.1) rfl) (by simp)
        have x1 := O.out.cell (hx 1 (.int .i64 x.2) rfl) (by simp)
        have y0 := O.out.cell (hy 0 (.int .i64 y.1) rfl) (by simp)
        have y1 := O.out.cell (hy 1 (.int .i64 y.2) rfl) (by simp)
        rw [Nat.add_zero] at x0 y0
        have EQ := neq_vec x y
        have X := hid X
        have Y := hid Y
        have T1 := hid T1
        have T2 := hid T2
        clear hj hg l1 l2 hx hy
        by_cases e : x = y
        · rw [decide_eq_true e] at EQ
          have EE := hid e
          clear e
          go_wp2_with fail
          go_quiet (fail)
          go_wp2_with fail
          go_roundg g
          case measure => omega
          case rel => exact ⟨j + 1, by have := J.out; omega, by go_num, by rw [T1.out, T2.out, T.out, EE.out], O.out.drewN _⟩
        · rw [decide_eq_false e] at EQ
          have NE : decide (ss = ts) = false := by
            rw [decide_eq_false_iff_not]
            intro h
            subst h
            exact e (Option.some.inj (X.out.symm.trans Y.out))
          have E := R.out
          rw [NE] at E
          subst E
          clear e NE
          go_wp2_with fail
          go_quiet (fail)
          go_wp2_with fail
          go_ret
          exact ⟨rfl, O.out.drewN _⟩
  · have hne : ((ss.length : Int) == (ts.length : Int)) = false := by rw [beq_eq_false_iff_ne]; omega
    have hne2 : ((ss.length : Int) != (ts.length : Int)) = true := by rw [bne_iff_ne]; omega
    rw [decide_eq_false (fun e => hl (by rw [e]))]
    clear hl
    go_enter Tryd.func50, Tryd.ntmps50
    go_wp2_with fail
    go_ret
    exact ⟨rfl, Only.refl _ _⟩
set_option maxRecDepth 100000 in
set_option maxHeartbeats 2000000 in
theorem peqb_any (a b : Value) (ss ts : List (List Int)) (w : World) (ha : HoldsB w a ss) (hb : HoldsB w b ts) (h1 : ss.length ≤ 1000000) (h2 : ts.length ≤ 1000000) (k1 : ∀ l, l ∈ ss → l.length ≤ 1000000) (k2 : ∀ l, l ∈ ts → l.length ≤ 1000000) :
    Calls Tryd.prog 51 #[a, b, .func (.func 49) #[] #[]] w fun e w' => e = .returned (.bool (decide (ss = ts))) ∧ Only [] w w' := by
  have K1 := hid k1
  have K2 := hid k2
  obtain ⟨us, ha, hau⟩ := ha
  obtain ⟨vs, hb, hbv⟩ := hb
  have HA := hid ha
  have HB := hid hb
  have UA := hid hau
  have VB := hid hbv
  obtain ⟨a, c, rfl, _⟩ := ha
  obtain ⟨b, d, rfl, _⟩ := hb
  rw [hau.1] at HA ⊢
  rw [hbv.1] at HB ⊢
  clear hau hbv k1 k2
  by_cases hl : ss.length = ts.length
  · have TL := hid hl
    obtain ⟨n, hn⟩ : ∃ n, n = ss.length := ⟨_, rfl⟩
    have N1 := hid hn
    have N2 := hid (hn.trans hl)
    rw [← hl, ← hn]
    rw [← hn] at h1
    clear hl h2 hn
    obtain ⟨r, hr⟩ : ∃ r, r = decide (ss = ts) := ⟨_, rfl⟩
    rw [← hr]
    have R := hid hr
    clear hr
    have nb : (n : Int) ≤ 1000000 := by omega
    go_enter Tryd.func51, Tryd.ntmps51
    go_wp2_with fail
    go_loopg [17] n (fun g t wr => ∃ j : Nat, j + g = n ∧ t = .int .i64 j ∧ ss.take j = ts.take j ∧ Only [] w wr)
    case atStart => exact ⟨0, by omega, rfl, rfl, Only.refl _ _⟩
    case round =>
      obtain ⟨j, hj, rfl, ht, hO⟩ := hrel
      have J := hid hj
      have T := hid ht
      have O := hid hO
      clear ht hO
      have jb : (j : Int) ≤ 1000000 := by omega
      have j0 : (0 : Int) ≤ (j : Int) := by omega
      by_cases hg : gk = 0
      · obtain rfl : j = n := by omega
        have i1 : ¬ (j : Int) < (j : Int) := by omega
        have E := R.out
        have e := T.out
        rw [List.take_of_length_le (by have := N1.out; omega), List.take_of_length_le (by have := N2.out; omega)] at e
        rw [decide_eq_true e] at E
        subst E
        clear hj hg e
        go_wp2_with fail
        go_ret
        exact ⟨rfl, O.out⟩
      · have i1 : (j : Int) < (n : Int) := by omega
        obtain ⟨g, rfl⟩ : ∃ g, gk = g + 1 := ⟨gk - 1, by omega⟩
        have l1 : j < ss.length := by have := N1.out; omega
        have l2 : j < ts.length := by have := N2.out; omega
        obtain ⟨x, X, T1⟩ := take_oneG ss j l1
        obtain ⟨y, Y, T2⟩ := take_oneG ts j l2
        obtain ⟨u, hu⟩ : ∃ u, us[j]? = some u := ⟨_, List.getElem?_eq_getElem (by rw [UA.out.1]; exact l1)⟩
        obtain ⟨v, hv⟩ : ∃ v, vs[j]? = some v := ⟨_, List.getElem?_eq_getElem (by rw [VB.out.1]; exact l2)⟩
        have HU := hid (UA.out.2 j u x hu X)
        have HVV := hid (VB.out.2 j v y hv Y)
        obtain ⟨xb, xo, rfl, hx⟩ := HA.out.at hu
        obtain ⟨yb, yo, rfl, hy⟩ := HB.out.at hv
        have hx0 := hx 0 u.sl rfl
        have hy0 := hy 0 v.sl rfl
        rw [Nat.add_zero, Nat.mul_one] at hx0 hy0
        have x0 := hid (fun w' (o : Only [] wr w') => (O.out.trans o).cell hx0 (by simp))
        have y0 := hid (fun w' (o : Only [] wr w') => (O.out.trans o).cell hy0 (by simp))
        clear hx0 hy0
        have LX := K1.out x (List.mem_of_getElem? X)
        have LY := K2.out y (List.mem_of_getElem? Y)
        have EQI := hid (fun w' (o : Only [] wr w') => peqi_any u.sl v.sl x y w' (HU.out.only0 (O.out.trans o)) (HVV.out.only0 (O.out.trans o)) LX LY)
        clear hu hv LX LY
        have X := hid X
        have Y := hid Y
        have T1 := hid T1
        have T2 := hid T2
        clear hj hg l1 l2 hx hy
        have cx := x0.out wr (Only.refl _ _)
        have cy := y0.out wr (Only.refl _ _)
        obtain ⟨eq, heq⟩ : ∃ b, b = decide (x = y) := ⟨_, rfl⟩
        rw [← heq] at EQI
        have HE := hid heq
        clear heq
        cases eq
        · have NE : decide (ss = ts) = false := by
            rw [decide_eq_false_iff_not]
            intro h
            subst h
            have e : x = y := Option.some.inj (X.out.symm.trans Y.out)
            have := HE.out
            rw [decide_eq_true e] at this
            cases this
          have E := R.out
          rw [NE] at E
          subst E
          clear NE
          go_wp2_with fail
          refine (EQI.out _ (Only.refl _ _)).mono ?_
          rintro e w3 ⟨rfl, o3⟩
          have O3 := hid o3
          clear o3
          go_wp2_with fail
          go_ret
          exact ⟨rfl, O.out.trans O3.out⟩
        · have EE := hid (show x = y from of_decide_eq_true HE.out.symm)
          go_wp2_with fail
          refine (EQI.out _ (Only.refl _ _)).mono ?_
          rintro e w3 ⟨rfl, o3⟩
          have O3 := hid o3
          clear o3
          go_wp2_with fail
          go_roundg g
          case measure => omega
          case rel => exact ⟨j + 1, by have := J.out; omega, by go_num, by rw [T1.out, T2.out, T.out, EE.out], O.out.trans O3.out⟩
  · have hne : ((ss.length : Int) == (ts.length : Int)) = false := by rw [beq_eq_false_iff_ne]; omega
    have hne2 : ((ss.length : Int) != (ts.length : Int)) = true := by rw [bne_iff_ne]; omega
    rw [decide_eq_false (fun e => hl (by rw [e]))]
    clear hl
    go_enter Tryd.func51, Tryd.ntmps51
    go_wp2_with fail
    go_ret
    exact ⟨rfl, Only.refl _ _⟩
end Go.Proofs.YtpmmnjeomdjakaaDoor

end

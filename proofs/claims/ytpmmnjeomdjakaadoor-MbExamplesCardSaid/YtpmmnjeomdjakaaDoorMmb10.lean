/- The reference's within. -/
/- The reference's quarter: parts in memory. -/
/- The reference's All. -/
/- The reference's Pieces, one, Cover, Part. -/
import Derived.Test.YtpmmnjeomdjakaaDoorMmb7
import Derived.Test.YtpmmnjeomdjakaaDoorIs
section
set_option maxRecDepth 20000
namespace Go.Proofs.YtpmmnjeomdjakaaDoor
open Go.RowKit
set_option linter.unusedVariables false
set_option linter.unusedSimpArgs false

set_option maxRecDepth 100000 in
set_option maxHeartbeats 4000000 in
theorem rwithin_any (x y wd ht : Nat) (w : World) (hx : x ≤ 4) (hy : y ≤ 4) (hw : wd ≤ 4) (hh : ht ≤ 4) :
    Calls Tryd.prog 72 #[.int .i64 x, .int .i64 y, .int .i64 wd, .int .i64 ht] w fun e w' => ∃ sv, e = .returned sv ∧ RowI w' sv (withinN x y wd ht 16) ∧ (∀ g, g ∈ ownI sv → w.heap.size ≤ g) ∧ Only [] w w' := by
  have x0 : (0 : Int) ≤ (x : Int) := by omega
  have y0 : (0 : Int) ≤ (y : Int) := by omega
  have wd0 : (0 : Int) ≤ (wd : Int) := by omega
  have ht0 : (0 : Int) ≤ (ht : Int) := by omega
  have x1 : (x : Int) ≤ 4 := by omega
  have y1 : (y : Int) ≤ 4 := by omega
  have wd1 : (wd : Int) ≤ 4 := by omega
  have ht1 : (ht : Int) ≤ 4 := by omega
  clear hx hy hw hh
  go_enter Tryd.func72, Tryd.ntmps72
  go_wp2_with fail
  go_loopg [9, 10] 16 (fun g sv t wr => ∃ k : Nat, k + g = 16 ∧ t = .int .i64 k ∧ RowI wr sv (withinN x y wd ht k) ∧ (∀ g, g ∈ ownI sv → w.heap.size ≤ g) ∧ Only [] w wr)
  case atStart => exact ⟨0, rfl, rfl, RowI.nil w, by simp [ownI, Value.ownBlock], Only.refl [] w⟩
  case round =>
    obtain ⟨k, hk, rfl, hX⟩ := hrel
    have X := hid hX
    clear hX
    by_cases hg : gk = 0
    · have i1 : ¬ (k : Int) < 16 := by omega
      obtain rfl : k = 16 := by omega
      clear hk hg
      obtain ⟨sv, hsv⟩ : ∃ sv, sv = u9 := ⟨_, rfl⟩
      rw [← hsv] at X ⊢
      clear hsv
      go_wp2_with fail
      go_ret
      exact ⟨_, rfl, X.out⟩
    · have i1 : (k : Int) < 16 := by omega
      have i0 : (0 : Int) ≤ (k : Int) := by omega
      obtain ⟨gg, rfl⟩ : ∃ gg, gk = gg + 1 := ⟨gk - 1, by omega⟩
      have KN := hid (show k + 1 + gg = 16 ∧ k < 16 by omega)
      clear hk hg
      obtain ⟨sv, hsv⟩ : ∃ sv, sv = u9 := ⟨_, rfl⟩
      rw [← hsv] at X ⊢
      clear hsv
      obtain ⟨c, hc⟩ : ∃ c, c = colN k := ⟨_, rfl⟩
      obtain ⟨r, hr⟩ : ∃ r, r = rowN k := ⟨_, rfl⟩
      have ec : (k : Int) % 2 + 2 * ((k : Int) / 4 % 2) = (c : Int) := by rw [hc]; unfold colN; omega
      have er : (k : Int) / 2 % 2 + 2 * ((k : Int) / 8) = (r : Int) := by rw [hr]; unfold rowN; omega
      have c0 : (0 : Int) ≤ (c : Int) := by omega
      have c4 : (c : Int) ≤ 3 := by have := KN.out.2; omega
      have r0 : (0 : Int) ≤ (r : Int) := by omega
      have r4 : (r : Int) ≤ 3 := by have := KN.out.2; omega
      have SU := hid (withinN_succ x y wd ht k)
      have IN := hid (show inN x y wd ht k = (decide (x ≤ c) && decide (c < x + wd) && decide (y ≤ r) && decide (r < y + ht)) from by rw [hc, hr]; rfl)
      clear hc hr
      by_cases h1 : (x : Int) ≤ (c : Int)
      · have n1 : x ≤ c := by omega
        by_cases h2 : (c : Int) < (x : Int) + (wd : Int)
        · have n2 : c < x + wd := by omega
          by_cases h3 : (y : Int) ≤ (r : Int)
          · have n3 : y ≤ r := by omega
            by_cases h4 : (r : Int) < (y : Int) + (ht : Int)
            · have n4 : r < y + ht := by omega
              have W1 : inN x y wd ht k = true := by rw [IN.out]; simp [n1, n2, n3, n4]
              have SU2 := SU.out
              rw [if_pos W1] at SU2
              have S2 := hid SU2
              have LL : (withinN x y wd ht k).length + 1 ≤ 1000000000 := by
                have : (withinN x y wd ht k).length ≤ k := by
                  unfold withinN
                  rw [List.length_map]
                  exact Nat.le_trans (List.length_filter_le _ _) (by simp)
                have := KN.out.2
                omega
              obtain ⟨sv2, w2, hrun, hrow, honly, hown⟩ := append_int wr sv _ (k : Int) X.out.1 LL
              have RUN := hid hrun
              have ROW := hid (show RowI w2 sv2 (withinN x y wd ht (k + 1)) from by rw [S2.out]; exact hrow)
              have ON := hid honly
              have OW := hid hown
              clear hrun hrow honly hown LL SU2 W1 SU IN
              go_wp2_with (at_builtin; refine wp_append_eq (by kernel_rfl) (.tmp 53) (.tmp 55) _ _ rfl sv _ sv2 w2 rfl rfl RUN.out ?_; simp only [Act.put, List.setIfInBounds_toArray, List.set_cons_zero, List.set_cons_succ])
              go_roundg gg
              case measure => omega
              case rel => exact ⟨k + 1, KN.out.1, by go_num, ROW.out, fun g hg => (OW.out g hg).elim (X.out.2.1 g) (fun h => Nat.le_trans X.out.2.2.size h), X.out.2.2.trans2 ON.out (fun y hy => .inr (X.out.2.1 y hy))⟩
            · have n4 : ¬ r < y + ht := by omega
              have W1 : inN x y wd ht k = false := by rw [IN.out]; simp [n4]
              have SU2 := SU.out
              rw [W1, if_neg (by decide), List.append_nil] at SU2
              have S2 := hid SU2
              clear W1 SU2 SU IN
              go_wp2_with fail
              go_roundg gg
              case measure => omega
              case rel => exact ⟨k + 1, KN.out.1, by go_num, by rw [S2.out]; exact X.out.1, X.out.2⟩
          · have n3 : ¬ y ≤ r := by omega
            have W1 : inN x y wd ht k = false := by rw [IN.out]; simp [n3]
            have SU2 := SU.out
            rw [W1, if_neg (by decide), List.append_nil] at SU2
            have S2 := hid SU2
            clear W1 SU2 SU IN
            go_wp2_with fail
            go_roundg gg
            case measure => omega
            case rel => exact ⟨k + 1, KN.out.1, by go_num, by rw [S2.out]; exact X.out.1, X.out.2⟩
        · have n2 : ¬ c < x + wd := by omega
          have W1 : inN x y wd ht k = false := by rw [IN.out]; simp [n2]
          have SU2 := SU.out
          rw [W1, if_neg (by decide), List.append_nil] at SU2
          have S2 := hid SU2
          clear W1 SU2 SU IN
          go_wp2_with fail
          go_roundg gg
          case measure => omega
          case rel => exact ⟨k + 1, KN.out.1, by go_num, by rw [S2.out]; exact X.out.1, X.out.2⟩
      · have n1 : ¬ x ≤ c := by omega
        have W1 : inN x y wd ht k = false := by rw [IN.out]; simp [n1]
        have SU2 := SU.out
        rw [W1, if_neg (by decide), List.append_nil] at SU2
        have S2 := hid SU2
        clear W1 SU2 SU IN
        go_wp2_with fail
        go_roundg gg
        case measure => omega
        case rel => exact ⟨k + 1, KN.out.1, by go_num, by rw [S2.out]; exact X.out.1, X.out.2⟩
end Go.Proofs.YtpmmnjeomdjakaaDoor

end
section
set_option maxRecDepth 20000
namespace Go.Proofs.YtpmmnjeomdjakaaDoor
open Go.RowKit
set_option linter.unusedVariables false
set_option linter.unusedSimpArgs false

/-- A part in memory: its partition, and where its blocks lie. -/
abbrev PcV := Int × Option Addr × Nat × Nat
def PcV.sl (x : PcV) : Value := .slice x.2.1 x.2.2.1 x.2.2.2
def pcC (x : PcV) : List Value := [.int .i64 x.1, .slice x.2.1 x.2.2.1 x.2.2.2]
def pcV (x : PcV) : Value := .agg (pcC x).toArray
theorem pcC_ok : CellsN pcC 2 := ⟨fun _ => rfl, fun x u h => by simp [pcC] at h; rcases h with h | h <;> (subst h; rfl), by omega⟩
theorem pc_row : RowType Tryd.prog 88 93 (.agg #[.int .i64 0, .slice none 0 0]) 2 32 := ⟨by kernel_rfl, by kernel_rfl, rfl, by omega⟩
/-- What lies there reads as these parts. -/
def HoldsPc (w : World) (vs : List PcV) (l : List (Int × List Int)) : Prop := vs.length = l.length ∧ ∀ (j : Nat) (v : PcV) (p : Int × List Int), vs[j]? = some v → l[j]? = some p → v.1 = p.1 ∧ HoldsI .i64 w v.sl p.2
theorem HoldsPc.only0 {w w' : World} {vs : List PcV} {l : List (Int × List Int)} (h : HoldsPc w vs l) (k : Only [] w w') : HoldsPc w' vs l := ⟨h.1, fun j v p hv hp => ⟨(h.2 j v p hv hp).1, (h.2 j v p hv hp).2.only0 k⟩⟩
theorem holdsPc_nil (w : World) : HoldsPc w [] [] := ⟨rfl, fun j v p hv => by simp at hv⟩
theorem holdsPc_cons {w : World} {v : PcV} {vs : List PcV} {p : Int × List Int} {l : List (Int × List Int)} (h1 : v.1 = p.1) (h2 : HoldsI .i64 w v.sl p.2) (h : HoldsPc w vs l) : HoldsPc w (v :: vs) (p :: l) := by
  refine ⟨by simp [h.1], fun j a b ha hb => ?_⟩
  cases j with
  | zero => cases ha; cases hb; exact ⟨h1, h2⟩
  | succ j => exact h.2 j a b ha hb
theorem HoldsPc.append {w : World} {vs us : List PcV} {l m : List (Int × List Int)} (h : HoldsPc w vs l) (k : HoldsPc w us m) : HoldsPc w (vs ++ us) (l ++ m) := by
  refine ⟨by simp [h.1, k.1], fun j a b ha hb => ?_⟩
  by_cases e : j < vs.length
  · rw [List.getElem?_append_left e] at ha
    rw [List.getElem?_append_left (by rw [← h.1]; exact e)] at hb
    exact h.2 j a b ha hb
  · rw [List.getElem?_append_right (by omega)] at ha
    rw [List.getElem?_append_right (by rw [← h.1]; omega), ← h.1] at hb
    exact k.2 _ a b ha hb
/-- The blocks of parts are new since n. -/
def NewPc (n : Nat) (w : World) (vs : List PcV) : Prop := ∀ v, v ∈ vs → ∀ a : Addr, v.2.1 = some a → n ≤ a.block ∧ a.block < w.heap.size
theorem NewPc.only {S : List Nat} {n : Nat} {w w' : World} {vs : List PcV} (h : NewPc n w vs) (k : Only S w w') : NewPc n w' vs := fun v hv a ha => ⟨(h v hv a ha).1, Nat.lt_of_lt_of_le (h v hv a ha).2 k.size⟩
/-- A slice of parts, whose blocks are new since n. -/
def PcAt (n : Nat) (w : World) (sv : Value) (l : List (Int × List Int)) : Prop := ∃ vs, HoldsG pcC 2 w sv vs ∧ HoldsPc w vs l ∧ NewPc n w vs
theorem PcAt.only0 {n : Nat} {w w' : World} {sv : Value} {l : List (Int × List Int)} (h : PcAt n w sv l) (k : Only [] w w') : PcAt n w' sv l := by
  obtain ⟨vs, a, b, c⟩ := h
  exact ⟨vs, a.only0 k, b.only0 k, c.only k⟩
theorem run_pc1 (a : PcV) (w : World) : (Instr.buildSlice 88 1 #[(0, pcV a)]).run Tryd.prog w = .ok (.slice (some ⟨w.heap.size, 0, none⟩) 1 1) (w.alloc (.cells (cellsG pcC [a]).toArray 93)) := by kernel_rfl
theorem run_pc2 (a b : PcV) (w : World) : (Instr.buildSlice 88 2 #[(0, pcV a), (1, pcV b)]).run Tryd.prog w = .ok (.slice (some ⟨w.heap.size, 0, none⟩) 2 2) (w.alloc (.cells (cellsG pcC [a, b]).toArray 93)) := by kernel_rfl
theorem run_pc4 (a b c d : PcV) (w : World) : (Instr.buildSlice 88 4 #[(0, pcV a), (1, pcV b), (2, pcV c), (3, pcV d)]).run Tryd.prog w = .ok (.slice (some ⟨w.heap.size, 0, none⟩) 4 4) (w.alloc (.cells (cellsG pcC [a, b, c, d]).toArray 93)) := by kernel_rfl
set_option maxRecDepth 100000 in
set_option maxHeartbeats 4000000 in
theorem rquarter_any (i s : Nat) (hi : i < 4) (w : World) :
    Calls Tryd.prog 73 #[.int .i64 i, .int .u8 s] w fun e w' => ∃ sv, e = .returned sv ∧ PcAt w.heap.size w' sv (quarterN i s) ∧ Only [] w w' := by
  obtain ⟨x, hx⟩ : ∃ x, x = 2 * (i % 2) := ⟨_, rfl⟩
  obtain ⟨y, hy⟩ : ∃ y, y = 2 * (i / 2) := ⟨_, rfl⟩
  have ex : 2 * ((i : Int) % 2) = (x : Int) := by omega
  have ey : 2 * ((i : Int) / 2) = (y : Int) := by omega
  have i0 : (0 : Int) ≤ (i : Int) := by omega
  have i1 : (i : Int) < 4 := by omega
  have x0 : (0 : Int) ≤ (x : Int) := by omega
  have y0 : (0 : Int) ≤ (y : Int) := by omega
  have x1 : (x : Int) ≤ 2 := by omega
  have y1 : (y : Int) ≤ 2 := by omega
  obtain ⟨xx, hxx⟩ : ∃ z, z = x + 1 := ⟨_, rfl⟩
  obtain ⟨yy, hyy⟩ : ∃ z, z = y + 1 := ⟨_, rfl⟩
  have xs : (x : Int) + 1 = (xx : Int) := by omega
  have ys : (y : Int) + 1 = (yy : Int) := by omega
  have xx1 : xx ≤ 4 := by omega
  have yy1 : yy ≤ 4 := by omega
  by_cases s0 : s = 0
  · subst s0
    have QS := hid (show quarterN i 0 = [((i : Int), withinN x y 2 2 16)] from by subst hxx hyy hx hy; rfl)
    clear hx hy hi hxx hyy
    go_enter Tryd.func73, Tryd.ntmps73
    go_wp2_with fail
    refine (rwithin_any x y 2 2 _ (by omega) (by omega) (by omega) (by omega)).mono ?_
    rintro e q1 ⟨s1, rfl, row1, f1, o1⟩
    obtain ⟨a1, c1, rfl⟩ := row1.form
    obtain ⟨L1, hL1⟩ : ∃ L, L = withinN x y 2 2 16 := ⟨_, rfl⟩
    rw [← hL1] at row1 ⊢
    have E1 := hid hL1
    have F1 := hid (show ∀ a : Addr, a1 = some a → w.heap.size ≤ a.block ∧ a.block < q1.heap.size from fun a e => by subst e; exact ⟨Nat.le_trans (Nat.le_refl _) (f1 a.block (by simp [ownI, Value.ownBlock])), row1.lt a.block (by simp [ownI, Value.ownBlock])⟩)
    have z1 := hid o1.size
    clear f1
    have O1 := hid o1
    have H1 := hid row1.holds
    clear hL1 row1 o1
    have r := run_pc1 (((i : Int), a1, L1.length, c1) : PcV) q1
    obtain ⟨Z, hZ⟩ : ∃ Z, Z = q1.alloc (.cells (cellsG pcC ([((i : Int), a1, L1.length, c1)] : List PcV)).toArray 93) := ⟨_, rfl⟩
    have hg := holdsG_lit pcC_ok q1 93 ([((i : Int), a1, L1.length, c1)] : List PcV) (by simp [maxLen])
    rw [← hZ] at r hg
    have oZ : Only [] q1 Z := hZ ▸ ((Only.refl [] q1).alloc _)
    have RN := hid r
    have HG := hid hg
    have OZ := hid oZ
    clear r hg oZ hZ
    go_wp2_with (refine wp_buildSlice rfl 88 1 #[(0, .tmp 20)] rfl #[(0, pcV (((i : Int), a1, L1.length, c1) : PcV))] (by kernel_rfl) _ RN.out ?_; simp only [Act.put, List.setIfInBounds_toArray, List.set_cons_zero, List.set_cons_succ])
    go_ret
    refine ⟨_, rfl, ⟨_, HG.out, ?_, ?_⟩, O1.out.trans OZ.out⟩
    · rw [QS.out]
      exact holdsPc_cons rfl (show HoldsI .i64 _ (.slice a1 L1.length c1) _ from by rw [← E1.out]; exact H1.out.only0 OZ.out) (holdsPc_nil _)
    · intro v hv a ha; have := OZ.out.size; have := z1.out; simp only [List.mem_cons, List.not_mem_nil, or_false] at hv; rcases hv with rfl; (have := F1.out a ha; omega)
  · by_cases s1 : s = 1
    · subst s1
      clear s0
      have QS := hid (show quarterN i 1 = [((i : Int), withinN x y 2 1 16), ((i : Int), withinN x yy 2 1 16)] from by subst hxx hyy hx hy; rfl)
      clear hx hy hi hxx hyy
      go_enter Tryd.func73, Tryd.ntmps73
      go_wp2_with fail
      refine (rwithin_any x y 2 1 _ (by omega) (by omega) (by omega) (by omega)).mono ?_
      rintro e q1 ⟨s1, rfl, row1, f1, o1⟩
      obtain ⟨a1, c1, rfl⟩ := row1.form
      obtain ⟨L1, hL1⟩ : ∃ L, L = withinN x y 2 1 16 := ⟨_, rfl⟩
      rw [← hL1] at row1 ⊢
      have E1 := hid hL1
      have F1 := hid (show ∀ a : Addr, a1 = some a → w.heap.size ≤ a.block ∧ a.block < q1.heap.size from fun a e => by subst e; exact ⟨Nat.le_trans (Nat.le_refl _) (f1 a.block (by simp [ownI, Value.ownBlock])), row1.lt a.block (by simp [ownI, Value.ownBlock])⟩)
      have z1 := hid o1.size
      clear f1
      have O1 := hid o1
      have H1 := hid row1.holds
      clear hL1 row1 o1
      go_wp2_with fail
      refine (rwithin_any x yy 2 1 _ (by omega) (by omega) (by omega) (by omega)).mono ?_
      rintro e q2 ⟨s2, rfl, row2, f2, o2⟩
      obtain ⟨a2, c2, rfl⟩ := row2.form
      obtain ⟨L2, hL2⟩ : ∃ L, L = withinN x yy 2 1 16 := ⟨_, rfl⟩
      rw [← hL2] at row2 ⊢
      have E2 := hid hL2
      have F2 := hid (show ∀ a : Addr, a2 = some a → w.heap.size ≤ a.block ∧ a.block < q2.heap.size from fun a e => by subst e; exact ⟨Nat.le_trans O1.out.size (f2 a.block (by simp [ownI, Value.ownBlock])), row2.lt a.block (by simp [ownI, Value.ownBlock])⟩)
      have z2 := hid o2.size
      clear f2
      have O2 := hid (O1.out.trans o2)
      have H1 := hid (H1.out.only0 o2)
      have H2 := hid row2.holds
      clear hL2 row2 o2
      have r := run_pc2 (((i : Int), a1, L1.length, c1) : PcV) (((i : Int), a2, L2.length, c2) : PcV) q2
      obtain ⟨Z, hZ⟩ : ∃ Z, Z = q2.alloc (.cells (cellsG pcC ([((i : Int), a1, L1.length, c1), ((i : Int), a2, L2.length, c2)] : List PcV)).toArray 93) := ⟨_, rfl⟩
      have hg := holdsG_lit pcC_ok q2 93 ([((i : Int), a1, L1.length, c1), ((i : Int), a2, L2.length, c2)] : List PcV) (by simp [maxLen])
      rw [← hZ] at r hg
      have oZ : Only [] q2 Z := hZ ▸ ((Only.refl [] q2).alloc _)
      have RN := hid r
      have HG := hid hg
      have OZ := hid oZ
      clear r hg oZ hZ
      go_wp2_with (refine wp_buildSlice rfl 88 2 #[(0, .tmp 28), (1, .tmp 34)] rfl #[(0, pcV (((i : Int), a1, L1.length, c1) : PcV)), (1, pcV (((i : Int), a2, L2.length, c2) : PcV))] (by kernel_rfl) _ RN.out ?_; simp only [Act.put, List.setIfInBounds_toArray, List.set_cons_zero, List.set_cons_succ])
      go_ret
      refine ⟨_, rfl, ⟨_, HG.out, ?_, ?_⟩, O2.out.trans OZ.out⟩
      · rw [QS.out]
        exact holdsPc_cons rfl (show HoldsI .i64 _ (.slice a1 L1.length c1) _ from by rw [← E1.out]; exact H1.out.only0 OZ.out) (holdsPc_cons rfl (show HoldsI .i64 _ (.slice a2 L2.length c2) _ from by rw [← E2.out]; exact H2.out.only0 OZ.out) (holdsPc_nil _))
      · intro v hv a ha; have := OZ.out.size; have := z1.out; have := z2.out; simp only [List.mem_cons, List.not_mem_nil, or_false] at hv; rcases hv with rfl | rfl; (have := F1.out a ha; omega); (have := F2.out a ha; omega)
    · by_cases s2 : s = 2
      · subst s2
        clear s0 s1
        have QS := hid (show quarterN i 2 = [((i : Int), withinN x y 1 2 16), ((i : Int), withinN xx y 1 2 16)] from by subst hxx hyy hx hy; rfl)
        clear hx hy hi hxx hyy
        go_enter Tryd.func73, Tryd.ntmps73
        go_wp2_with fail
        refine (rwithin_any x y 1 2 _ (by omega) (by omega) (by omega) (by omega)).mono ?_
        rintro e q1 ⟨s1, rfl, row1, f1, o1⟩
        obtain ⟨a1, c1, rfl⟩ := row1.form
        obtain ⟨L1, hL1⟩ : ∃ L, L = withinN x y 1 2 16 := ⟨_, rfl⟩
        rw [← hL1] at row1 ⊢
        have E1 := hid hL1
        have F1 := hid (show ∀ a : Addr, a1 = some a → w.heap.size ≤ a.block ∧ a.block < q1.heap.size from fun a e => by subst e; exact ⟨Nat.le_trans (Nat.le_refl _) (f1 a.block (by simp [ownI, Value.ownBlock])), row1.lt a.block (by simp [ownI, Value.ownBlock])⟩)
        have z1 := hid o1.size
        clear f1
        have O1 := hid o1
        have H1 := hid row1.holds
        clear hL1 row1 o1
        go_wp2_with fail
        refine (rwithin_any xx y 1 2 _ (by omega) (by omega) (by omega) (by omega)).mono ?_
        rintro e q2 ⟨s2, rfl, row2, f2, o2⟩
        obtain ⟨a2, c2, rfl⟩ := row2.form
        obtain ⟨L2, hL2⟩ : ∃ L, L = withinN xx y 1 2 16 := ⟨_, rfl⟩
        rw [← hL2] at row2 ⊢
        have E2 := hid hL2
        have F2 := hid (show ∀ a : Addr, a2 = some a → w.heap.size ≤ a.block ∧ a.block < q2.heap.size from fun a e => by subst e; exact ⟨Nat.le_trans O1.out.size (f2 a.block (by simp [ownI, Value.ownBlock])), row2.lt a.block (by simp [ownI, Value.ownBlock])⟩)
        have z2 := hid o2.size
        clear f2
        have O2 := hid (O1.out.trans o2)
        have H1 := hid (H1.out.only0 o2)
        have H2 := hid row2.holds
        clear hL2 row2 o2
        have r := run_pc2 (((i : Int), a1, L1.length, c1) : PcV) (((i : Int), a2, L2.length, c2) : PcV) q2
        obtain ⟨Z, hZ⟩ : ∃ Z, Z = q2.alloc (.cells (cellsG pcC ([((i : Int), a1, L1.length, c1), ((i : Int), a2, L2.length, c2)] : List PcV)).toArray 93) := ⟨_, rfl⟩
        have hg := holdsG_lit pcC_ok q2 93 ([((i : Int), a1, L1.length, c1), ((i : Int), a2, L2.length, c2)] : List PcV) (by simp [maxLen])
        rw [← hZ] at r hg
        have oZ : Only [] q2 Z := hZ ▸ ((Only.refl [] q2).alloc _)
        have RN := hid r
        have HG := hid hg
        have OZ := hid oZ
        clear r hg oZ hZ
        go_wp2_with (refine wp_buildSlice rfl 88 2 #[(0, .tmp 42), (1, .tmp 48)] rfl #[(0, pcV (((i : Int), a1, L1.length, c1) : PcV)), (1, pcV (((i : Int), a2, L2.length, c2) : PcV))] (by kernel_rfl) _ RN.out ?_; simp only [Act.put, List.setIfInBounds_toArray, List.set_cons_zero, List.set_cons_succ])
        go_ret
        refine ⟨_, rfl, ⟨_, HG.out, ?_, ?_⟩, O2.out.trans OZ.out⟩
        · rw [QS.out]
          exact holdsPc_cons rfl (show HoldsI .i64 _ (.slice a1 L1.length c1) _ from by rw [← E1.out]; exact H1.out.only0 OZ.out) (holdsPc_cons rfl (show HoldsI .i64 _ (.slice a2 L2.length c2) _ from by rw [← E2.out]; exact H2.out.only0 OZ.out) (holdsPc_nil _))
        · intro v hv a ha; have := OZ.out.size; have := z1.out; have := z2.out; simp only [List.mem_cons, List.not_mem_nil, or_false] at hv; rcases hv with rfl | rfl; (have := F1.out a ha; omega); (have := F2.out a ha; omega)
      · have e0 : ((s : Int) == 0) = false := by simpa using s0
        have e1 : ((s : Int) == 1) = false := by simp; omega
        have e2 : ((s : Int) == 2) = false := by simp; omega
        have SN := hid (And.intro s0 (And.intro s1 s2))
        clear s0 s1 s2
        have QS := hid (show quarterN i s = [((i : Int), withinN x y 1 1 16), ((i : Int), withinN xx y 1 1 16), ((i : Int), withinN x yy 1 1 16), ((i : Int), withinN xx yy 1 1 16)] from by subst hxx hyy hx hy; unfold quarterN; rw [if_neg SN.out.1, if_neg SN.out.2.1, if_neg SN.out.2.2])
        clear hx hy hi hxx hyy
        go_enter Tryd.func73, Tryd.ntmps73
        go_wp2_with fail
        refine (rwithin_any x y 1 1 _ (by omega) (by omega) (by omega) (by omega)).mono ?_
        rintro e q1 ⟨s1, rfl, row1, f1, o1⟩
        obtain ⟨a1, c1, rfl⟩ := row1.form
        obtain ⟨L1, hL1⟩ : ∃ L, L = withinN x y 1 1 16 := ⟨_, rfl⟩
        rw [← hL1] at row1 ⊢
        have E1 := hid hL1
        have F1 := hid (show ∀ a : Addr, a1 = some a → w.heap.size ≤ a.block ∧ a.block < q1.heap.size from fun a e => by subst e; exact ⟨Nat.le_trans (Nat.le_refl _) (f1 a.block (by simp [ownI, Value.ownBlock])), row1.lt a.block (by simp [ownI, Value.ownBlock])⟩)
        have z1 := hid o1.size
        clear f1
        have O1 := hid o1
        have H1 := hid row1.holds
        clear hL1 row1 o1
        go_wp2_with fail
        refine (rwithin_any xx y 1 1 _ (by omega) (by omega) (by omega) (by omega)).mono ?_
        rintro e q2 ⟨s2, rfl, row2, f2, o2⟩
        obtain ⟨a2, c2, rfl⟩ := row2.form
        obtain ⟨L2, hL2⟩ : ∃ L, L = withinN xx y 1 1 16 := ⟨_, rfl⟩
        rw [← hL2] at row2 ⊢
        have E2 := hid hL2
        have F2 := hid (show ∀ a : Addr, a2 = some a → w.heap.size ≤ a.block ∧ a.block < q2.heap.size from fun a e => by subst e; exact ⟨Nat.le_trans O1.out.size (f2 a.block (by simp [ownI, Value.ownBlock])), row2.lt a.block (by simp [ownI, Value.ownBlock])⟩)
        have z2 := hid o2.size
        clear f2
        have O2 := hid (O1.out.trans o2)
        have H1 := hid (H1.out.only0 o2)
        have H2 := hid row2.holds
        clear hL2 row2 o2
        go_wp2_with fail
        refine (rwithin_any x yy 1 1 _ (by omega) (by omega) (by omega) (by omega)).mono ?_
        rintro e q3 ⟨s3, rfl, row3, f3, o3⟩
        obtain ⟨a3, c3, rfl⟩ := row3.form
        obtain ⟨L3, hL3⟩ : ∃ L, L = withinN x yy 1 1 16 := ⟨_, rfl⟩
        rw [← hL3] at row3 ⊢
        have E3 := hid hL3
        have F3 := hid (show ∀ a : Addr, a3 = some a → w.heap.size ≤ a.block ∧ a.block < q3.heap.size from fun a e => by subst e; exact ⟨Nat.le_trans O2.out.size (f3 a.block (by simp [ownI, Value.ownBlock])), row3.lt a.block (by simp [ownI, Value.ownBlock])⟩)
        have z3 := hid o3.size
        clear f3
        have O3 := hid (O2.out.trans o3)
        have H1 := hid (H1.out.only0 o3)
        have H2 := hid (H2.out.only0 o3)
        have H3 := hid row3.holds
        clear hL3 row3 o3
        go_wp2_with fail
        refine (rwithin_any xx yy 1 1 _ (by omega) (by omega) (by omega) (by omega)).mono ?_
        rintro e q4 ⟨s4, rfl, row4, f4, o4⟩
        obtain ⟨a4, c4, rfl⟩ := row4.form
        obtain ⟨L4, hL4⟩ : ∃ L, L = withinN xx yy 1 1 16 := ⟨_, rfl⟩
        rw [← hL4] at row4 ⊢
        have E4 := hid hL4
        have F4 := hid (show ∀ a : Addr, a4 = some a → w.heap.size ≤ a.block ∧ a.block < q4.heap.size from fun a e => by subst e; exact ⟨Nat.le_trans O3.out.size (f4 a.block (by simp [ownI, Value.ownBlock])), row4.lt a.block (by simp [ownI, Value.ownBlock])⟩)
        have z4 := hid o4.size
        clear f4
        have O4 := hid (O3.out.trans o4)
        have H1 := hid (H1.out.only0 o4)
        have H2 := hid (H2.out.only0 o4)
        have H3 := hid (H3.out.only0 o4)
        have H4 := hid row4.holds
        clear hL4 row4 o4
        have r := run_pc4 (((i : Int), a1, L1.length, c1) : PcV) (((i : Int), a2, L2.length, c2) : PcV) (((i : Int), a3, L3.length, c3) : PcV) (((i : Int), a4, L4.length, c4) : PcV) q4
        obtain ⟨Z, hZ⟩ : ∃ Z, Z = q4.alloc (.cells (cellsG pcC ([((i : Int), a1, L1.length, c1), ((i : Int), a2, L2.length, c2), ((i : Int), a3, L3.length, c3), ((i : Int), a4, L4.length, c4)] : List PcV)).toArray 93) := ⟨_, rfl⟩
        have hg := holdsG_lit pcC_ok q4 93 ([((i : Int), a1, L1.length, c1), ((i : Int), a2, L2.length, c2), ((i : Int), a3, L3.length, c3), ((i : Int), a4, L4.length, c4)] : List PcV) (by simp [maxLen])
        rw [← hZ] at r hg
        have oZ : Only [] q4 Z := hZ ▸ ((Only.refl [] q4).alloc _)
        have RN := hid r
        have HG := hid hg
        have OZ := hid oZ
        clear r hg oZ hZ
        go_wp2_with (refine wp_buildSlice rfl 88 4 #[(0, .tmp 54), (1, .tmp 60), (2, .tmp 66), (3, .tmp 73)] rfl #[(0, pcV (((i : Int), a1, L1.length, c1) : PcV)), (1, pcV (((i : Int), a2, L2.length, c2) : PcV)), (2, pcV (((i : Int), a3, L3.length, c3) : PcV)), (3, pcV (((i : Int), a4, L4.length, c4) : PcV))] (by kernel_rfl) _ RN.out ?_; simp only [Act.put, List.setIfInBounds_toArray, List.set_cons_zero, List.set_cons_succ])
        go_ret
        refine ⟨_, rfl, ⟨_, HG.out, ?_, ?_⟩, O4.out.trans OZ.out⟩
        · rw [QS.out]
          exact holdsPc_cons rfl (show HoldsI .i64 _ (.slice a1 L1.length c1) _ from by rw [← E1.out]; exact H1.out.only0 OZ.out) (holdsPc_cons rfl (show HoldsI .i64 _ (.slice a2 L2.length c2) _ from by rw [← E2.out]; exact H2.out.only0 OZ.out) (holdsPc_cons rfl (show HoldsI .i64 _ (.slice a3 L3.length c3) _ from by rw [← E3.out]; exact H3.out.only0 OZ.out) (holdsPc_cons rfl (show HoldsI .i64 _ (.slice a4 L4.length c4) _ from by rw [← E4.out]; exact H4.out.only0 OZ.out) (holdsPc_nil _))))
        · intro v hv a ha; have := OZ.out.size; have := z1.out; have := z2.out; have := z3.out; have := z4.out; simp only [List.mem_cons, List.not_mem_nil, or_false] at hv; rcases hv with rfl | rfl | rfl | rfl; (have := F1.out a ha; omega); (have := F2.out a ha; omega); (have := F3.out a ha; omega); (have := F4.out a ha; omega)
end Go.Proofs.YtpmmnjeomdjakaaDoor

end
section
set_option maxRecDepth 20000
namespace Go.Proofs.YtpmmnjeomdjakaaDoor
open Go.RowKit
set_option linter.unusedVariables false
set_option linter.unusedSimpArgs false

def qpre (s : List Nat) : Nat → List (Int × List Int)
  | 0 => []
  | i + 1 => qpre s i ++ quarterN i (s.getD i 0)
theorem all6_ok (a b c d : Nat) (h : a ≤ 3 ∧ b ≤ 3 ∧ c ≤ 3 ∧ d ≤ 3) : allN 6 [a, b, c, d] = (qpre [a, b, c, d] 4, 0) := by
  have h1 : ¬ 3 < a := by omega
  have h2 : ¬ 3 < b := by omega
  have h3 : ¬ 3 < c := by omega
  have h4 : ¬ 3 < d := by omega
  simp [allN, quartersN, qpre, h1, h2, h3, h4]
theorem all6_bad (a b c d : Nat) (h : 3 < a ∨ 3 < b ∨ 3 < c ∨ 3 < d) : allN 6 [a, b, c, d] = ([], 3) := by
  by_cases h1 : 3 < a
  · simp [allN, quartersN, h1]
  · by_cases h2 : 3 < b
    · simp [allN, quartersN, h1, h2]
    · by_cases h3 : 3 < c
      · simp [allN, quartersN, h1, h2, h3]
      · have h4 : 3 < d := by omega
        simp [allN, quartersN, h1, h2, h3, h4]
theorem quarterN_len (i s : Nat) : (quarterN i s).length ≤ 4 := by
  unfold quarterN
  dsimp only
  repeat' split
  all_goals simp
theorem qpre_len (s : List Nat) (i : Nat) : (qpre s i).length ≤ 4 * i := by
  induction i with
  | zero => simp [qpre]
  | succ i ih => have := quarterN_len i (s.getD i 0); simp only [qpre, List.length_append]; omega
/-- The four numbers as a value. -/
def subV (a b c d : Nat) : Value := .agg #[.int .u8 a, .int .u8 b, .int .u8 c, .int .u8 d]
/-- What All answers: the parts, and an error. -/
def AllP (w : World) (r : List (Int × List Int) × Int) (e : Ending) (w' : World) : Prop := ∃ sv, e = .returned (.tuple #[sv, .int .i64 r.2]) ∧ PcAt w.heap.size w' sv r.1 ∧ Only [] w w'
set_option maxRecDepth 100000 in
set_option maxHeartbeats 4000000 in
theorem rall_3 (s0 s1 s2 s3 : Nat) (w : World) : Calls Tryd.prog 71 #[.int .u8 3, subV s0 s1 s2 s3] w (AllP w (allN 3 [s0, s1, s2, s3])) := by
  have QS := hid (show allN 3 [s0, s1, s2, s3] = ([((0 : Int), withinN 0 0 4 4 16)], 0) from rfl)
  generalize allN 3 [s0, s1, s2, s3] = r at *
  have OW := hid ((Only.refl [] w).alloc (.cells #[.int .u8 s0, .int .u8 s1, .int .u8 s2, .int .u8 s3] 23))
  simp only [subV]
  go_enter Tryd.func71, Tryd.ntmps71
  go_upto_region 1 with (fail)
  generalize w.alloc _ = wb at *
  go_wp2_with fail
  refine (rwithin_any 0 0 4 4 _ (by omega) (by omega) (by omega) (by omega)).mono ?_
  rintro e q1 ⟨s1, rfl, row1, f1, o1⟩
  obtain ⟨a1, c1, rfl⟩ := row1.form
  obtain ⟨L1, hL1⟩ : ∃ L, L = withinN 0 0 4 4 16 := ⟨_, rfl⟩
  rw [← hL1] at row1 ⊢
  have E1 := hid hL1
  have F1 := hid (show ∀ a : Addr, a1 = some a → wb.heap.size ≤ a.block ∧ a.block < q1.heap.size from fun a e => by subst e; exact ⟨Nat.le_trans (Nat.le_refl _) (f1 a.block (by simp [ownI, Value.ownBlock])), row1.lt a.block (by simp [ownI, Value.ownBlock])⟩)
  have z1 := hid o1.size
  clear f1
  have O1 := hid o1
  have H1 := hid row1.holds
  clear hL1 row1 o1
  have r := run_pc1 ((0, a1, L1.length, c1) : PcV) q1
  obtain ⟨Z, hZ⟩ : ∃ Z, Z = q1.alloc (.cells (cellsG pcC ([(0, a1, L1.length, c1)] : List PcV)).toArray 93) := ⟨_, rfl⟩
  have hg := holdsG_lit pcC_ok q1 93 ([(0, a1, L1.length, c1)] : List PcV) (by simp [maxLen])
  rw [← hZ] at r hg
  have oZ : Only [] q1 Z := hZ ▸ ((Only.refl [] q1).alloc _)
  have RN := hid r
  have HG := hid hg
  have OZ := hid oZ
  clear r hg oZ hZ
  go_wp2_with (refine wp_buildSlice rfl 88 1 #[(0, .tmp 12)] rfl #[(0, pcV ((0, a1, L1.length, c1) : PcV))] (by kernel_rfl) _ RN.out ?_; simp only [Act.put, List.setIfInBounds_toArray, List.set_cons_zero, List.set_cons_succ])
  go_ret2
  rw [QS.out]
  refine ⟨_, rfl, ⟨_, HG.out, ?_, ?_⟩, OW.out.trans (O1.out.trans OZ.out)⟩
  · exact holdsPc_cons rfl (show HoldsI .i64 _ (.slice a1 L1.length c1) _ from by rw [← E1.out]; exact H1.out.only0 OZ.out) (holdsPc_nil _)
  · have := OW.out.size
    intro v hv a ha; have := OZ.out.size; have := z1.out; simp only [List.mem_cons, List.not_mem_nil, or_false] at hv; rcases hv with rfl; (have := F1.out a ha; omega)
set_option maxRecDepth 100000 in
set_option maxHeartbeats 4000000 in
theorem rall_4 (s0 s1 s2 s3 : Nat) (w : World) : Calls Tryd.prog 71 #[.int .u8 4, subV s0 s1 s2 s3] w (AllP w (allN 4 [s0, s1, s2, s3])) := by
  have QS := hid (show allN 4 [s0, s1, s2, s3] = ([((0 : Int), withinN 0 0 4 2 16), ((1 : Int), withinN 0 2 4 2 16)], 0) from rfl)
  generalize allN 4 [s0, s1, s2, s3] = r at *
  have OW := hid ((Only.refl [] w).alloc (.cells #[.int .u8 s0, .int .u8 s1, .int .u8 s2, .int .u8 s3] 23))
  simp only [subV]
  go_enter Tryd.func71, Tryd.ntmps71
  go_upto_region 1 with (fail)
  generalize w.alloc _ = wb at *
  go_wp2_with fail
  refine (rwithin_any 0 0 4 2 _ (by omega) (by omega) (by omega) (by omega)).mono ?_
  rintro e q1 ⟨s1, rfl, row1, f1, o1⟩
  obtain ⟨a1, c1, rfl⟩ := row1.form
  obtain ⟨L1, hL1⟩ : ∃ L, L = withinN 0 0 4 2 16 := ⟨_, rfl⟩
  rw [← hL1] at row1 ⊢
  have E1 := hid hL1
  have F1 := hid (show ∀ a : Addr, a1 = some a → wb.heap.size ≤ a.block ∧ a.block < q1.heap.size from fun a e => by subst e; exact ⟨Nat.le_trans (Nat.le_refl _) (f1 a.block (by simp [ownI, Value.ownBlock])), row1.lt a.block (by simp [ownI, Value.ownBlock])⟩)
  have z1 := hid o1.size
  clear f1
  have O1 := hid o1
  have H1 := hid row1.holds
  clear hL1 row1 o1
  go_wp2_with fail
  refine (rwithin_any 0 2 4 2 _ (by omega) (by omega) (by omega) (by omega)).mono ?_
  rintro e q2 ⟨s2, rfl, row2, f2, o2⟩
  obtain ⟨a2, c2, rfl⟩ := row2.form
  obtain ⟨L2, hL2⟩ : ∃ L, L = withinN 0 2 4 2 16 := ⟨_, rfl⟩
  rw [← hL2] at row2 ⊢
  have E2 := hid hL2
  have F2 := hid (show ∀ a : Addr, a2 = some a → wb.heap.size ≤ a.block ∧ a.block < q2.heap.size from fun a e => by subst e; exact ⟨Nat.le_trans O1.out.size (f2 a.block (by simp [ownI, Value.ownBlock])), row2.lt a.block (by simp [ownI, Value.ownBlock])⟩)
  have z2 := hid o2.size
  clear f2
  have O2 := hid (O1.out.trans o2)
  have H1 := hid (H1.out.only0 o2)
  have H2 := hid row2.holds
  clear hL2 row2 o2
  have r := run_pc2 ((0, a1, L1.length, c1) : PcV) ((1, a2, L2.length, c2) : PcV) q2
  obtain ⟨Z, hZ⟩ : ∃ Z, Z = q2.alloc (.cells (cellsG pcC ([(0, a1, L1.length, c1), (1, a2, L2.length, c2)] : List PcV)).toArray 93) := ⟨_, rfl⟩
  have hg := holdsG_lit pcC_ok q2 93 ([(0, a1, L1.length, c1), (1, a2, L2.length, c2)] : List PcV) (by simp [maxLen])
  rw [← hZ] at r hg
  have oZ : Only [] q2 Z := hZ ▸ ((Only.refl [] q2).alloc _)
  have RN := hid r
  have HG := hid hg
  have OZ := hid oZ
  clear r hg oZ hZ
  go_wp2_with (refine wp_buildSlice rfl 88 2 #[(0, .tmp 17), (1, .tmp 19)] rfl #[(0, pcV ((0, a1, L1.length, c1) : PcV)), (1, pcV ((1, a2, L2.length, c2) : PcV))] (by kernel_rfl) _ RN.out ?_; simp only [Act.put, List.setIfInBounds_toArray, List.set_cons_zero, List.set_cons_succ])
  go_ret2
  rw [QS.out]
  refine ⟨_, rfl, ⟨_, HG.out, ?_, ?_⟩, OW.out.trans (O2.out.trans OZ.out)⟩
  · exact holdsPc_cons rfl (show HoldsI .i64 _ (.slice a1 L1.length c1) _ from by rw [← E1.out]; exact H1.out.only0 OZ.out) (holdsPc_cons rfl (show HoldsI .i64 _ (.slice a2 L2.length c2) _ from by rw [← E2.out]; exact H2.out.only0 OZ.out) (holdsPc_nil _))
  · have := OW.out.size
    intro v hv a ha; have := OZ.out.size; have := z1.out; have := z2.out; simp only [List.mem_cons, List.not_mem_nil, or_false] at hv; rcases hv with rfl | rfl; (have := F1.out a ha; omega); (have := F2.out a ha; omega)
set_option maxRecDepth 100000 in
set_option maxHeartbeats 4000000 in
theorem rall_5 (s0 s1 s2 s3 : Nat) (w : World) : Calls Tryd.prog 71 #[.int .u8 5, subV s0 s1 s2 s3] w (AllP w (allN 5 [s0, s1, s2, s3])) := by
  have QS := hid (show allN 5 [s0, s1, s2, s3] = ([((0 : Int), withinN 0 0 2 4 16), ((1 : Int), withinN 2 0 2 4 16)], 0) from rfl)
  generalize allN 5 [s0, s1, s2, s3] = r at *
  have OW := hid ((Only.refl [] w).alloc (.cells #[.int .u8 s0, .int .u8 s1, .int .u8 s2, .int .u8 s3] 23))
  simp only [subV]
  go_enter Tryd.func71, Tryd.ntmps71
  go_upto_region 1 with (fail)
  generalize w.alloc _ = wb at *
  go_wp2_with fail
  refine (rwithin_any 0 0 2 4 _ (by omega) (by omega) (by omega) (by omega)).mono ?_
  rintro e q1 ⟨s1, rfl, row1, f1, o1⟩
  obtain ⟨a1, c1, rfl⟩ := row1.form
  obtain ⟨L1, hL1⟩ : ∃ L, L = withinN 0 0 2 4 16 := ⟨_, rfl⟩
  rw [← hL1] at row1 ⊢
  have E1 := hid hL1
  have F1 := hid (show ∀ a : Addr, a1 = some a → wb.heap.size ≤ a.block ∧ a.block < q1.heap.size from fun a e => by subst e; exact ⟨Nat.le_trans (Nat.le_refl _) (f1 a.block (by simp [ownI, Value.ownBlock])), row1.lt a.block (by simp [ownI, Value.ownBlock])⟩)
  have z1 := hid o1.size
  clear f1
  have O1 := hid o1
  have H1 := hid row1.holds
  clear hL1 row1 o1
  go_wp2_with fail
  refine (rwithin_any 2 0 2 4 _ (by omega) (by omega) (by omega) (by omega)).mono ?_
  rintro e q2 ⟨s2, rfl, row2, f2, o2⟩
  obtain ⟨a2, c2, rfl⟩ := row2.form
  obtain ⟨L2, hL2⟩ : ∃ L, L = withinN 2 0 2 4 16 := ⟨_, rfl⟩
  rw [← hL2] at row2 ⊢
  have E2 := hid hL2
  have F2 := hid (show ∀ a : Addr, a2 = some a → wb.heap.size ≤ a.block ∧ a.block < q2.heap.size from fun a e => by subst e; exact ⟨Nat.le_trans O1.out.size (f2 a.block (by simp [ownI, Value.ownBlock])), row2.lt a.block (by simp [ownI, Value.ownBlock])⟩)
  have z2 := hid o2.size
  clear f2
  have O2 := hid (O1.out.trans o2)
  have H1 := hid (H1.out.only0 o2)
  have H2 := hid row2.holds
  clear hL2 row2 o2
  have r := run_pc2 ((0, a1, L1.length, c1) : PcV) ((1, a2, L2.length, c2) : PcV) q2
  obtain ⟨Z, hZ⟩ : ∃ Z, Z = q2.alloc (.cells (cellsG pcC ([(0, a1, L1.length, c1), (1, a2, L2.length, c2)] : List PcV)).toArray 93) := ⟨_, rfl⟩
  have hg := holdsG_lit pcC_ok q2 93 ([(0, a1, L1.length, c1), (1, a2, L2.length, c2)] : List PcV) (by simp [maxLen])
  rw [← hZ] at r hg
  have oZ : Only [] q2 Z := hZ ▸ ((Only.refl [] q2).alloc _)
  have RN := hid r
  have HG := hid hg
  have OZ := hid oZ
  clear r hg oZ hZ
  go_wp2_with (refine wp_buildSlice rfl 88 2 #[(0, .tmp 24), (1, .tmp 26)] rfl #[(0, pcV ((0, a1, L1.length, c1) : PcV)), (1, pcV ((1, a2, L2.length, c2) : PcV))] (by kernel_rfl) _ RN.out ?_; simp only [Act.put, List.setIfInBounds_toArray, List.set_cons_zero, List.set_cons_succ])
  go_ret2
  rw [QS.out]
  refine ⟨_, rfl, ⟨_, HG.out, ?_, ?_⟩, OW.out.trans (O2.out.trans OZ.out)⟩
  · exact holdsPc_cons rfl (show HoldsI .i64 _ (.slice a1 L1.length c1) _ from by rw [← E1.out]; exact H1.out.only0 OZ.out) (holdsPc_cons rfl (show HoldsI .i64 _ (.slice a2 L2.length c2) _ from by rw [← E2.out]; exact H2.out.only0 OZ.out) (holdsPc_nil _))
  · have := OW.out.size
    intro v hv a ha; have := OZ.out.size; have := z1.out; have := z2.out; simp only [List.mem_cons, List.not_mem_nil, or_false] at hv; rcases hv with rfl | rfl; (have := F1.out a ha; omega); (have := F2.out a ha; omega)
set_option maxRecDepth 100000 in
set_option maxHeartbeats 4000000 in
theorem rall_no (k : Nat) (hk : k < 3 ∨ 6 < k) (s0 s1 s2 s3 : Nat) (w : World) : Calls Tryd.prog 71 #[.int .u8 k, subV s0 s1 s2 s3] w (AllP w (allN k [s0, s1, s2, s3])) := by
  have QS := hid (show allN k [s0, s1, s2, s3] = ([], 9) from by unfold allN; rw [if_neg (by omega), if_neg (by omega), if_neg (by omega), if_neg (by omega)])
  generalize allN k [s0, s1, s2, s3] = r at *
  have OW := hid ((Only.refl [] w).alloc (.cells #[.int .u8 s0, .int .u8 s1, .int .u8 s2, .int .u8 s3] 23))
  have e3 : ((k : Int) == 3) = false := by simp; omega
  have e4 : ((k : Int) == 4) = false := by simp; omega
  have e5 : ((k : Int) == 5) = false := by simp; omega
  have e6 : ((k : Int) == 6) = false := by simp; omega
  clear hk
  simp only [subV]
  go_enter Tryd.func71, Tryd.ntmps71
  go_wp2_with fail
  go_ret2
  rw [QS.out]
  exact ⟨.slice none 0 0, rfl, ⟨[], holdsG_none _, holdsPc_nil _, fun v hv => by simp at hv⟩, OW.out⟩
set_option maxRecDepth 100000 in
set_option maxHeartbeats 4000000 in
theorem rall_6 (s0 s1 s2 s3 : Nat) (w : World) : Calls Tryd.prog 71 #[.int .u8 6, subV s0 s1 s2 s3] w (AllP w (allN 6 [s0, s1, s2, s3])) := by
  obtain ⟨W, hW⟩ : ∃ W, W = w.alloc (.cells #[.int .u8 s0, .int .u8 s1, .int .u8 s2, .int .u8 s3] 23) := ⟨_, rfl⟩
  have oW := hid (show Only [] w W from hW ▸ ((Only.refl [] w).alloc _))
  have B := hid (show Blk W w.heap.size 23 #[.int .u8 s0, .int .u8 s1, .int .u8 s2, .int .u8 s3] from hW ▸ Blk.new w _ _)
  obtain ⟨X, hX⟩ : ∃ X, X = w.heap.size := ⟨_, rfl⟩
  rw [← hX] at B
  have HX := hid hX
  have WX := hid (show W.heap.size = X + 1 from by rw [hW, hX]; exact World.size_alloc _ _)
  obtain ⟨S, hS⟩ : ∃ S, S = [s0, s1, s2, s3] := ⟨_, rfl⟩
  have CE := hid (show ∀ i < 4, W.cell? ⟨X, i, none⟩ = some (.int .u8 (S.getD i 0 : Nat)) from fun i hi => by
    rw [hS]
    obtain rfl | rfl | rfl | rfl : i = 0 ∨ i = 1 ∨ i = 2 ∨ i = 3 := by omega
    all_goals exact B.out.cell rfl)
  have OK := hid (show ((∀ i < 4, S.getD i 0 ≤ 3) → allN 6 [s0, s1, s2, s3] = (qpre S 4, 0)) ∧ ((∃ i < 4, 3 < S.getD i 0) → allN 6 [s0, s1, s2, s3] = ([], 3)) from by
    rw [hS]
    refine ⟨fun h => all6_ok _ _ _ _ ⟨h 0 (by omega), h 1 (by omega), h 2 (by omega), h 3 (by omega)⟩, fun ⟨i, hi, h⟩ => all6_bad _ _ _ _ ?_⟩
    obtain rfl | rfl | rfl | rfl : i = 0 ∨ i = 1 ∨ i = 2 ∨ i = 3 := by omega
    all_goals simp at h
    · exact .inl h
    · exact .inr (.inl h)
    · exact .inr (.inr (.inl h))
    · exact .inr (.inr (.inr h)))
  have XL := hid B.out.lt
  generalize allN 6 [s0, s1, s2, s3] = r at *
  clear hS B
  simp only [subV]
  go_enter Tryd.func71, Tryd.ntmps71
  go_upto_region 1 with (fail)
  rw [← hW, ← hX]
  clear hW hX
  go_wp2_with fail
  go_loopg [6, 7] 4 (fun g sv t wr => ∃ (i : Nat) (vs : List PcV), i + g = 4 ∧ t = .int .i64 i ∧ RowG pcC 2 93 wr sv vs ∧ HoldsPc wr vs (qpre S i) ∧ NewPc (X + 1) wr vs ∧ (∀ v, v ∈ vs → ∀ a : Addr, v.2.1 = some a → a.block ∉ ownG sv) ∧ (∀ g, g ∈ ownG sv → X < g) ∧ (∀ j < i, S.getD j 0 ≤ 3) ∧ Only [] W wr)
  case atStart => exact ⟨0, [], rfl, rfl, RowG.nil W, holdsPc_nil W, fun v hv => by simp at hv, fun v hv => by simp at hv, by simp [ownG, Value.ownBlock], fun j hj => by omega, Only.refl [] W⟩
  case round =>
    obtain ⟨i, vs, hi, rfl, hR, hP, hN, hD, hO, hS, hW⟩ := hrel
    have RR := hid hR
    have PP := hid hP
    have NP := hid hN
    have DD := hid hD
    have OO := hid hO
    have SS := hid hS
    have WW := hid hW
    clear hR hP hN hD hO hS hW
    obtain ⟨sv, hsv⟩ : ∃ sv, sv = u6 := ⟨_, rfl⟩
    rw [← hsv] at RR DD OO ⊢
    clear hsv
    by_cases hg : gk = 0
    · have i1 : ¬ (i : Int) < 4 := by omega
      obtain rfl : i = 4 := by omega
      have RE := hid (OK.out.1 SS.out)
      clear hi hg
      go_wp2_with fail
      go_ret2
      rw [RE.out]
      exact ⟨_, rfl, ⟨vs, RR.out.holds pcC_ok, PP.out, fun v hv a ha => ⟨by have := (NP.out v hv a ha).1; have := HX.out; omega, (NP.out v hv a ha).2⟩⟩, oW.out.trans WW.out⟩
    · have i1 : (i : Int) < 4 := by omega
      have i0 : (0 : Int) ≤ (i : Int) := by omega
      obtain ⟨gg, rfl⟩ : ∃ gg, gk = gg + 1 := ⟨gk - 1, by omega⟩
      have IN := hid (show i + 1 + gg = 4 ∧ i < 4 by omega)
      have ce := WW.out.cell (CE.out i IN.out.2) (by simp)
      obtain ⟨s, hs⟩ : ∃ s, s = S.getD i 0 := ⟨_, rfl⟩
      rw [← hs] at ce
      have SE := hid hs
      have QL := hid (show (qpre S i).length + 4 ≤ 1000000 from by have := qpre_len S i; have := IN.out; omega)
      have VL := hid PP.out.1
      clear hi hg hs
      by_cases h3 : 3 < s
      · have e3 : (3 : Int) < (s : Int) := by omega
        have RE := hid (OK.out.2 ⟨i, IN.out.2, by rw [← SE.out]; exact h3⟩)
        clear h3
        go_wp2_with fail
        go_ret2
        rw [RE.out]
        exact ⟨.slice none 0 0, rfl, ⟨[], holdsG_none _, holdsPc_nil _, fun v hv => by simp at hv⟩, oW.out.trans WW.out⟩
      · have e3 : ¬ (3 : Int) < (s : Int) := by omega
        have S3 := hid h3
        clear h3
        go_wp2_with fail
        refine (rquarter_any i s IN.out.2 wr).mono ?_
        rintro e w2 ⟨sv2, rfl, ⟨us, h2, p2, n2⟩, o2⟩
        have R2 := RR.out.only o2 (by simp)
        obtain ⟨sv3, w3, hrun, hrow, honly, hown⟩ := append_rowsG (w := w2) pcC_ok pc_row sv sv2 vs us R2 h2 (by have := QL.out; have := VL.out; have := p2.1; have := quarterN_len i s; omega)
        obtain ⟨ua, uc, rfl, _⟩ := h2
        have RUN := hid hrun
        have ROW := hid hrow
        have far : ∀ v, v ∈ vs ++ us → ∀ a : Addr, v.2.1 = some a → a.block ∉ ownG sv := fun v hv a ha hm => by
          rcases List.mem_append.1 hv with h | h
          · exact DD.out v h a ha hm
          · have := (n2 v h a ha).1; have := RR.out.lt _ hm; omega
        have P3 := hid (show HoldsPc w3 (vs ++ us) (qpre S (i + 1)) from by
          have hh : HoldsPc w2 (vs ++ us) (qpre S (i + 1)) := by
            show HoldsPc w2 (vs ++ us) (qpre S i ++ quarterN i (S.getD i 0))
            rw [← SE.out]
            exact (PP.out.only0 o2).append p2
          refine ⟨hh.1, fun j v p hv hp => ⟨(hh.2 j v p hv hp).1, (hh.2 j v p hv hp).2.only honly (fun a m c e => ?_)⟩⟩
          unfold PcV.sl at e
          injection e with e1 e2 e3
          exact far v (List.mem_of_getElem? hv) a e1)
        have N3 := hid (show NewPc (X + 1) w3 (vs ++ us) from fun v hv a ha => by
          rcases List.mem_append.1 hv with h | h
          · exact ((NP.out.only o2).only honly) v h a ha
          · have q := n2 v h a ha; have := honly.size; have := WW.out.size; have := XL.out; exact ⟨by omega, by omega⟩)
        have D3 := hid (show ∀ v, v ∈ vs ++ us → ∀ a : Addr, v.2.1 = some a → a.block ∉ ownG sv3 from fun v hv a ha hm => by
          rcases hown _ hm with h | h
          · exact far v hv a ha h
          · rcases List.mem_append.1 hv with h' | h'
            · have := ((NP.out.only o2) v h' a ha).2; omega
            · have := (n2 v h' a ha).2; omega)
        have O3 := hid (show ∀ g, g ∈ ownG sv3 → X < g from fun g hg => by
          rcases hown g hg with h | h
          · exact OO.out g h
          · have := o2.size; have := WW.out.size; have := XL.out; omega)
        have W3 := hid (show Only [] W w3 from (WW.out.trans o2).trans2 honly (fun y hy => .inr (by have := OO.out y hy; have := WX.out; omega)))
        have S3' := hid (show ∀ j < i + 1, S.getD j 0 ≤ 3 from fun j hj => by
          by_cases e : j = i
          · rw [e, ← SE.out]; have := S3.out; omega
          · exact SS.out j (by omega))
        clear hrun hrow honly hown R2 p2 n2 o2 far
        go_wp2_with (at_builtin; refine wp_append_eq (by kernel_rfl) (.tmp 38) (.tmp 43) _ _ rfl sv _ sv3 w3 rfl rfl RUN.out ?_; simp only [Act.put, List.setIfInBounds_toArray, List.set_cons_zero, List.set_cons_succ])
        go_roundg gg
        case measure => omega
        case rel => exact ⟨i + 1, vs ++ us, IN.out.1, by go_num, ROW.out, P3.out, N3.out, D3.out, O3.out, S3'.out, W3.out⟩
theorem rall_any (k : Nat) (s0 s1 s2 s3 : Nat) (w : World) : Calls Tryd.prog 71 #[.int .u8 k, subV s0 s1 s2 s3] w (AllP w (allN k [s0, s1, s2, s3])) := by
  by_cases h3 : k = 3
  · subst h3; exact rall_3 s0 s1 s2 s3 w
  · by_cases h4 : k = 4
    · subst h4; exact rall_4 s0 s1 s2 s3 w
    · by_cases h5 : k = 5
      · subst h5; exact rall_5 s0 s1 s2 s3 w
      · by_cases h6 : k = 6
        · subst h6; exact rall_6 s0 s1 s2 s3 w
        · exact rall_no k (by omega) s0 s1 s2 s3 w
end Go.Proofs.YtpmmnjeomdjakaaDoor

end
section
set_option maxRecDepth 20000
namespace Go.Proofs.YtpmmnjeomdjakaaDoor
open Go.RowKit
set_option linter.unusedVariables false
set_option linter.unusedSimpArgs false

set_option maxRecDepth 100000 in
set_option maxHeartbeats 4000000 in
theorem rpieces_any (k : Nat) (s0 s1 s2 s3 : Nat) (w : World) : Calls Tryd.prog 70 #[.int .u8 k, subV s0 s1 s2 s3] w fun e w' => e = .returned (.tuple #[.int .i64 (piecesN k [s0, s1, s2, s3]).1, .int .i64 (piecesN k [s0, s1, s2, s3]).2]) ∧ Only [] w w' := by
  have RA := hid (fun w => rall_any k s0 s1 s2 s3 w)
  unfold piecesN
  generalize allN k [s0, s1, s2, s3] = r at *
  obtain ⟨W, hW⟩ : ∃ W, W = w.alloc (.cells #[.int .u8 s0, .int .u8 s1, .int .u8 s2, .int .u8 s3] 23) := ⟨_, rfl⟩
  have oW := hid (show Only [] w W from hW ▸ ((Only.refl [] w).alloc _))
  have B : Blk W w.heap.size 23 #[.int .u8 s0, .int .u8 s1, .int .u8 s2, .int .u8 s3] := hW ▸ Blk.new w _ _
  obtain ⟨X, hX⟩ : ∃ X, X = w.heap.size := ⟨_, rfl⟩
  rw [← hX] at B
  have c0 := B.cell (i := 0) (v := .int .u8 s0) rfl
  have c1 := B.cell (i := 1) (v := .int .u8 s1) rfl
  have c2 := B.cell (i := 2) (v := .int .u8 s2) rfl
  have c3 := B.cell (i := 3) (v := .int .u8 s3) rfl
  clear B
  simp only [subV] at RA ⊢
  go_enter Tryd.func70, Tryd.ntmps70
  go_upto_region 1 with (fail)
  rw [← hW, ← hX]
  clear hW hX
  go_wp2_with fail
  refine (RA.out W).mono ?_
  rintro e w1 ⟨sv, rfl, ⟨vs, hg, hp, _⟩, o1⟩
  obtain ⟨a, c, rfl, _⟩ := hg
  have VL := hp.1
  rw [VL]
  have O1 := hid o1
  clear o1 hp c0 c1 c2 c3 VL
  go_wp2_with fail
  go_ret2
  exact ⟨rfl, oW.out.trans O1.out⟩
/-- What one answers: a part, and an error. -/
def OneP (w : World) (r : (Int × List Int) × Int) (e : Ending) (w' : World) : Prop := ∃ x : PcV, e = .returned (.tuple #[pcV x, .int .i64 r.2]) ∧ x.1 = r.1.1 ∧ HoldsI .i64 w' x.sl r.1.2 ∧ Only [] w w'
theorem lv_pc {w : World} {k : Nat} {T : TypeId} {x : PcV} (h : Blk w k T (pcC x).toArray) : (loadVar 93 ⟨k, 0, none⟩).run Tryd.prog w = .ok (pcV x) w := by
  have hl := run_loadCells_list (P := Tryd.prog) w ⟨k, 0, none⟩ (pcC x) (fun j v hj => by rw [add_off, Nat.zero_add]; exact h.cell (by simpa using hj))
  rw [show (pcC x).length = 2 from rfl] at hl
  simp only [loadVar]
  simp [hl, pcV]
theorem info_pc (x : PcV) : (Tryd.prog.info? 93).map (·.size) = some (pcC x).length := by
  show _ = some 2
  kernel_rfl
end Go.Proofs.YtpmmnjeomdjakaaDoor

end

/- SetsExamples: the walk. -/
import Derived.Test.YtkcjehajmofhfaaGMatchesW
import Derived.Test.YtkcjehajmofhfaaRoom
import Derived.Test.YtkcjehajmofhfaaSeN
import Derived.Lib.AppendZeros
namespace Go.Proofs.Ytkcjehajmofhfaa
open Go.RowKit Go.Maps
set_option linter.unusedVariables false

theorem act_row : RowType Try.prog 22 32 (.agg #[.int .u8 0, .int .u8 0, .int .u8 0, .int .u8 0, .int .i64 0, .int .i64 0, .int .i64 0, .int .i64 0, .int .i64 0, .int .i64 0, .int .i64 0, .int .i64 0, .bool false, .int .i64 0, .int .i64 0, .int .i64 0, .int .i64 0, .int .i64 0, .bool false, .bool false, .int .i64 0]) 21 144 := ⟨by kernel_rfl, by kernel_rfl, rfl, by omega⟩
theorem OksA.append {a b : List AV} (ha : OksA a) (hb : OksA b) : OksA (a ++ b) := fun j x hx => by
  by_cases h : j < a.length
  · rw [List.getElem?_append_left h] at hx; exact ha j x hx
  · rw [List.getElem?_append_right (by omega)] at hx; exact hb _ x hx
theorem OksA.drop {a : List AV} (ha : OksA a) (k : Nat) : OksA (a.drop k) := fun j x hx => by
  rw [List.getElem?_drop] at hx; exact ha _ x hx
theorem oks3 (a b c : AV) (ha : a.wh = 0) (hb : b.wh = 1) (hc : c.wh = 2) : OksA [a, b, c] := fun j x hx => by
  match j, hx with
  | 0, hx => cases hx; omega
  | 1, hx => cases hx; omega
  | 2, hx => cases hx; omega
/-- Three calls more. -/
theorem append3 {w : World} {sv : Value} {L : List AV} (R : RowG aCl 21 32 w sv L) (a b c : AV) (hl : L.length ≤ 1000) :
    ∃ sv2 w2, (Builtin.append_ #[22, 22] 22 #[sv, .slice (some ⟨w.heap.size, 0, none⟩) 3 3]).run Try.prog (w.alloc (.cells (cellsG aCl [a, b, c]).toArray 32)) = .ok sv2 w2 ∧ RowG aCl 21 32 w2 sv2 (L ++ [a, b, c]) ∧ Only (ownG sv) w w2 ∧ ∀ g, g ∈ ownG sv2 → g ∈ ownG sv ∨ w.heap.size ≤ g := by
  have ra : Only [] w (w.alloc (.cells (cellsG aCl [a, b, c]).toArray 32)) := (Only.refl [] w).alloc _
  have add : ∀ k : Nat, (⟨w.heap.size, 0, none⟩ : Addr).add k = ⟨w.heap.size, 0 + k, none⟩ := fun k => by cases k <;> simp [Addr.add]
  obtain ⟨sv2, w2, hrun, hrow, honly, hown⟩ := run_append_g (w := w.alloc (.cells (cellsG aCl [a, b, c]).toArray 32)) aCl_ok act_row sv L (R.only ra (by simp)) ⟨w.heap.size, 0, none⟩ 3 [a, b, c] (fun j u hj => by
    rw [add, World.cell?_alloc_new, Nat.zero_add]
    simpa using hj) (by simp; omega)
  refine ⟨sv2, w2, hrun, hrow, (ra.mono (fun _ _ h => by cases h)).trans honly, fun g hg => ?_⟩
  rcases hown g hg with e | e
  · exact .inl e
  · exact .inr (by simp at e; omega)
def sE (t : Int) : SV := ⟨77, 0, 10, t, 4, 4, 1, 1, 1⟩
def pE (t : Int) : PV := ⟨31 - t, t.tdiv 2, false, 1, 1, 0, 0, 0, false, false⟩
/-- The calls that a law has collected. -/
def Col (W w : World) (sv : Value) (n : Nat) : Prop := ∃ L, RowG aCl 21 32 w sv L ∧ OksA L ∧ L.length = n ∧ (∀ g, g ∈ ownG sv → W.heap.size ≤ g) ∧ Only [] W w

def bnd : Nat → Nat
  | 0 => 200
  | n + 1 => 2 * bnd n
theorem bnd2 {j : Nat} (h : j < 2) : bnd j ≤ 400 := by
  obtain rfl | rfl : j = 0 ∨ j = 1 := by omega
  · decide
  · decide
/-- .. in a block with room behind them. -/
def Colr (W w : World) (sv : Value) (n : Nat) : Prop := ∃ L b, RoomG aCl 21 w b sv L ∧ OksA L ∧ 105 ≤ L.length ∧ L.length ≤ n ∧ W.heap.size ≤ b ∧ Only [] W w
theorem Col.room {W w : World} {sv : Value} (h : Col W w sv 105) : Colr W w sv 200 := by
  obtain ⟨L, hR, hk, hn, hg, ho⟩ := h
  obtain ⟨b, hb, hr⟩ := hR.room aCl_ok (by intro e; rw [e] at hn; simp at hn)
  exact ⟨L, b, hr, hk, by omega, by omega, hg b hb, ho⟩
set_option maxRecDepth 100000 in
set_option maxHeartbeats 16000000 in
theorem setsExamples_walk (W : World) : Calls Try.prog 4 #[] W fun e w' => e = .returned (.bool true) ∧ Only [] W w' := by
  go_enter Try.func4, Try.ntmps4
  go_upto_block 0 with fail
  have X0 := hid (show Col W W (.slice none 0 0) 0 from ⟨[], RowG.nil _, fun j x h => by simp at h, rfl, fun g h => by simp [ownG, Value.ownBlock] at h, Only.refl _ _⟩)
  go_cut [1, 2, 3, 4] from 10 to 32 (fun v1 _ _ _ wx => Col W wx v1 105)
  case first =>
    go_wp2_with fail
    go_loopg [1, 2] 35 (fun g v1 t wr => ∃ (k : Nat) (t0 : Int), k + g = 35 ∧ t = .int .i64 t0 ∧ t0 = (k : Int) - 1 ∧ Col W wr v1 (3 * k))
    case atStart => exact ⟨0, -1, by omega, rfl, rfl, X0.out⟩
    case round =>
      obtain ⟨k, t0, hk, rfl, ht, hC⟩ := hrel
      have XC := hid hC
      clear hC
      by_cases hg : gk = 0
      · have i1 : ¬ t0 < 34 := by omega
        have XE := hid (show Col W wr u1 105 from by have a := XC.out; rw [show 3 * k = 105 by omega] at a; exact a)
        clear hk ht hg
        go_wp2_with fail
        go_meet
        exact XE.out
      · have i1 : t0 < 34 := by omega
        have i0 : -1 ≤ t0 := by omega
        obtain ⟨gg, rfl⟩ : ∃ gg, gk = gg + 1 := ⟨gk - 1, by omega⟩
        have JN := hid (show k + 1 + gg = 35 ∧ t0 = (k : Int) - 1 by omega)
        clear hk ht hg
        go_wp2_with fail
        refine (plain6_any _).mono ?_
        rintro e wa ⟨rfl, oa⟩
        have OA := hid oa
        clear oa
        go_wp2_with fail
        refine (plain7_any _).mono ?_
        rintro e wb ⟨rfl, ob⟩
        have OB := hid (OA.out.trans ob)
        clear ob OA
        go_upto_region 7 with (fail)
        generalize hw5 : (wb.alloc _).alloc _ = w5
        have O5 := hid (show Only [] W w5 → True from fun _ => trivial)
        have OW := hid (show Only [] wr w5 from hw5 ▸ (OB.out.alloc _).alloc _)
        have SA := hid (show SAt w5 wb.heap.size 0 (sE t0) from hw5 ▸ ((SAt.new wb (sE t0) 28).only ((Only.refl [] _).alloc _) (by simp)))
        have PA := hid (show PAt w5 (wb.heap.size + 1) 0 (pE t0) from hw5 ▸ (by have a := PAt.new (wb.alloc (.cells (sC (sE t0)) 28)) (pE t0) 30; rw [show (wb.alloc (.cells (sC (sE t0)) 28)).heap.size = wb.heap.size + 1 from by simp] at a; exact a))
        generalize wb.heap.size = D at SA PA ⊢
        clear hw5 O5
        obtain ⟨a0, a1, a2, a3, a4, a5, a6, a7, a8⟩ := SA.out.all
        obtain ⟨b0, b1, b2, b3, b4, b5, b6, b7, b8, b9⟩ := PA.out.all
        obtain ⟨L, hR, hk, hn, hg, ho⟩ := XC.out
        obtain ⟨sv, w6, hrun, hrow, honly, hown⟩ := append3 (hR.only OW.out (by simp)) ⟨0, sE t0, p0, 0⟩ ⟨1, s0, pE t0, 0⟩ ⟨2, s0, p0, t0⟩ (by have := JN.out; omega)
        have XN := hid (show Col W w6 sv (3 * (k + 1)) from ⟨_, hrow, hk.append (oks3 _ _ _ rfl rfl rfl), by simp; omega, fun g h => (hown g h).elim (hg g) (fun e => Nat.le_trans (ho.trans OW.out).size e), (ho.trans OW.out).trans2 honly (fun x hx => .inr (hg x hx))⟩)
        clear hR hk hn hg ho hrow honly hown XC
        go_wp2_with (at_builtin; refine Lib.wpList_append_run _ rfl _ _ _ _ rfl _ _ rfl rfl _ _ hrun ?_)
        go_roundg gg
        case measure => omega
        case rel => exact ⟨k + 1, t0 + 1, JN.out.1, rfl, by have := JN.out; omega, XN.out⟩
  case rest =>
  have X1 := hid hcut
  clear hcut X0
  go_upto_block 2 with fail
  go_cut [1, 5] from 33 to 49 (fun _ _ wx => Only [] W wx)
  case first =>
    go_wp2_with fail
    go_loopg [1, 5] 2 (fun g v1 t wr => ∃ j : Nat, j + g = 2 ∧ t = .int .i64 j ∧ Colr W wr v1 (bnd j))
    case atStart => exact ⟨0, by omega, rfl, X1.out.room⟩
    case round =>
      obtain ⟨j, hj, rfl, hC⟩ := hrel
      have XC := hid hC
      clear hC
      by_cases hg : gk = 0
      · have i1 : ¬ (j : Int) < 2 := by omega
        clear hj hg
        go_wp2_with fail
        go_meet
        obtain ⟨_, _, _, _, _, _, _, o⟩ := XC.out
        exact o
      · have i1 : (j : Int) < 2 := by omega
        obtain ⟨gg, rfl⟩ : ∃ gg, gk = gg + 1 := ⟨gk - 1, by omega⟩
        have JN := hid (show j + 1 + gg = 2 by omega)
        clear hj hg
        obtain ⟨L, b, hR, hk, h1, h2, h3, h4⟩ := XC.out
        have HR := hid hR
        have HK := hid hk
        have HO := hid (And.intro h3 h4)
        have hn : L.length ≤ 400 := Nat.le_trans h2 (bnd2 (by have := JN.out; omega))
        have HN := hid (And.intro h1 (And.intro h2 hn))
        obtain ⟨o, c, rfl, c1, c2, _⟩ := hR
        have q0 : (105 : Int) ≤ (L.length : Int) := by omega
        have q1 : (L.length : Int) ≤ (c : Int) := by omega
        have q2 : (c : Int) ≤ 9223372036854775807 := by unfold maxLen at c2; omega
        have q3 : (50 : Int) < (c : Int) := by omega
        have q4 : (60 : Int) < (c : Int) := by omega
        have n3 : 50 < c := by omega
        have n4 : 60 < c := by omega
        clear hk h1 h2 h3 h4 hn c1 c2 XC
        go_wp2_with fail
        refine (setsMatches_walk _ _ L HR.out.holds HK.out).mono ?_
        rintro e wa ⟨rfl, oa⟩
        have RA := hid (HR.out.only oa (by simp))
        have OA := hid (HO.out.2.trans oa)
        clear oa
        go_wp2_with fail
        refine (setsMatches_walk _ _ (L.drop 50) (RoomG.drop RA.out 50 (by have := HN.out.1; omega)).holds (HK.out.drop 50)).mono ?_
        rintro e wb ⟨rfl, ob⟩
        have RB := hid (RA.out.only ob (by simp))
        have OB := hid (OA.out.trans ob)
        clear ob RA OA
        obtain ⟨sv, w6, g, hrun, hroom, honly, hg⟩ := RoomG.append aCl_ok act_row (RoomG.drop RB.out 60 (by have := HN.out.1; omega)) RB.out.holds (by intro e; have := HN.out.1; rw [e] at this; simp at this) (by rw [List.length_drop]; have := HN.out.2.2; omega)
        have hrun2 : (Builtin.append_ #[22, 22] 22 #[.slice (some ⟨b, o + 1260, none⟩) (L.length - 60) (c - 60), .slice (some ⟨b, o, none⟩) L.length c]).run Try.prog wb = .ok sv w6 := hrun
        have XN := hid (show Colr W w6 sv (bnd (j + 1)) from ⟨_, g, hroom, (HK.out.drop 60).append HK.out, by have := HN.out.1; simp; omega, by have := HN.out.2.1; simp [bnd]; omega, by have := HO.out.1; have := OB.out.size; omega, OB.out.trans2 honly (fun x hx => .inr (by rw [List.mem_singleton.1 hx]; exact HO.out.1))⟩)
        clear hrun hroom honly hg
        go_wp2_with (at_builtin; refine Lib.wpList_append_run _ rfl _ _ _ _ rfl _ _ rfl rfl _ _ hrun2 ?_)
        go_roundg gg
        case measure => omega
        case rel => exact ⟨j + 1, JN.out, by go_num, XN.out⟩
  case rest =>
  have OF := hid hcut
  clear hcut X1
  go_wp2_with fail
  refine (get_nil 0 _).mono ?_
  rintro e w1 ⟨rfl, o1⟩
  have O1 := hid (OF.out.trans o1)
  clear o1
  go_wp2_with fail
  refine (plain6_any _).mono ?_
  rintro e w2 ⟨rfl, o2⟩
  have O2 := hid (((O1.out.alloc _).alloc _).trans o2)
  clear o2
  go_wp2_with fail
  refine (puts_none plainS _).mono ?_
  rintro e w3 ⟨rfl, o3⟩
  have O3 := hid (O2.out.trans o3)
  clear o3
  go_wp2_with fail
  refine (plain7_any _).mono ?_
  rintro e w4 ⟨rfl, o4⟩
  have O4 := hid (O3.out.trans o4)
  clear o4
  go_wp2_with fail
  refine (putp_none plainP _).mono ?_
  rintro e w5 ⟨rfl, o5⟩
  have O5 := hid (O4.out.trans o5)
  clear o5
  go_wp2_with fail
  refine (copy_nil _).mono ?_
  rintro e w6 ⟨rfl, o6⟩
  have O6 := hid (O5.out.trans o6)
  clear o6
  go_wp2_with fail
  refine (awake_any _).mono ?_
  rintro e w7 ⟨rfl, o7⟩
  have O7 := hid (O6.out.trans o7)
  clear o7
  go_wp2_with fail
  go_ret
  exact ⟨rfl, O7.out⟩
end Go.Proofs.Ytkcjehajmofhfaa

/- The laws' helpers: valid commands out of any. -/
import Derived.Test.YtojahafmfcfpaaaGreatDoorHmA
namespace Go.Proofs.YtojahafmfcfpaaaGreatDoor
open Go.RowKit
set_option linter.unusedVariables false
set_option linter.unusedSimpArgs false

theorem i64_and20 (n : Int) : bits .and .i64 n 1048575 = n % 1048576 := i64_mask n 20 (by decide)
theorem listed_no (m : Bool) (a : Value) (w : World) :
    Calls Tryz.prog 85 #[.bool false, .bool m, a] w fun e w' => e = .returned (.slice none 0 0) ∧ Only [] w w' := by
  go_enter Tryz.func85, Tryz.ntmps85
  go_wp2_with fail
  go_loopg [7, 8] 0 (fun g o t wr => o = .slice none 0 0 ∧ t = .int .i64 0 ∧ wr = w)
  case atStart => exact ⟨rfl, rfl, rfl⟩
  case round =>
    obtain ⟨rfl, rfl, rfl⟩ := hrel
    go_wp2_with fail
    go_ret
    exact ⟨rfl, Only.refl _ _⟩
set_option maxRecDepth 100000 in
set_option maxHeartbeats 1500000 in
theorem listed_yes (m : Bool) (a : Value) (l : List (Int × Int × Int)) (w : World) (ha : HoldsM w a l) (hk : OksM l) :
    Calls Tryz.prog 85 #[.bool true, .bool m, a] w fun e w' => ∃ sv, e = .returned sv ∧ RowM w' sv (cmdsM true m l) ∧ Only [] w w' ∧ ∀ g, g ∈ ownOf sv → w.heap.size ≤ g := by
  have HA := hid ha
  have HK := hid hk
  obtain ⟨a, c, rfl, hc1, hc2, _⟩ := ha
  have hb : (l.length : Int) ≤ 9223372036854775807 := by unfold maxLen at hc2; omega
  obtain ⟨n, hn⟩ : ∃ n, n = min l.length 20 := ⟨_, rfl⟩
  have hn1 : (n : Int) ≤ 20 := by omega
  have hn2 : (n : Int) ≤ (l.length : Int) := by omega
  have NN := hid (show (n = l.length ∧ n ≤ 20) ∨ (n = 20 ∧ 20 ≤ l.length) by omega)
  have TN := hid (show l.take 20 = l.take n by rw [hn, List.take_eq_take_iff]; omega)
  have L0 := hid (show (0 : Int) ≤ (l.length : Int) by omega)
  clear hn hc1 hc2 hk
  have M20 := i64_and20
  go_enter Tryz.func85, Tryz.ntmps85
  go_wp2_with fail
  go_loopg [7, 8] n (fun g out t wr => ∃ i : Nat, i + g = n ∧ t = .int .i64 i ∧ RowM wr out ((l.take i).map (cmdM m)) ∧ Only [] w wr ∧ ∀ g, g ∈ ownOf out → w.heap.size ≤ g)
  case atStart => exact ⟨0, by omega, rfl, RowM.nil _, Only.refl _ _, by simp [ownOf, Value.ownBlock]⟩
  case round =>
    obtain ⟨i, hi, rfl, hR, hO, hw⟩ := hrel
    have R := hid hR
    have O := hid hO
    have OW := hid hw
    clear hR hO hw
    have i0 : (0 : Int) ≤ (i : Int) := by omega
    have i66 : (i : Int) ≤ 20 := by omega
    by_cases hg : gk = 0
    · obtain rfl : i = n := by omega
      have E := hid (show (l.take i).map (cmdM m) = cmdsM true m l by unfold cmdsM; rw [if_pos rfl, TN.out])
      rcases NN.out with ⟨h1, h2⟩ | ⟨h1, h2⟩
      · have g1 : ¬ (i : Int) < (l.length : Int) := by omega
        clear hi hg
        go_wp2_with fail
        go_ret
        exact ⟨_, rfl, E.out ▸ R.out, O.out, OW.out⟩
      · have g1 : ¬ (i : Int) < 20 := by omega
        by_cases h3 : (i : Int) < (l.length : Int)
        · clear hi hg h2
          go_wp2_with fail
          go_ret
          exact ⟨_, rfl, E.out ▸ R.out, O.out, OW.out⟩
        · clear hi hg h2
          go_wp2_with fail
          go_ret
          exact ⟨_, rfl, E.out ▸ R.out, O.out, OW.out⟩
    · have g1 : (i : Int) < (l.length : Int) := by omega
      have g2 : (i : Int) < 20 := by omega
      obtain ⟨g, rfl⟩ : ∃ g, gk = g + 1 := ⟨gk - 1, by omega⟩
      obtain ⟨x, X, T1⟩ := take_oneM l i (by omega)
      have TT := hid (show (l.take (i + 1)).map (cmdM m) = (l.take i).map (cmdM m) ++ [cmdM m x] by rw [T1, List.map_append]; rfl)
      obtain ⟨⟨o0, o1⟩, ⟨p0, p1⟩, ⟨q0, q1⟩⟩ := HK.out i x X
      obtain ⟨xb, xo, rfl, hx⟩ := HA.out.at X
      obtain ⟨x0, x1, x2⟩ := hx.only O.out (by simp)
      have IG := hid (show i + 1 + g = n by omega)
      obtain ⟨op, A, B⟩ := x
      dsimp only at *
      have hA : ∀ o, Only [] wr (wr.alloc o) := fun o => (Only.refl [] wr).alloc o
      have z0 : ∀ o, (wr.alloc o).cell? ⟨xb, xo + i * 3, none⟩ = some (.int .u8 op) := fun o => (hA o).cell x0 (by simp)
      have z1 : ∀ o, (wr.alloc o).cell? ⟨xb, xo + i * 3 + 1, none⟩ = some (.int .i64 A) := fun o => (hA o).cell x1 (by simp)
      clear hi hg hx X T1 hA
      go_wp2_with fail
      go_region
      all_goals
        generalize hw2 : World.drew _ = w2
        have O2 := hid (show Only [] wr w2 from hw2 ▸ ((Only.refl [] wr).alloc _).drew)
        obtain ⟨M, hM⟩ : ∃ M, M = wr.heap.size := ⟨_, rfl⟩
        have c0 : w2.cell? ⟨M, 0, none⟩ = some (.int .u8 (op % 3)) := by rw [← hw2, hM]; simp
        have c1 : w2.cell? ⟨M, 1, none⟩ = some (.int .i64 (A % 1048576)) := by rw [← hw2, hM]; simp
        have c2 : w2.cell? ⟨M, 2, none⟩ = some (.int .i64 0) := by rw [← hw2, hM]; simp
        have f0 : w2.frozen? ⟨M, 0, none⟩ = false := by rw [← hw2, hM]; simp
        have R2 := hid (R.out.only O2.out (by simp))
        have OO := hid (O.out.trans O2.out)
        have MG := hid (show (∀ g, g ∈ ownOf u7 → g ≠ M) ∧ w.heap.size ≤ M by rw [hM]; exact ⟨fun g hg e => by have := R.out.lt g hg; omega, O.out.size⟩)
        rw [← hM]
        have x0' := O2.out.cell x0 (by simp)
        have hxM : xb ≠ M := by rw [hM]; have := World.block_lt_of_cell? _ _ x0; exact Nat.ne_of_lt this
        clear hw2 hM z0 z1 x0 x1 x2 R O O2
        cases m with
        | false =>
          obtain ⟨sv2, w9, hrun, hrow, honly, hown⟩ := append_mod w2 u7 ((l.take i).map (cmdM false)) (op % 3, A % 1048576, 0) R2.out (by rw [List.length_map, List.length_take]; omega)
          have F := hid (⟨hrow, honly, hown⟩ : _ ∧ _ ∧ _)
          dsimp only at hrun
          clear hrow honly hown
          go_wp2_with (at_builtin; refine Lib.wpList_append_run _ rfl _ _ _ _ rfl _ _ rfl rfl _ _ hrun ?_)
          go_roundg g
          case measure => omega
          case rel =>
            obtain ⟨hrow, honly, hown⟩ := F.out
            refine ⟨i + 1, IG.out, by go_num, by rw [TT.out]; exact hrow, OO.out.trans2 honly (fun y hy => .inr (OW.out y hy)), fun y hy => ?_⟩
            rcases hown y hy with e | e
            · exact OW.out y e
            · exact Nat.le_trans OO.out.size e
        | true =>
          have OM : Only [M] w2 (w2.setCell ⟨M, 0, none⟩ (.int .u8 (1 + op % 2))) := (Only.refl [M] _).setCell (.inl (by simp)) _
          have R3 := hid (R2.out.only OM (fun g hg => by simp; exact MG.out.1 g hg))
          have O3 := hid (OO.out.trans2 OM (fun y hy => .inr (by rw [List.mem_singleton.1 hy]; exact MG.out.2)))
          have TX := hid (show (l.take (i + 1)).map (cmdM true) = (l.take i).map (cmdM true) ++ [(1 + op % 2, A % 1048576, 0)] by rw [TT.out]; rfl)
          obtain ⟨sv2, w9, hrun, hrow, honly, hown⟩ := append_mod (w2.setCell ⟨M, 0, none⟩ (.int .u8 (1 + op % 2))) u7 ((l.take i).map (cmdM true)) (1 + op % 2, A % 1048576, 0) R3.out (by rw [List.length_map, List.length_take]; omega)
          have F := hid (⟨hrow, honly, hown⟩ : _ ∧ _ ∧ _)
          have HZ : (w2.setCell ⟨M, 0, none⟩ (.int .u8 (1 + op % 2))).heap.size = w2.heap.size := by simp
          rw [HZ] at hrun
          dsimp only at hrun
          clear hrow honly hown OM HZ
          go_wp2_with (at_builtin; refine Lib.wpList_append_run _ rfl _ _ _ _ rfl _ _ rfl rfl _ _ hrun ?_)
          go_roundg g
          case measure => omega
          case rel =>
            obtain ⟨hrow, honly, hown⟩ := F.out
            refine ⟨i + 1, IG.out, by go_num, by rw [TX.out]; exact hrow, O3.out.trans2 honly (fun y hy => .inr (OW.out y hy)), fun y hy => ?_⟩
            rcases hown y hy with e | e
            · exact OW.out y e
            · exact Nat.le_trans O3.out.size e
theorem listed_any (has m : Bool) (a : Value) (l : List (Int × Int × Int)) (w : World) (ha : HoldsM w a l) (hk : OksM l) :
    Calls Tryz.prog 85 #[.bool has, .bool m, a] w fun e w' => ∃ sv, e = .returned sv ∧ RowM w' sv (cmdsM has m l) ∧ Only [] w w' ∧ ∀ g, g ∈ ownOf sv → w.heap.size ≤ g := by
  cases has
  · exact (listed_no m a w).mono fun e w' ⟨h1, h2⟩ => ⟨_, h1, RowM.nil _, h2, by simp [ownOf, Value.ownBlock]⟩
  · exact listed_yes m a l w ha hk
end Go.Proofs.YtojahafmfcfpaaaGreatDoor

/- The laws' own valid: valid commands out of any. -/
import Derived.Test.YtdkmeldcpamnnaaDoorMkB
import Derived.Laws.Bits128
namespace Go.Proofs.YtdkmeldcpamnnaaDoor
open Go.RowKit
set_option linter.unusedVariables false

theorem i64_mask (n : Int) (k : Nat) (hk : k ≤ 62) : bits .and .i64 n ((2 ^ k - 1 : Nat) : Int) = n % ((2 ^ k : Nat) : Int) := by
  have pk : 2 ^ k ≤ 2 ^ 62 := Nat.pow_le_pow_right (by omega) hk
  have p62 : (2 : Nat) ^ 62 = 4611686018427387904 := by decide
  have p64 : (2 : Nat) ^ 64 = 18446744073709551616 := by decide
  have p0 : 0 < 2 ^ k := Nat.pow_pos (by omega)
  have hm : (BitVec.ofInt 64 ((2 ^ k - 1 : Nat) : Int)).toNat = 2 ^ k - 1 := by
    rw [BitVec.toNat_ofInt, ← Int.natCast_emod, Int.toNat_natCast, p64]
    exact Nat.mod_eq_of_lt (by omega)
  have hd : (2 : Nat) ^ k ∣ 2 ^ 64 := Nat.pow_dvd_pow 2 (by omega)
  have key : (BitVec.ofInt 64 n &&& BitVec.ofInt 64 ((2 ^ k - 1 : Nat) : Int)).toNat = (n % ((2 ^ 64 : Nat) : Int)).toNat % 2 ^ k := by
    rw [BitVec.toNat_and, BitVec.toNat_ofInt, hm, Nat.and_two_pow_sub_one_eq_mod]
  show IntKind.i64.wrap ((BitVec.ofInt 64 n &&& BitVec.ofInt 64 ((2 ^ k - 1 : Nat) : Int)).toNat : Nat) = n % ((2 ^ k : Nat) : Int)
  rw [key, IntKind.wrap_i64]
  have h1 : (((n % ((2 ^ 64 : Nat) : Int)).toNat : Nat) : Int) = n % ((2 ^ 64 : Nat) : Int) := Int.toNat_of_nonneg (Int.emod_nonneg _ (by omega))
  have h2 : (((n % ((2 ^ 64 : Nat) : Int)).toNat % 2 ^ k : Nat) : Int) = n % ((2 ^ k : Nat) : Int) := by
    rw [Int.natCast_emod, h1]
    exact Int.emod_emod_of_dvd n (Int.natCast_dvd_natCast.2 hd)
  rw [h2]
  have h3 := Int.emod_nonneg n (show ((2 ^ k : Nat) : Int) ≠ 0 by omega)
  have h4 := Int.emod_lt_of_pos n (show (0 : Int) < ((2 ^ k : Nat) : Int) by omega)
  generalize n % ((2 ^ k : Nat) : Int) = r at *
  omega
theorem i64_and31 (n : Int) : bits .and .i64 n 2147483647 = n % 2147483648 := i64_mask n 31 (by decide)
/-- A valid command out of any. -/
def validM (m : Bool) (x : Int × Int × Int) : Int × Int × Int :=
  if m = true then (1 + x.1 % 6, if 1 + x.1 % 6 = 5 then 0 else x.2.1 % 2147483648, if 1 + x.1 % 6 = 3 then x.2.2 % 2147483648 else 0)
  else (x.1 % 3, x.2.1 % 2147483648, 0)
def validL (m : Bool) (l : List (Int × Int × Int)) : List (Int × Int × Int) := (l.take 66).map (validM m)
theorem validM_err (m : Bool) (x : Int × Int × Int) : errI m (validM m x) = 0 := by
  unfold validM
  cases m
  · refine errI_of ?_ ?_ ?_ ?_ ?_ ?_ ?_ <;> simp [hasI] <;> omega
  · simp only [if_true]
    have h : x.1 % 6 = 0 ∨ x.1 % 6 = 1 ∨ x.1 % 6 = 2 ∨ x.1 % 6 = 3 ∨ x.1 % 6 = 4 ∨ x.1 % 6 = 5 := by omega
    rcases h with h | h | h | h | h | h <;> rw [h] <;> refine errI_of ?_ ?_ ?_ ?_ ?_ ?_ ?_ <;> simp [hasI] <;> omega
theorem validM_ok (m : Bool) (x : Int × Int × Int) : OkM (validM m x) := by
  unfold validM OkM
  cases m
  · simp only [Bool.false_eq_true, if_false]; omega
  · simp only [if_true]
    refine ⟨by omega, ?_, ?_⟩
    · split <;> omega
    · split <;> omega
theorem firstE_of {m : Bool} {l : List (Int × Int × Int)} (h : ∀ (j : Nat) x, l[j]? = some x → errI m x = 0) : firstE m l = 0 := by
  induction l with
  | nil => rfl
  | cons y l ih => rw [firstE, if_neg (fun z => z (h 0 y (by simp)))]; exact ih (fun j x hx => h (j + 1) x (by simpa using hx))
theorem validL_at {m : Bool} {l : List (Int × Int × Int)} {j : Nat} {x : Int × Int × Int} (h : (validL m l)[j]? = some x) : errI m x = 0 ∧ OkM x := by
  unfold validL at h
  rw [List.getElem?_map] at h
  obtain ⟨y, _, rfl⟩ := Option.map_eq_some_iff.1 h
  exact ⟨validM_err m y, validM_ok m y⟩
theorem validL_len (m : Bool) (l : List (Int × Int × Int)) : (validL m l).length ≤ 66 := by unfold validL; rw [List.length_map, List.length_take]; omega
theorem validL_check (m : Bool) (l : List (Int × Int × Int)) : checkI m (validL m l) = 0 := by
  unfold checkI
  rw [if_neg (by have := validL_len m l; omega)]
  exact firstE_of fun j x hx => (validL_at hx).1
theorem validL_oks (m : Bool) (l : List (Int × Int × Int)) : OksM (validL m l) := fun j x hx => (validL_at hx).2

set_option maxRecDepth 100000 in
set_option maxHeartbeats 1500000 in
theorem valid9_any (m : Bool) (a : Value) (l : List (Int × Int × Int)) (w : World) (ha : HoldsM w a l) (hk : OksM l) :
    Calls Tryd.prog 30 #[.bool m, a] w fun e w' => ∃ sv, e = .returned sv ∧ RowM w' sv (validL m l) ∧ Only [] w w' ∧ ∀ g, g ∈ ownOf sv → w.heap.size ≤ g := by
  have HA := hid ha
  have HK := hid hk
  obtain ⟨a, c, rfl, hc1, hc2, _⟩ := ha
  have hb : (l.length : Int) ≤ 9223372036854775807 := by unfold maxLen at hc2; omega
  obtain ⟨n, hn⟩ : ∃ n, n = min l.length 66 := ⟨_, rfl⟩
  have hn1 : (n : Int) ≤ 66 := by omega
  have hn2 : (n : Int) ≤ (l.length : Int) := by omega
  have NN := hid (show (n = l.length ∧ n ≤ 66) ∨ (n = 66 ∧ 66 ≤ l.length) by omega)
  have TN := hid (show l.take 66 = l.take n by rw [hn, List.take_eq_take_iff]; omega)
  have L0 := hid (show (0 : Int) ≤ (l.length : Int) by omega)
  clear hn hc1 hc2 hk
  have M31 := i64_and31
  go_enter Tryd.func30, Tryd.ntmps30
  go_wp2_with fail
  go_loopg [5, 6] n (fun g out t wr => ∃ i : Nat, i + g = n ∧ t = .int .i64 i ∧ RowM wr out ((l.take i).map (validM m)) ∧ Only [] w wr ∧ ∀ g, g ∈ ownOf out → w.heap.size ≤ g)
  case atStart => exact ⟨0, by omega, rfl, RowM.nil _, Only.refl _ _, by simp [ownOf, Value.ownBlock]⟩
  case round =>
    obtain ⟨i, hi, rfl, hR, hO, hw⟩ := hrel
    have R := hid hR
    have O := hid hO
    have OW := hid hw
    clear hR hO hw
    have i0 : (0 : Int) ≤ (i : Int) := by omega
    have i66 : (i : Int) ≤ 66 := by omega
    by_cases hg : gk = 0
    · obtain rfl : i = n := by omega
      have E := hid (show (l.take i).map (validM m) = validL m l by unfold validL; rw [TN.out])
      rcases NN.out with ⟨h1, h2⟩ | ⟨h1, h2⟩
      · have g1 : ¬ (i : Int) < (l.length : Int) := by omega
        clear hi hg
        go_wp2_with fail
        go_ret
        exact ⟨_, rfl, E.out ▸ R.out, O.out, OW.out⟩
      · have g1 : ¬ (i : Int) < 66 := by omega
        by_cases h3 : (i : Int) < (l.length : Int)
        · clear hi hg h2
          go_wp2_with fail
          go_ret
          exact ⟨_, rfl, E.out ▸ R.out, O.out, OW.out⟩
        · clear hi hg h2
          go_wp2_with fail
          go_ret
          exact ⟨_, rfl, E.out ▸ R.out, O.out, OW.out⟩
    · have g1 : (i : Int) < (l.length : Int) := by omega
      have g2 : (i : Int) < 66 := by omega
      obtain ⟨g, rfl⟩ : ∃ g, gk = g + 1 := ⟨gk - 1, by omega⟩
      obtain ⟨x, X, T1⟩ := take_oneM l i (by omega)
      have TT := hid (show (l.take (i + 1)).map (validM m) = (l.take i).map (validM m) ++ [validM m x] by rw [T1, List.map_append]; rfl)
      obtain ⟨⟨o0, o1⟩, ⟨p0, p1⟩, ⟨q0, q1⟩⟩ := HK.out i x X
      obtain ⟨xb, xo, rfl, hx⟩ := HA.out.at X
      obtain ⟨x0, x1, x2⟩ := hx.only O.out (by simp)
      have IG := hid (show i + 1 + g = n by omega)
      obtain ⟨op, A, B⟩ := x
      dsimp only at *
      have hA : ∀ o, Only [] wr (wr.alloc o) := fun o => (Only.refl [] wr).alloc o
      have z0 : ∀ o, (wr.alloc o).cell? ⟨xb, xo + i * 3, none⟩ = some (.int .u8 op) := fun o => (hA o).cell x0 (by simp)
      have z1 : ∀ o, (wr.alloc o).cell? ⟨xb, xo + i * 3 + 1, none⟩ = some (.int .i64 A) := fun o => (hA o).cell x1 (by simp)
      clear hi hg hx X T1 hA
      go_wp2_with fail
      go_region
      all_goals
        generalize hw2 : World.drew _ = w2
        have O2 := hid (show Only [] wr w2 from hw2 ▸ ((Only.refl [] wr).alloc _).drew)
        obtain ⟨M, hM⟩ : ∃ M, M = wr.heap.size := ⟨_, rfl⟩
        have c0 : w2.cell? ⟨M, 0, none⟩ = some (.int .u8 (op % 3)) := by rw [← hw2, hM]; simp
        have c1 : w2.cell? ⟨M, 1, none⟩ = some (.int .i64 (A % 2147483648)) := by rw [← hw2, hM]; simp
        have c2 : w2.cell? ⟨M, 2, none⟩ = some (.int .i64 0) := by rw [← hw2, hM]; simp
        have f0 : w2.frozen? ⟨M, 0, none⟩ = false := by rw [← hw2, hM]; simp
        have f1 : w2.frozen? ⟨M, 1, none⟩ = false := by rw [← hw2, hM]; simp
        have f2 : w2.frozen? ⟨M, 2, none⟩ = false := by rw [← hw2, hM]; simp
        have R2 := hid (R.out.only O2.out (by simp))
        have OO := hid (O.out.trans O2.out)
        have MG := hid (show (∀ g, g ∈ ownOf u5 → g ≠ M) ∧ w.heap.size ≤ M by rw [hM]; exact ⟨fun g hg e => by have := R.out.lt g hg; omega, O.out.size⟩)
        rw [← hM]
        have x0' := O2.out.cell x0 (by simp)
        have x2' := O2.out.cell x2 (by simp)
        have hxM : xb ≠ M := by rw [hM]; have := World.block_lt_of_cell? _ _ x0; exact Nat.ne_of_lt this
        clear hw2 hM z0 z1 x0 x1 x2 R O O2
        cases m with
        | false =>
          obtain ⟨sv2, w9, hrun, hrow, honly, hown⟩ := append_mod w2 u5 ((l.take i).map (validM false)) (op % 3, A % 2147483648, 0) R2.out (by rw [List.length_map, List.length_take]; omega)
          have F := hid (⟨hrow, honly, hown⟩ : _ ∧ _ ∧ _)
          dsimp only at hrun
          clear hrow honly hown
          go_wp2_with (at_builtin; refine Lib.wpList_append_run _ rfl _ _ _ _ rfl _ _ rfl rfl _ _ hrun ?_)
          go_roundg g
          case measure => omega
          case rel =>
            obtain ⟨hrow, honly, hown⟩ := F.out
            refine ⟨i + 1, IG.out, by go_num, by rw [TT.out]; exact hrow, OO.out.trans2 honly (fun y hy => .inr (OW.out y hy)), fun y hy => ?_⟩
            rcases hown y hy with e | e
            · exact OW.out y e
            · exact Nat.le_trans OO.out.size e
        | true =>
          have h6 : op % 6 = 2 ∨ op % 6 = 4 ∨ (¬ 1 + op % 6 = 3 ∧ ¬ 1 + op % 6 = 5) := by omega
          rcases h6 with h | h | ⟨h, h'⟩
          · have OM : Only [M] w2 ((w2.setCell ⟨M, 0, none⟩ (.int .u8 3)).setCell ⟨M, 2, none⟩ (.int .i64 (B % 2147483648))) := ((Only.refl [M] _).setCell (.inl (by simp)) _).setCell (.inl (by simp)) _
            have R3 := hid (R2.out.only OM (fun g hg => by simp; exact MG.out.1 g hg))
            have O3 := hid (OO.out.trans2 OM (fun y hy => .inr (by rw [List.mem_singleton.1 hy]; exact MG.out.2)))
            have TX := hid (show (l.take (i + 1)).map (validM true) = (l.take i).map (validM true) ++ [(3, A % 2147483648, B % 2147483648)] by rw [TT.out]; congr 2; simp [validM, h])
            obtain ⟨sv2, w9, hrun, hrow, honly, hown⟩ := append_mod ((w2.setCell ⟨M, 0, none⟩ (.int .u8 3)).setCell ⟨M, 2, none⟩ (.int .i64 (B % 2147483648))) u5 ((l.take i).map (validM true)) (3, A % 2147483648, B % 2147483648) R3.out (by rw [List.length_map, List.length_take]; omega)
            have F := hid (⟨hrow, honly, hown⟩ : _ ∧ _ ∧ _)
            have HZ : ((w2.setCell ⟨M, 0, none⟩ (.int .u8 3)).setCell ⟨M, 2, none⟩ (.int .i64 (B % 2147483648))).heap.size = w2.heap.size := by simp
            rw [HZ] at hrun
            dsimp only at hrun
            clear hrow honly hown OM HZ
            go_wp2_with (at_builtin; refine Lib.wpList_append_run _ rfl _ _ _ _ rfl _ _ rfl rfl _ _ hrun ?_)
            go_roundg g
            case measure => omega
            case rel =>
              obtain ⟨hrow, honly, hown⟩ := F.out
              refine ⟨i + 1, IG.out, by go_num, by rw [TX.out]; exact hrow, O3.out.trans2 honly (fun y hy => .inr (OW.out y hy)), fun y hy => ?_⟩
              rcases hown y hy with e | e
              · exact OW.out y e
              · exact Nat.le_trans O3.out.size e
          · have OM : Only [M] w2 ((w2.setCell ⟨M, 0, none⟩ (.int .u8 5)).setCell ⟨M, 1, none⟩ (.int .i64 0)) := ((Only.refl [M] _).setCell (.inl (by simp)) _).setCell (.inl (by simp)) _
            have R3 := hid (R2.out.only OM (fun g hg => by simp; exact MG.out.1 g hg))
            have O3 := hid (OO.out.trans2 OM (fun y hy => .inr (by rw [List.mem_singleton.1 hy]; exact MG.out.2)))
            have TX := hid (show (l.take (i + 1)).map (validM true) = (l.take i).map (validM true) ++ [(5, 0, 0)] by rw [TT.out]; congr 2; simp [validM, h])
            obtain ⟨sv2, w9, hrun, hrow, honly, hown⟩ := append_mod ((w2.setCell ⟨M, 0, none⟩ (.int .u8 5)).setCell ⟨M, 1, none⟩ (.int .i64 0)) u5 ((l.take i).map (validM true)) (5, 0, 0) R3.out (by rw [List.length_map, List.length_take]; omega)
            have F := hid (⟨hrow, honly, hown⟩ : _ ∧ _ ∧ _)
            have HZ : ((w2.setCell ⟨M, 0, none⟩ (.int .u8 5)).setCell ⟨M, 1, none⟩ (.int .i64 0)).heap.size = w2.heap.size := by simp
            rw [HZ] at hrun
            dsimp only at hrun
            clear hrow honly hown OM HZ
            go_wp2_with (at_builtin; refine Lib.wpList_append_run _ rfl _ _ _ _ rfl _ _ rfl rfl _ _ hrun ?_)
            go_roundg g
            case measure => omega
            case rel =>
              obtain ⟨hrow, honly, hown⟩ := F.out
              refine ⟨i + 1, IG.out, by go_num, by rw [TX.out]; exact hrow, O3.out.trans2 honly (fun y hy => .inr (OW.out y hy)), fun y hy => ?_⟩
              rcases hown y hy with e | e
              · exact OW.out y e
              · exact Nat.le_trans O3.out.size e
          · have OM : Only [M] w2 (w2.setCell ⟨M, 0, none⟩ (.int .u8 (1 + op % 6))) := (Only.refl [M] _).setCell (.inl (by simp)) _
            have R3 := hid (R2.out.only OM (fun g hg => by simp; exact MG.out.1 g hg))
            have O3 := hid (OO.out.trans2 OM (fun y hy => .inr (by rw [List.mem_singleton.1 hy]; exact MG.out.2)))
            have TX := hid (show (l.take (i + 1)).map (validM true) = (l.take i).map (validM true) ++ [(1 + op % 6, A % 2147483648, 0)] by rw [TT.out]; congr 2; simp [validM, h, h'])
            obtain ⟨sv2, w9, hrun, hrow, honly, hown⟩ := append_mod (w2.setCell ⟨M, 0, none⟩ (.int .u8 (1 + op % 6))) u5 ((l.take i).map (validM true)) (1 + op % 6, A % 2147483648, 0) R3.out (by rw [List.length_map, List.length_take]; omega)
            have F := hid (⟨hrow, honly, hown⟩ : _ ∧ _ ∧ _)
            have HZ : (w2.setCell ⟨M, 0, none⟩ (.int .u8 (1 + op % 6))).heap.size = w2.heap.size := by simp
            rw [HZ] at hrun
            dsimp only at hrun
            clear hrow honly hown OM HZ
            go_wp2_with (at_builtin; refine Lib.wpList_append_run _ rfl _ _ _ _ rfl _ _ rfl rfl _ _ hrun ?_)
            go_roundg g
            case measure => omega
            case rel =>
              obtain ⟨hrow, honly, hown⟩ := F.out
              refine ⟨i + 1, IG.out, by go_num, by rw [TX.out]; exact hrow, O3.out.trans2 honly (fun y hy => .inr (OW.out y hy)), fun y hy => ?_⟩
              rcases hown y hy with e | e
              · exact OW.out y e
              · exact Nat.le_trans O3.out.size e
end Go.Proofs.YtdkmeldcpamnnaaDoor

/- The laws' own valid: valid commands out of any. Ahead of it: The laws' own bytesOf: characters 0 and 1 as bytes. -/
import Derived.Test.YtdkmeldcpamnnaaDoorMkW
import Derived.Laws.Bits128
namespace Go.Proofs.YtdkmeldcpamnnaaDoor
open Go.RowKit
set_option linter.unusedVariables false

theorem char_val (L : List Bool) (i : Nat) (h : i < (chars L).size) : ((chars L)[i]'h).toNat = 48 + (bitL L i).toNat := by
  have h' : i < L.length := by simpa using h
  have e : (chars L)[i]'h = if bitL L i then 49 else 48 := by
    show ((chars L).data)[i] = _
    simp [chars, bitL, List.getD_eq_getElem?_getD, h']
  rw [e]
  cases bitL L i <;> rfl
theorem bitL_take (L : List Bool) (n i : Nat) : bitL (L.take n) i = (decide (i < n) && bitL L i) := by
  unfold bitL
  rw [List.getD_eq_getElem?_getD, List.getD_eq_getElem?_getD, List.getElem?_take]
  by_cases h : i < n <;> simp [h]
theorem byteL_zero (L : List Bool) (j : Nat) : byteL (L.take 0) j = 0 := by
  have := eq_valF 0 (bitL (L.take 0)) (8 * j) 8 (by decide) (fun t ht => by rw [bitL_take]; simp)
  exact this.symm
theorem byteL_same (L : List Bool) (i j : Nat) (h : j ≠ i / 8) : byteL (L.take (i + 1)) j = byteL (L.take i) j := by
  refine valF_congr fun t ht => ?_
  rw [bitL_take, bitL_take]
  have : decide (8 * j + t < i + 1) = decide (8 * j + t < i) := by rw [decide_eq_decide]; omega
  rw [this]
theorem byteL_step (L : List Bool) (i : Nat) : byteL (L.take (i + 1)) (i / 8) = byteL (L.take i) (i / 8) ||| ((bitL L i).toNat * 2 ^ (7 - i % 8)) := by
  refine (eq_valF _ _ _ _ ?_ (fun t ht => ?_)).symm
  · refine Nat.or_lt_two_pow (byteL_lt _ _) ?_
    have : 2 ^ (7 - i % 8) ≤ 2 ^ 7 := Nat.pow_le_pow_right (by omega) (by omega)
    have p7 : (2 : Nat) ^ 7 = 128 := by decide
    have p8 : (2 : Nat) ^ 8 = 256 := by decide
    cases bitL L i <;> simp <;> omega
  · rw [Nat.testBit_or, show byteL (L.take i) (i / 8) = valF (bitL (L.take i)) (8 * (i / 8)) 8 from rfl, valF_bit _ _ _ _ ht, bitL_take, bitL_take]
    by_cases e : t = i % 8
    · have e1 : 8 * (i / 8) + t = i := by omega
      rw [e1, show 8 - 1 - t = 7 - i % 8 by omega]
      simp only [Nat.lt_irrefl, decide_false, Bool.false_and, Bool.false_or, Nat.lt_succ_self, decide_true, Bool.true_and]
      cases bitL L i <;> simp [Nat.testBit_two_pow_self]
    · have : decide (8 * (i / 8) + t < i + 1) = decide (8 * (i / 8) + t < i) := by rw [decide_eq_decide]; omega
      rw [this]
      have z : ((bitL L i).toNat * 2 ^ (7 - i % 8)).testBit (8 - 1 - t) = false := by
        cases bitL L i
        · simp
        · simp only [Bool.toNat_true, Nat.one_mul]
          rw [Nat.testBit_two_pow]
          rw [decide_eq_false_iff_not]
          omega
      rw [z, Bool.or_false]
theorem pack_cells (L : List Bool) : pack L = ⟨((List.range ((L.length + 7) / 8)).map fun i => UInt8.ofNat (byteL L i)).toArray⟩ := rfl

set_option maxHeartbeats 2000000 in
theorem bytesof_any (L : List Bool) (w : World) (hL : L.length ≤ 100000) :
    Calls Tryd.prog 32 #[.string (chars L)] w fun e w' => e = .returned (.string (pack L)) ∧ Only [] w w' := by
  obtain ⟨n, hn⟩ : ∃ n, n = L.length := ⟨_, rfl⟩
  obtain ⟨N, hN⟩ : ∃ N, N = (n + 7) / 8 := ⟨_, rfl⟩
  have hmk := run_make_row' (P := Tryd.prog) 51 5 (.int .u8 0) 1 und_bytes info_u8 rfl .i64 .i64 N (by omega) (by omega)
  have hN' : (N : Int) = ((n : Int) + 7) / 8 := by omega
  rw [hN'] at hmk
  have cs : (chars L).size = n := by rw [size_chars, hn]
  have CV := hid (char_val L)
  have PE := hid (pack_cells L)
  have n1 : (n : Int) ≤ 100000 := by omega
  have n0 : (0 : Int) ≤ (n : Int) := by omega
  have NN := hid hn
  have NB := hid hN
  generalize chars L = cl at *
  subst cs
  clear hn hN hL
  go_enter Tryd.func32, Tryd.ntmps32
  go_wp2_with fail
  generalize hwa : World.alloc w _ = wa
  have z : ∀ j, j < N → wa.cell? ⟨w.heap.size, j, none⟩ = some (.int .u8 0) := by intro j hj; rw [← hwa]; exact made_cell w N j hj
  have zf : ∀ j, wa.frozen? ⟨w.heap.size, j, none⟩ = false := by intro j; rw [← hwa]; exact World.frozen?_alloc_new w _ _ _
  have oa : Only [] w wa := by rw [← hwa]; exact (Only.refl [] w).alloc _
  have hge : w.heap.size ≤ w.heap.size := Nat.le_refl _
  obtain ⟨B, hB⟩ : ∃ B, B = w.heap.size := ⟨_, rfl⟩
  rw [← hB] at z zf hge ⊢
  have BE := hid hB
  have Z := hid z
  have ZF := hid zf
  have OA := hid oa
  clear z zf oa hwa hmk hB hge
  go_loopg [4] cl.size (fun g c wr => ∃ i : Nat, i + g = cl.size ∧ c = .int .i64 i ∧ (∀ j, j < N → wr.cell? ⟨B, j, none⟩ = some (.int .u8 (byteL (L.take i) j))) ∧ (∀ j, wr.frozen? ⟨B, j, none⟩ = false) ∧ Only [] w wr)
  case atStart => exact ⟨0, by omega, rfl, fun j hj => by rw [byteL_zero]; exact Z.out j hj, ZF.out, OA.out⟩
  case round =>
    obtain ⟨i, hi, rfl, r1, r3, r4⟩ := hrel
    have R1 := hid r1
    have R3 := hid r3
    have R4 := hid r4
    have IG := hid hi
    clear r1 r3 r4
    by_cases h0 : gk = 0
    · subst h0
      obtain rfl : i = cl.size := by omega
      have i1 : ¬ (cl.size : Int) < (cl.size : Int) := by omega
      clear hi
      have CVT : (convert 51 9 (.slice (some ⟨B, 0, none⟩) N N)).run Tryd.prog wr = .ok (.string (pack L)) wr := by
        have := run_convert_bytes_back wr 51 9 5 ⟨B, 0, none⟩ N ((List.range N).map fun i => UInt8.ofNat (byteL L i)) und_bytes und_u8 und_str (fun j hj => by
          rw [addr_add, R1.out j (by simpa using hj)]
          rw [List.take_of_length_le (by have := NN.out; omega)]
          have := byteL_lt L j
          simp [UInt8.toNat_ofNat', Nat.mod_eq_of_lt this])
        simp only [List.length_map, List.length_range] at this
        rw [this, PE.out, NB.out, NN.out]
      go_wp2_with fail
      go_ret
      exact ⟨rfl, R4.out⟩
    · have h1 : (i : Int) < (cl.size : Int) := by omega
      have i0 : (0 : Int) ≤ (i : Int) / 8 := by omega
      have i2 : (i : Int) / 8 < (N : Int) := by have := NB.out; omega
      have ib : (i : Int) ≤ 100000 := by omega
      have hiN : i / 8 < N := by omega
      have hb := R1.out (i / 8) hiN
      have hf := R3.out (i / 8)
      have hic : i < cl.size := by omega
      have CI := CV.out i hic
      have m0 : (0 : Int) ≤ (i : Int) % 8 := by omega
      have m1 : (i : Int) % 8 ≤ 7 := by omega
      have x8 := byteL_lt (L.take i) (i / 8)
      have ST := hid (byteL_step L i)
      generalize byteL (L.take i) (i / 8) = x at *
      have xb : (x : Int) ≤ 255 := by omega
      clear hi x8
      go_wp2_with fail
      go_region
      all_goals
        have VE : bits .or .u8 (x : Int) ((48 + ((bitL L i).toNat : Int) - 48) % 256 * 2 ^ (7 - i % 8) % 256) = ((x ||| ((bitL L i).toNat * 2 ^ (7 - i % 8)) : Nat) : Int) := by
          have hb1 : (bitL L i).toNat ≤ 1 := Bool.toNat_le _
          have k7 : 2 ^ (7 - i % 8) ≤ 2 ^ 7 := Nat.pow_le_pow_right (by omega) (by omega)
          have p7 : (2 : Nat) ^ 7 = 128 := by decide
          generalize (bitL L i).toNat = t at *
          have ht : t * 2 ^ (7 - i % 8) < 256 := by
            rcases (by omega : t = 0 ∨ t = 1) with rfl | rfl <;> omega
          have e1 : (48 + (t : Int) - 48) % 256 = (t : Int) := by omega
          have e2 : (t : Int) * 2 ^ (7 - i % 8) = ((t * 2 ^ (7 - i % 8) : Nat) : Int) := by rw [Int.natCast_mul, Int.natCast_pow]; rfl
          rw [e1, e2, Int.emod_eq_of_lt (by omega) (by omega), u8_or_nat _ _ (by omega) ht]
        rw [VE, ← ST.out]
        clear VE CI hb
        go_wp2_with fail
        go_roundg (gk - 1)
        case measure => omega
        case rel =>
          refine ⟨i + 1, by have := IG.out; omega, by go_num, fun j hj => ?_, fun j => ?_, ?_⟩
          · by_cases e : j = i / 8
            · subst e
              exact World.cell?_setCell_same _ _ _ (R1.out _ hj)
            · rw [byteL_same L i j e]
              exact (World.cell?_setCell_other _ _ _ _ (by intro e'; injection e' with _ e2 _; omega)).trans (R1.out j hj)
          · exact (World.frozen?_setCell _ _ _ _).trans (R3.out j)
          · exact (R4.out.setCell (.inr (by rw [BE.out]; exact Nat.le_refl _)) _).drew
end Go.Proofs.YtdkmeldcpamnnaaDoor
namespace Go.Proofs.YtdkmeldcpamnnaaDoor
open Go.RowKit
set_option linter.unusedVariables false

theorem i64_mask (n : Int) (k : Nat) (hk : k ≤ 62) : bits .and .i64 n ((2 ^ k - 1 : Nat) : Int) = n % ((2 ^ k : Nat) : Int) := by
  have pk : 2 ^ k ≤ 2 ^ 62 := Nat.pow_le_pow_right (by omega) hk
  have p62 : (2 : Nat) ^ 62 = 4611686018427387904 := by decide
  have p64 : (2 : Nat) ^ 64 = 18446744073709551616 := by decide
  have p0 : 0 < 2 ^ k := Nat.pow_pos (by omega)
  have hm : (BitVec.ofInt 64 ((2 ^ k - 1 : Nat) : Int)).toNat = 2 ^ k - 1 := by
    rw [BitVec.toNat_ofInt, ← Int.natCast_emod, Int.toNat_natCast, p64]
    exact Nat.mod_eq_of_lt (by omega)
  have hd : (2 : Nat) ^ k ∣ 2 ^ 64 := Nat.pow_dvd_pow 2 (by omega)
  have key : (BitVec.ofInt 64 n &&& BitVec.ofInt 64 ((2 ^ k - 1 : Nat) : Int)).toNat = (n % ((2 ^ 64 : Nat) : Int)).toNat % 2 ^ k := by
    rw [BitVec.toNat_and, BitVec.toNat_ofInt, hm, Nat.and_two_pow_sub_one_eq_mod]
  show IntKind.i64.wrap ((BitVec.ofInt 64 n &&& BitVec.ofInt 64 ((2 ^ k - 1 : Nat) : Int)).toNat : Nat) = n % ((2 ^ k : Nat) : Int)
  rw [key, IntKind.wrap_i64]
  have h1 : (((n % ((2 ^ 64 : Nat) : Int)).toNat : Nat) : Int) = n % ((2 ^ 64 : Nat) : Int) := Int.toNat_of_nonneg (Int.emod_nonneg _ (by omega))
  have h2 : (((n % ((2 ^ 64 : Nat) : Int)).toNat % 2 ^ k : Nat) : Int) = n % ((2 ^ k : Nat) : Int) := by
    rw [Int.natCast_emod, h1]
    exact Int.emod_emod_of_dvd n (Int.natCast_dvd_natCast.2 hd)
  rw [h2]
  have h3 := Int.emod_nonneg n (show ((2 ^ k : Nat) : Int) ≠ 0 by omega)
  have h4 := Int.emod_lt_of_pos n (show (0 : Int) < ((2 ^ k : Nat) : Int) by omega)
  generalize n % ((2 ^ k : Nat) : Int) = r at *
  omega
theorem i64_and31 (n : Int) : bits .and .i64 n 2147483647 = n % 2147483648 := i64_mask n 31 (by decide)
/-- A valid command out of any. -/
def validM (m : Bool) (x : Int × Int × Int) : Int × Int × Int :=
  if m = true then (1 + x.1 % 6, if 1 + x.1 % 6 = 5 then 0 else x.2.1 % 2147483648, if 1 + x.1 % 6 = 3 then x.2.2 % 2147483648 else 0)
  else (x.1 % 3, x.2.1 % 2147483648, 0)
def validL (m : Bool) (l : List (Int × Int × Int)) : List (Int × Int × Int) := (l.take 66).map (validM m)
theorem validM_err (m : Bool) (x : Int × Int × Int) : errI m (validM m x) = 0 := by
  unfold validM
  cases m
  · refine errI_of ?_ ?_ ?_ ?_ ?_ ?_ ?_ <;> simp [hasI] <;> omega
  · simp only [if_true]
    have h : x.1 % 6 = 0 ∨ x.1 % 6 = 1 ∨ x.1 % 6 = 2 ∨ x.1 % 6 = 3 ∨ x.1 % 6 = 4 ∨ x.1 % 6 = 5 := by omega
    rcases h with h | h | h | h | h | h <;> rw [h] <;> refine errI_of ?_ ?_ ?_ ?_ ?_ ?_ ?_ <;> simp [hasI] <;> omega
theorem validM_ok (m : Bool) (x : Int × Int × Int) : OkM (validM m x) := by
  unfold validM OkM
  cases m
  · simp only [Bool.false_eq_true, if_false]; omega
  · simp only [if_true]
    refine ⟨by omega, ?_, ?_⟩
    · split <;> omega
    · split <;> omega
theorem firstE_of {m : Bool} {l : List (Int × Int × Int)} (h : ∀ (j : Nat) x, l[j]? = some x → errI m x = 0) : firstE m l = 0 := by
  induction l with
  | nil => rfl
  | cons y l ih => rw [firstE, if_neg (fun z => z (h 0 y (by simp)))]; exact ih (fun j x hx => h (j + 1) x (by simpa using hx))
theorem validL_at {m : Bool} {l : List (Int × Int × Int)} {j : Nat} {x : Int × Int × Int} (h : (validL m l)[j]? = some x) : errI m x = 0 ∧ OkM x := by
  unfold validL at h
  rw [List.getElem?_map] at h
  obtain ⟨y, _, rfl⟩ := Option.map_eq_some_iff.1 h
  exact ⟨validM_err m y, validM_ok m y⟩
theorem validL_len (m : Bool) (l : List (Int × Int × Int)) : (validL m l).length ≤ 66 := by unfold validL; rw [List.length_map, List.length_take]; omega
theorem validL_check (m : Bool) (l : List (Int × Int × Int)) : checkI m (validL m l) = 0 := by
  unfold checkI
  rw [if_neg (by have := validL_len m l; omega)]
  exact firstE_of fun j x hx => (validL_at hx).1
theorem validL_oks (m : Bool) (l : List (Int × Int × Int)) : OksM (validL m l) := fun j x hx => (validL_at hx).2

set_option maxRecDepth 100000 in
set_option maxHeartbeats 1500000 in
theorem valid9_any (m : Bool) (a : Value) (l : List (Int × Int × Int)) (w : World) (ha : HoldsM w a l) (hk : OksM l) :
    Calls Tryd.prog 30 #[.bool m, a] w fun e w' => ∃ sv, e = .returned sv ∧ RowM w' sv (validL m l) ∧ Only [] w w' ∧ ∀ g, g ∈ ownOf sv → w.heap.size ≤ g := by
  have HA := hid ha
  have HK := hid hk
  obtain ⟨a, c, rfl, hc1, hc2, _⟩ := ha
  have hb : (l.length : Int) ≤ 9223372036854775807 := by unfold maxLen at hc2; omega
  obtain ⟨n, hn⟩ : ∃ n, n = min l.length 66 := ⟨_, rfl⟩
  have hn1 : (n : Int) ≤ 66 := by omega
  have hn2 : (n : Int) ≤ (l.length : Int) := by omega
  have NN := hid (show (n = l.length ∧ n ≤ 66) ∨ (n = 66 ∧ 66 ≤ l.length) by omega)
  have TN := hid (show l.take 66 = l.take n by rw [hn, List.take_eq_take_iff]; omega)
  have L0 := hid (show (0 : Int) ≤ (l.length : Int) by omega)
  clear hn hc1 hc2 hk
  have M31 := i64_and31
  go_enter Tryd.func30, Tryd.ntmps30
  go_wp2_with fail
  go_loopg [5, 6] n (fun g out t wr => ∃ i : Nat, i + g = n ∧ t = .int .i64 i ∧ RowM wr out ((l.take i).map (validM m)) ∧ Only [] w wr ∧ ∀ g, g ∈ ownOf out → w.heap.size ≤ g)
  case atStart => exact ⟨0, by omega, rfl, RowM.nil _, Only.refl _ _, by simp [ownOf, Value.ownBlock]⟩
  case round =>
    obtain ⟨i, hi, rfl, hR, hO, hw⟩ := hrel
    have R := hid hR
    have O := hid hO
    have OW := hid hw
    clear hR hO hw
    have i0 : (0 : Int) ≤ (i : Int) := by omega
    have i66 : (i : Int) ≤ 66 := by omega
    by_cases hg : gk = 0
    · obtain rfl : i = n := by omega
      have E := hid (show (l.take i).map (validM m) = validL m l by unfold validL; rw [TN.out])
      rcases NN.out with ⟨h1, h2⟩ | ⟨h1, h2⟩
      · have g1 : ¬ (i : Int) < (l.length : Int) := by omega
        clear hi hg
        go_wp2_with fail
        go_ret
        exact ⟨_, rfl, E.out ▸ R.out, O.out, OW.out⟩
      · have g1 : ¬ (i : Int) < 66 := by omega
        by_cases h3 : (i : Int) < (l.length : Int)
        · clear hi hg h2
          go_wp2_with fail
          go_ret
          exact ⟨_, rfl, E.out ▸ R.out, O.out, OW.out⟩
        · clear hi hg h2
          go_wp2_with fail
          go_ret
          exact ⟨_, rfl, E.out ▸ R.out, O.out, OW.out⟩
    · have g1 : (i : Int) < (l.length : Int) := by omega
      have g2 : (i : Int) < 66 := by omega
      obtain ⟨g, rfl⟩ : ∃ g, gk = g + 1 := ⟨gk - 1, by omega⟩
      obtain ⟨x, X, T1⟩ := take_oneM l i (by omega)
      have TT := hid (show (l.take (i + 1)).map (validM m) = (l.take i).map (validM m) ++ [validM m x] by rw [T1, List.map_append]; rfl)
      obtain ⟨⟨o0, o1⟩, ⟨p0, p1⟩, ⟨q0, q1⟩⟩ := HK.out i x X
      obtain ⟨xb, xo, rfl, hx⟩ := HA.out.at X
      obtain ⟨x0, x1, x2⟩ := hx.only O.out (by simp)
      have IG := hid (show i + 1 + g = n by omega)
      obtain ⟨op, A, B⟩ := x
      dsimp only at *
      have hA : ∀ o, Only [] wr (wr.alloc o) := fun o => (Only.refl [] wr).alloc o
      have z0 : ∀ o, (wr.alloc o).cell? ⟨xb, xo + i * 3, none⟩ = some (.int .u8 op) := fun o => (hA o).cell x0 (by simp)
      have z1 : ∀ o, (wr.alloc o).cell? ⟨xb, xo + i * 3 + 1, none⟩ = some (.int .i64 A) := fun o => (hA o).cell x1 (by simp)
      clear hi hg hx X T1 hA
      go_wp2_with fail
      go_region
      all_goals
        generalize hw2 : World.drew _ = w2
        have O2 := hid (show Only [] wr w2 from hw2 ▸ ((Only.refl [] wr).alloc _).drew)
        obtain ⟨M, hM⟩ : ∃ M, M = wr.heap.size := ⟨_, rfl⟩
        have c0 : w2.cell? ⟨M, 0, none⟩ = some (.int .u8 (op % 3)) := by rw [← hw2, hM]; simp
        have c1 : w2.cell? ⟨M, 1, none⟩ = some (.int .i64 (A % 2147483648)) := by rw [← hw2, hM]; simp
        have c2 : w2.cell? ⟨M, 2, none⟩ = some (.int .i64 0) := by rw [← hw2, hM]; simp
        have f0 : w2.frozen? ⟨M, 0, none⟩ = false := by rw [← hw2, hM]; simp
        have f1 : w2.frozen? ⟨M, 1, none⟩ = false := by rw [← hw2, hM]; simp
        have f2 : w2.frozen? ⟨M, 2, none⟩ = false := by rw [← hw2, hM]; simp
        have R2 := hid (R.out.only O2.out (by simp))
        have OO := hid (O.out.trans O2.out)
        have MG := hid (show (∀ g, g ∈ ownOf u5 → g ≠ M) ∧ w.heap.size ≤ M by rw [hM]; exact ⟨fun g hg e => by have := R.out.lt g hg; omega, O.out.size⟩)
        rw [← hM]
        have x0' := O2.out.cell x0 (by simp)
        have x2' := O2.out.cell x2 (by simp)
        have hxM : xb ≠ M := by rw [hM]; have := World.block_lt_of_cell? _ _ x0; exact Nat.ne_of_lt this
        clear hw2 hM z0 z1 x0 x1 x2 R O O2
        cases m with
        | false =>
          obtain ⟨sv2, w9, hrun, hrow, honly, hown⟩ := append_mod w2 u5 ((l.take i).map (validM false)) (op % 3, A % 2147483648, 0) R2.out (by rw [List.length_map, List.length_take]; omega)
          have F := hid (⟨hrow, honly, hown⟩ : _ ∧ _ ∧ _)
          dsimp only at hrun
          clear hrow honly hown
          go_wp2_with (at_builtin; refine Lib.wpList_append_run _ rfl _ _ _ _ rfl _ _ rfl rfl _ _ hrun ?_)
          go_roundg g
          case measure => omega
          case rel =>
            obtain ⟨hrow, honly, hown⟩ := F.out
            refine ⟨i + 1, IG.out, by go_num, by rw [TT.out]; exact hrow, OO.out.trans2 honly (fun y hy => .inr (OW.out y hy)), fun y hy => ?_⟩
            rcases hown y hy with e | e
            · exact OW.out y e
            · exact Nat.le_trans OO.out.size e
        | true =>
          have h6 : op % 6 = 2 ∨ op % 6 = 4 ∨ (¬ 1 + op % 6 = 3 ∧ ¬ 1 + op % 6 = 5) := by omega
          rcases h6 with h | h | ⟨h, h'⟩
          · have OM : Only [M] w2 ((w2.setCell ⟨M, 0, none⟩ (.int .u8 3)).setCell ⟨M, 2, none⟩ (.int .i64 (B % 2147483648))) := ((Only.refl [M] _).setCell (.inl (by simp)) _).setCell (.inl (by simp)) _
            have R3 := hid (R2.out.only OM (fun g hg => by simp; exact MG.out.1 g hg))
            have O3 := hid (OO.out.trans2 OM (fun y hy => .inr (by rw [List.mem_singleton.1 hy]; exact MG.out.2)))
            have TX := hid (show (l.take (i + 1)).map (validM true) = (l.take i).map (validM true) ++ [(3, A % 2147483648, B % 2147483648)] by rw [TT.out]; congr 2; simp [validM, h])
            obtain ⟨sv2, w9, hrun, hrow, honly, hown⟩ := append_mod ((w2.setCell ⟨M, 0, none⟩ (.int .u8 3)).setCell ⟨M, 2, none⟩ (.int .i64 (B % 2147483648))) u5 ((l.take i).map (validM true)) (3, A % 2147483648, B % 2147483648) R3.out (by rw [List.length_map, List.length_take]; omega)
            have F := hid (⟨hrow, honly, hown⟩ : _ ∧ _ ∧ _)
            have HZ : ((w2.setCell ⟨M, 0, none⟩ (.int .u8 3)).setCell ⟨M, 2, none⟩ (.int .i64 (B % 2147483648))).heap.size = w2.heap.size := by simp
            rw [HZ] at hrun
            dsimp only at hrun
            clear hrow honly hown OM HZ
            go_wp2_with (at_builtin; refine Lib.wpList_append_run _ rfl _ _ _ _ rfl _ _ rfl rfl _ _ hrun ?_)
            go_roundg g
            case measure => omega
            case rel =>
              obtain ⟨hrow, honly, hown⟩ := F.out
              refine ⟨i + 1, IG.out, by go_num, by rw [TX.out]; exact hrow, O3.out.trans2 honly (fun y hy => .inr (OW.out y hy)), fun y hy => ?_⟩
              rcases hown y hy with e | e
              · exact OW.out y e
              · exact Nat.le_trans O3.out.size e
          · have OM : Only [M] w2 ((w2.setCell ⟨M, 0, none⟩ (.int .u8 5)).setCell ⟨M, 1, none⟩ (.int .i64 0)) := ((Only.refl [M] _).setCell (.inl (by simp)) _).setCell (.inl (by simp)) _
            have R3 := hid (R2.out.only OM (fun g hg => by simp; exact MG.out.1 g hg))
            have O3 := hid (OO.out.trans2 OM (fun y hy => .inr (by rw [List.mem_singleton.1 hy]; exact MG.out.2)))
            have TX := hid (show (l.take (i + 1)).map (validM true) = (l.take i).map (validM true) ++ [(5, 0, 0)] by rw [TT.out]; congr 2; simp [validM, h])
            obtain ⟨sv2, w9, hrun, hrow, honly, hown⟩ := append_mod ((w2.setCell ⟨M, 0, none⟩ (.int .u8 5)).setCell ⟨M, 1, none⟩ (.int .i64 0)) u5 ((l.take i).map (validM true)) (5, 0, 0) R3.out (by rw [List.length_map, List.length_take]; omega)
            have F := hid (⟨hrow, honly, hown⟩ : _ ∧ _ ∧ _)
            have HZ : ((w2.setCell ⟨M, 0, none⟩ (.int .u8 5)).setCell ⟨M, 1, none⟩ (.int .i64 0)).heap.size = w2.heap.size := by simp
            rw [HZ] at hrun
            dsimp only at hrun
            clear hrow honly hown OM HZ
            go_wp2_with (at_builtin; refine Lib.wpList_append_run _ rfl _ _ _ _ rfl _ _ rfl rfl _ _ hrun ?_)
            go_roundg g
            case measure => omega
            case rel =>
              obtain ⟨hrow, honly, hown⟩ := F.out
              refine ⟨i + 1, IG.out, by go_num, by rw [TX.out]; exact hrow, O3.out.trans2 honly (fun y hy => .inr (OW.out y hy)), fun y hy => ?_⟩
              rcases hown y hy with e | e
              · exact OW.out y e
              · exact Nat.le_trans O3.out.size e
          · have OM : Only [M] w2 (w2.setCell ⟨M, 0, none⟩ (.int .u8 (1 + op % 6))) := (Only.refl [M] _).setCell (.inl (by simp)) _
            have R3 := hid (R2.out.only OM (fun g hg => by simp; exact MG.out.1 g hg))
            have O3 := hid (OO.out.trans2 OM (fun y hy => .inr (by rw [List.mem_singleton.1 hy]; exact MG.out.2)))
            have TX := hid (show (l.take (i + 1)).map (validM true) = (l.take i).map (validM true) ++ [(1 + op % 6, A % 2147483648, 0)] by rw [TT.out]; congr 2; simp [validM, h, h'])
            obtain ⟨sv2, w9, hrun, hrow, honly, hown⟩ := append_mod (w2.setCell ⟨M, 0, none⟩ (.int .u8 (1 + op % 6))) u5 ((l.take i).map (validM true)) (1 + op % 6, A % 2147483648, 0) R3.out (by rw [List.length_map, List.length_take]; omega)
            have F := hid (⟨hrow, honly, hown⟩ : _ ∧ _ ∧ _)
            have HZ : (w2.setCell ⟨M, 0, none⟩ (.int .u8 (1 + op % 6))).heap.size = w2.heap.size := by simp
            rw [HZ] at hrun
            dsimp only at hrun
            clear hrow honly hown OM HZ
            go_wp2_with (at_builtin; refine Lib.wpList_append_run _ rfl _ _ _ _ rfl _ _ rfl rfl _ _ hrun ?_)
            go_roundg g
            case measure => omega
            case rel =>
              obtain ⟨hrow, honly, hown⟩ := F.out
              refine ⟨i + 1, IG.out, by go_num, by rw [TX.out]; exact hrow, O3.out.trans2 honly (fun y hy => .inr (OW.out y hy)), fun y hy => ?_⟩
              rcases hown y hy with e | e
              · exact OW.out y e
              · exact Nat.le_trans O3.out.size e
end Go.Proofs.YtdkmeldcpamnnaaDoor

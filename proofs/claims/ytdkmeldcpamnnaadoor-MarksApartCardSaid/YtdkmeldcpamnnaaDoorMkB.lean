/- The laws' own bytesOf: characters 0 and 1 as bytes. -/
import Derived.Test.YtdkmeldcpamnnaaDoorMkW
namespace Go.Proofs.YtdkmeldcpamnnaaDoor
open Go.RowKit
set_option linter.unusedVariables false

theorem char_val (L : List Bool) (i : Nat) (h : i < (chars L).size) : ((chars L)[i]'h).toNat = 48 + (bitL L i).toNat := by
  have h' : i < L.length := by simpa using h
  have e : (chars L)[i]'h = if bitL L i then 49 else 48 := by
    show ((chars L).data)[i] = _
    simp [chars, bitL, List.getD_eq_getElem?_getD, h']
  rw [e]
  cases bitL L i <;> rfl
theorem bitL_take (L : List Bool) (n i : Nat) : bitL (L.take n) i = (decide (i < n) && bitL L i) := by
  unfold bitL
  rw [List.getD_eq_getElem?_getD, List.getD_eq_getElem?_getD, List.getElem?_take]
  by_cases h : i < n <;> simp [h]
theorem byteL_zero (L : List Bool) (j : Nat) : byteL (L.take 0) j = 0 := by
  have := eq_valF 0 (bitL (L.take 0)) (8 * j) 8 (by decide) (fun t ht => by rw [bitL_take]; simp)
  exact this.symm
theorem byteL_same (L : List Bool) (i j : Nat) (h : j ≠ i / 8) : byteL (L.take (i + 1)) j = byteL (L.take i) j := by
  refine valF_congr fun t ht => ?_
  rw [bitL_take, bitL_take]
  have : decide (8 * j + t < i + 1) = decide (8 * j + t < i) := by rw [decide_eq_decide]; omega
  rw [this]
theorem byteL_step (L : List Bool) (i : Nat) : byteL (L.take (i + 1)) (i / 8) = byteL (L.take i) (i / 8) ||| ((bitL L i).toNat * 2 ^ (7 - i % 8)) := by
  refine (eq_valF _ _ _ _ ?_ (fun t ht => ?_)).symm
  · refine Nat.or_lt_two_pow (byteL_lt _ _) ?_
    have : 2 ^ (7 - i % 8) ≤ 2 ^ 7 := Nat.pow_le_pow_right (by omega) (by omega)
    have p7 : (2 : Nat) ^ 7 = 128 := by decide
    have p8 : (2 : Nat) ^ 8 = 256 := by decide
    cases bitL L i <;> simp <;> omega
  · rw [Nat.testBit_or, show byteL (L.take i) (i / 8) = valF (bitL (L.take i)) (8 * (i / 8)) 8 from rfl, valF_bit _ _ _ _ ht, bitL_take, bitL_take]
    by_cases e : t = i % 8
    · have e1 : 8 * (i / 8) + t = i := by omega
      rw [e1, show 8 - 1 - t = 7 - i % 8 by omega]
      simp only [Nat.lt_irrefl, decide_false, Bool.false_and, Bool.false_or, Nat.lt_succ_self, decide_true, Bool.true_and]
      cases bitL L i <;> simp [Nat.testBit_two_pow_self]
    · have : decide (8 * (i / 8) + t < i + 1) = decide (8 * (i / 8) + t < i) := by rw [decide_eq_decide]; omega
      rw [this]
      have z : ((bitL L i).toNat * 2 ^ (7 - i % 8)).testBit (8 - 1 - t) = false := by
        cases bitL L i
        · simp
        · simp only [Bool.toNat_true, Nat.one_mul]
          rw [Nat.testBit_two_pow]
          rw [decide_eq_false_iff_not]
          omega
      rw [z, Bool.or_false]
theorem pack_cells (L : List Bool) : pack L = ⟨((List.range ((L.length + 7) / 8)).map fun i => UInt8.ofNat (byteL L i)).toArray⟩ := rfl

set_option maxHeartbeats 2000000 in
theorem bytesof_any (L : List Bool) (w : World) (hL : L.length ≤ 100000) :
    Calls Tryd.prog 32 #[.string (chars L)] w fun e w' => e = .returned (.string (pack L)) ∧ Only [] w w' := by
  obtain ⟨n, hn⟩ : ∃ n, n = L.length := ⟨_, rfl⟩
  obtain ⟨N, hN⟩ : ∃ N, N = (n + 7) / 8 := ⟨_, rfl⟩
  have hmk := run_make_row' (P := Tryd.prog) 51 5 (.int .u8 0) 1 und_bytes info_u8 rfl .i64 .i64 N (by omega) (by omega)
  have hN' : (N : Int) = ((n : Int) + 7) / 8 := by omega
  rw [hN'] at hmk
  have cs : (chars L).size = n := by rw [size_chars, hn]
  have CV := hid (char_val L)
  have PE := hid (pack_cells L)
  have n1 : (n : Int) ≤ 100000 := by omega
  have n0 : (0 : Int) ≤ (n : Int) := by omega
  have NN := hid hn
  have NB := hid hN
  generalize chars L = cl at *
  subst cs
  clear hn hN hL
  go_enter Tryd.func32, Tryd.ntmps32
  go_wp2_with fail
  generalize hwa : World.alloc w _ = wa
  have z : ∀ j, j < N → wa.cell? ⟨w.heap.size, j, none⟩ = some (.int .u8 0) := by intro j hj; rw [← hwa]; exact made_cell w N j hj
  have zf : ∀ j, wa.frozen? ⟨w.heap.size, j, none⟩ = false := by intro j; rw [← hwa]; exact World.frozen?_alloc_new w _ _ _
  have oa : Only [] w wa := by rw [← hwa]; exact (Only.refl [] w).alloc _
  have hge : w.heap.size ≤ w.heap.size := Nat.le_refl _
  obtain ⟨B, hB⟩ : ∃ B, B = w.heap.size := ⟨_, rfl⟩
  rw [← hB] at z zf hge ⊢
  have BE := hid hB
  have Z := hid z
  have ZF := hid zf
  have OA := hid oa
  clear z zf oa hwa hmk hB hge
  go_loopg [4] cl.size (fun g c wr => ∃ i : Nat, i + g = cl.size ∧ c = .int .i64 i ∧ (∀ j, j < N → wr.cell? ⟨B, j, none⟩ = some (.int .u8 (byteL (L.take i) j))) ∧ (∀ j, wr.frozen? ⟨B, j, none⟩ = false) ∧ Only [] w wr)
  case atStart => exact ⟨0, by omega, rfl, fun j hj => by rw [byteL_zero]; exact Z.out j hj, ZF.out, OA.out⟩
  case round =>
    obtain ⟨i, hi, rfl, r1, r3, r4⟩ := hrel
    have R1 := hid r1
    have R3 := hid r3
    have R4 := hid r4
    have IG := hid hi
    clear r1 r3 r4
    by_cases h0 : gk = 0
    · subst h0
      obtain rfl : i = cl.size := by omega
      have i1 : ¬ (cl.size : Int) < (cl.size : Int) := by omega
      clear hi
      have CVT : (convert 51 9 (.slice (some ⟨B, 0, none⟩) N N)).run Tryd.prog wr = .ok (.string (pack L)) wr := by
        have := run_convert_bytes_back wr 51 9 5 ⟨B, 0, none⟩ N ((List.range N).map fun i => UInt8.ofNat (byteL L i)) und_bytes und_u8 und_str (fun j hj => by
          rw [addr_add, R1.out j (by simpa using hj)]
          rw [List.take_of_length_le (by have := NN.out; omega)]
          have := byteL_lt L j
          simp [UInt8.toNat_ofNat', Nat.mod_eq_of_lt this])
        simp only [List.length_map, List.length_range] at this
        rw [this, PE.out, NB.out, NN.out]
      go_wp2_with fail
      go_ret
      exact ⟨rfl, R4.out⟩
    · have h1 : (i : Int) < (cl.size : Int) := by omega
      have i0 : (0 : Int) ≤ (i : Int) / 8 := by omega
      have i2 : (i : Int) / 8 < (N : Int) := by have := NB.out; omega
      have ib : (i : Int) ≤ 100000 := by omega
      have hiN : i / 8 < N := by omega
      have hb := R1.out (i / 8) hiN
      have hf := R3.out (i / 8)
      have hic : i < cl.size := by omega
      have CI := CV.out i hic
      have m0 : (0 : Int) ≤ (i : Int) % 8 := by omega
      have m1 : (i : Int) % 8 ≤ 7 := by omega
      have x8 := byteL_lt (L.take i) (i / 8)
      have ST := hid (byteL_step L i)
      generalize byteL (L.take i) (i / 8) = x at *
      have xb : (x : Int) ≤ 255 := by omega
      clear hi x8
      go_wp2_with fail
      go_region
      all_goals
        have VE : bits .or .u8 (x : Int) ((48 + ((bitL L i).toNat : Int) - 48) % 256 * 2 ^ (7 - i % 8) % 256) = ((x ||| ((bitL L i).toNat * 2 ^ (7 - i % 8)) : Nat) : Int) := by
          have hb1 : (bitL L i).toNat ≤ 1 := Bool.toNat_le _
          have k7 : 2 ^ (7 - i % 8) ≤ 2 ^ 7 := Nat.pow_le_pow_right (by omega) (by omega)
          have p7 : (2 : Nat) ^ 7 = 128 := by decide
          generalize (bitL L i).toNat = t at *
          have ht : t * 2 ^ (7 - i % 8) < 256 := by
            rcases (by omega : t = 0 ∨ t = 1) with rfl | rfl <;> omega
          have e1 : (48 + (t : Int) - 48) % 256 = (t : Int) := by omega
          have e2 : (t : Int) * 2 ^ (7 - i % 8) = ((t * 2 ^ (7 - i % 8) : Nat) : Int) := by rw [Int.natCast_mul, Int.natCast_pow]; rfl
          rw [e1, e2, Int.emod_eq_of_lt (by omega) (by omega), u8_or_nat _ _ (by omega) ht]
        rw [VE, ← ST.out]
        clear VE CI hb
        go_wp2_with fail
        go_roundg (gk - 1)
        case measure => omega
        case rel =>
          refine ⟨i + 1, by have := IG.out; omega, by go_num, fun j hj => ?_, fun j => ?_, ?_⟩
          · by_cases e : j = i / 8
            · subst e
              exact World.cell?_setCell_same _ _ _ (R1.out _ hj)
            · rw [byteL_same L i j e]
              exact (World.cell?_setCell_other _ _ _ _ (by intro e'; injection e' with _ e2 _; omega)).trans (R1.out j hj)
          · exact (World.frozen?_setCell _ _ _ _).trans (R3.out j)
          · exact (R4.out.setCell (.inr (by rw [BE.out]; exact Nat.le_refl _)) _).drew
end Go.Proofs.YtdkmeldcpamnnaaDoor

/- BitsSplits: it makes no difference whether bits are read or written as one number, or as two. -/
import Derived.Test.YtbbmmpjhpleceaaKnown
import Derived.OpenShut
import Derived.ProofKit
import Derived.Deep.LoopGhost
namespace Go.Proofs.Ytbbmmpjhpleceaa
open Go.RowKit
set_option linter.unusedVariables false

theorem rdU_one {s : ByteArray} {pos : Nat} (h : pos + 1 ≤ 8 * s.size) : rdU s pos 1 = ((bitAt s pos).toNat, 0, pos + 1) := by
  unfold rdU
  rw [if_neg (by omega), if_neg (by simp; omega)]
  simp [valOf]
theorem bit_yes (b : Nat) (s : ByteArray) (pos : Nat) (w : World) (h : Rd w b s pos) (hl : pos + 1 ≤ 8 * s.size) :
    Calls Try.prog 14 #[.pointer (some ⟨b, 0, none⟩)] w fun e w' => e = .returned (.tuple #[.int .u8 (bitAt s pos).toNat, .int .i64 0]) ∧ Rd w' b s (pos + 1) ∧ Only [b] w w' := by
  have := bit_any b s pos w h
  rw [rdU_one hl] at this
  exact this

theorem bitsOf_split (a b y z : Nat) (hz : z < 2 ^ b) : bitsOf (a + b) (y * 2 ^ b + z) = bitsOf a y ++ bitsOf b z := by
  apply List.ext_getElem
  · simp
  · intro i h1 h2
    simp at h1
    simp only [bitsOf, List.getElem_map, List.getElem_range]
    rw [List.getElem_append]
    rw [Nat.mul_comm, Nat.testBit_two_pow_mul_add _ hz]
    by_cases hi : i < a
    · rw [dif_pos (by simpa using hi), if_neg (by omega)]
      simp only [List.getElem_map, List.getElem_range]
      congr 1; omega
    · rw [dif_neg (by simpa using hi), if_pos (by omega)]
      simp only [List.getElem_map, List.getElem_range, List.length_map, List.length_range]
      congr 1; omega
theorem split_num (y z a b : Nat) (hy : y < 2 ^ a) (hz : z < 2 ^ b) (h : a + b ≤ 64) : IntKind.u64.wrap (IntKind.u64.wrap ((y : Int) * 2 ^ b) + (z : Int)) = ((y * 2 ^ b + z : Nat) : Int) := by
  have h1 : y * 2 ^ b + z < 2 ^ (a + b) := by
    rw [Nat.pow_add]
    have : (y + 1) * 2 ^ b ≤ 2 ^ a * 2 ^ b := Nat.mul_le_mul_right _ hy
    rw [Nat.add_mul, Nat.one_mul] at this
    omega
  have h2 := pow_le64 h
  have e : ((y : Int) * 2 ^ b) = ((y * 2 ^ b : Nat) : Int) := by rw [Int.natCast_mul, Int.natCast_pow]; rfl
  rw [e, wrap_nat _ (by omega), ← Int.natCast_add, wrap_nat _ (by omega)]

set_option maxRecDepth 100000 in
set_option maxHeartbeats 4000000 in
theorem splits_walk (s : ByteArray) (at' n k : Int) (w : World) (hs : s.size ≤ maxLen) (a0 : 0 ≤ at') (a1 : at' ≤ 65535) (n0 : 0 ≤ n) (n1 : n ≤ 255) (k0 : 0 ≤ k) (k1 : k ≤ 255) :
    Calls Try.prog 7 #[.string s, .int .u16 at', .int .u8 n, .int .u8 k] w fun e w' => e = .returned (.bool true) ∧ Only [] w w' := by
  unfold maxLen at hs
  by_cases h0 : 200 < s.size
  · have h0' : (200 : Int) < (s.size : Int) := by omega
    go_enter Try.func7, Try.ntmps7
    go_wp2_with (go_at_call 11; refine (known_any _).mono ?_; rintro e w1 ⟨rfl, ho1⟩)
    go_ret
    exact ⟨rfl, ho1⟩
  · have h0' : (s.size : Int) ≤ 200 := by omega
    clear hs
    go_enter Try.func7, Try.ntmps7
    go_wp2_with fail
    refine (read_any s w (by omega)).mono ?_
    rintro e w1 ⟨rfl, hr1, ho1⟩
    have hge : w.heap.size ≤ w.heap.size := Nat.le_refl _
    generalize hr : w.heap.size = r at hr1 hge ⊢
    have RW := hid (fun x (hx : x ∈ [r]) => (Or.inr (by rw [List.mem_singleton.1 hx, hr]; exact Nat.le_refl _) : x ∈ ([] : List Nat) ∨ w.heap.size ≤ x))
    have RG := hid (show w.heap.size ≤ r by rw [hr]; exact Nat.le_refl _)
    clear hr hge
    have R1 := hid hr1
    have O1 := hid ho1
    clear hr1 ho1
    obtain ⟨N, hN⟩ : ∃ N : Nat, (N : Int) = at' % (8 * (s.size : Int) + 1) := ⟨(at' % (8 * (s.size : Int) + 1)).toNat, by have := Int.emod_nonneg at' (show (8 * (s.size : Int) + 1) ≠ 0 by omega); omega⟩
    have hN8 : N ≤ 8 * s.size := by have := Int.emod_lt_of_pos at' (show 0 < (8 * (s.size : Int) + 1) by omega); omega
    have HN := hid hN
    have p0 : 0 ≤ at' % (8 * (s.size : Int) + 1) := by omega
    clear hN
    go_wp2_with fail
    rw [← HN.out]
    go_loopg [10] N (fun g i wr => i = .int .i64 g ∧ ∃ pos : Nat, g + pos = N ∧ Rd wr r s pos ∧ Only [] w wr)
    case atStart => exact ⟨rfl, 0, by omega, R1.out, O1.out⟩
    case round =>
      obtain ⟨rfl, pos, hp, hR, hO⟩ := hrel
      have R := hid hR
      have O := hid hO
      have PN := hid hp
      clear hR hO
      by_cases hg : gk = 0
      · subst hg
        obtain rfl : pos = N := by omega
        clear hp
        go_wp2_with fail
        refine (copy_any r s pos _ R.out).mono ?_
        rintro e w2 ⟨rfl, hC2, hO2⟩
        have hrc : r < wr.heap.size := R.out.lt
        generalize hcc : wr.heap.size = c at hC2 hrc ⊢
        clear hcc
        have C2 := hid hC2
        have R2 := hid (R.out.only hO2 (by simp))
        have O2 := hid (O.out.trans hO2)
        have RC := hid (show r ∉ [c] from fun h => by have := List.mem_singleton.1 h; omega)
        have CR := hid (show c ∉ [r] from fun h => by have := List.mem_singleton.1 h; omega)
        have CW := hid (fun x (hx : x ∈ [c]) => (Or.inr (by rw [List.mem_singleton.1 hx]; have := RG.out; omega) : x ∈ ([] : List Nat) ∨ w.heap.size ≤ x))
        clear hC2 hO2
        go_wp2_with fail
        refine (left_any r s pos _ R2.out).mono ?_
        rintro e w3 ⟨rfl, n3, rfl⟩
        have R3 := hid (R2.out.drewN n3)
        have C3 := hid (C2.out.drewN n3)
        have O3 := hid (O2.out.drewN n3)
        generalize w2.drewN n3 = w3 at R3 C3 O3 ⊢
        obtain ⟨m, hm⟩ : ∃ m : Nat, (m : Int) = min (n % 65) (8 * (s.size : Int) - (pos : Int)) := ⟨(min (n % 65) (8 * (s.size : Int) - (pos : Int))).toNat, by omega⟩
        have hm64 : m ≤ 64 := by omega
        have hms : pos + m ≤ 8 * s.size := by omega
        have hm0 : (0 : Int) ≤ min (n % 65) (8 * (s.size : Int) - (pos : Int)) := by omega
        have hm1 : min (n % 65) (8 * (s.size : Int) - (pos : Int)) ≤ 64 := by omega
        have HM := hid hm
        obtain ⟨fi, hf⟩ : ∃ fi : Nat, (fi : Int) = k % ((m : Int) + 1) := ⟨(k % ((m : Int) + 1)).toNat, by have := Int.emod_nonneg k (show ((m : Int) + 1) ≠ 0 by omega); omega⟩
        have hfm : fi ≤ m := by have := Int.emod_lt_of_pos k (show 0 < ((m : Int) + 1) by omega); omega
        have HF := hid hf
        clear hm hf
        go_wp2_with fail
        rw [← HM.out, ← HF.out]
        obtain ⟨d, hd⟩ : ∃ d, m = fi + d := ⟨m - fi, by omega⟩
        subst hd
        have hd64 : d ≤ 64 := by omega
        have hdi : ((fi + d : Nat) : Int) - (fi : Int) = (d : Int) := by omega
        have HD := hid hdi
        clear hm0 hm1 hdi
        have hx := valOf_add s pos fi d
        have hy := valOf_lt s pos fi
        have hz := valOf_lt s (pos + fi) d
        have e1 := split_num _ _ _ _ hy hz hm64
        have e2 := bitsOf_split fi d (valOf s pos fi) (valOf s (pos + fi) d) hz
        have hxx := valOf_lt s pos (fi + d)
        have hf0 : d = 64 → valOf s pos (fi + d) = valOf s (pos + fi) d := by
          intro h64
          obtain rfl : fi = 0 := by omega
          rw [Nat.zero_add]; rfl
        rw [← hx] at e1 e2
        have P1 := fun b w h => u_yes b s pos (fi + d) w h hm64 hms
        have P2 := fun b w h => u_yes b s pos fi w h (by omega) (by omega)
        have P3 := fun b w h => u_yes b s (pos + fi) d w h hd64 (by omega)
        generalize valOf s pos (fi + d) = x at *
        generalize valOf s pos fi = y at *
        generalize valOf s (pos + fi) d = z at *
        have E1 := hid e1
        have E2 := hid e2
        have F0 := hid hf0
        have HX := hid hxx
        have HY := hid hy
        have HZ := hid hz
        have P1 := hid P1
        have P2 := hid P2
        have P3 := hid P3
        clear e1 e2 hf0 hxx hy hz hx
        refine (P1.out r w3 R3.out).mono ?_
        rintro e w4 ⟨rfl, hR4, hO4⟩
        have R4 := hid hR4
        have C4 := hid (C3.out.only hO4 CR.out)
        have O4 := hid (O3.out.trans2 hO4 RW.out)
        clear hR4 hO4
        go_wp2_with fail
        refine (P2.out c w4 C4.out).mono ?_
        rintro e w5 ⟨rfl, hC5, hO5⟩
        have C5 := hid hC5
        have R5 := hid (R4.out.only hO5 RC.out)
        have O5 := hid (O4.out.trans2 hO5 CW.out)
        clear hC5 hO5
        go_wp2_with fail
        rw [show (fi : Int) + (d : Int) - (fi : Int) = (d : Int) from by omega]
        refine (P3.out c w5 C5.out).mono ?_
        rintro e w6 ⟨rfl, hC6, hO6⟩
        rw [Nat.add_assoc] at hC6
        have C6 := hid hC6
        have R6 := hid (R5.out.only hO6 RC.out)
        have O6 := hid (O5.out.trans2 hO6 CW.out)
        clear hC6 hO6
        go_wp2_with fail
        refine (pos_any r s _ w6 R6.out).mono ?_
        rintro e w7 ⟨rfl, rfl⟩
        go_wp2_with fail
        refine (pos_any c s _ w6 C6.out).mono ?_
        rintro e w7 ⟨rfl, rfl⟩
        by_cases h64 : d = 64
        · have hxz : ((x : Int) != (z : Int)) = false := by rw [F0.out h64]; simp
          have hd1 : ((d : Int) == 64) = true := by rw [h64]; rfl
          have hd2 : (64 : Int) ≤ (d : Int) := by omega
          have H64 := hid h64
          clear h64
          go_wp2_with fail
          refine (write_any w6).mono ?_
          rintro e w7 ⟨rfl, hW7, hO7⟩
          have hlt := hW7.lt
          have hcw := O6.out.size
          generalize hcc : w6.heap.size = p at hW7 hlt hcw ⊢
          clear hcc
          have W7 := hid hW7
          have O7 := hid (O6.out.trans hO7)
          clear hW7 hO7
          go_wp2_with fail
          refine (write_any w7).mono ?_
          rintro e w8 ⟨rfl, hV8, hO8⟩
          have hlt8 := hV8.lt
          generalize hcc : w7.heap.size = q at hV8 hlt8 hlt ⊢
          clear hcc
          have V8 := hid hV8
          have W8 := hid (W7.out.only hO8 (by simp) (by simp))
          have O8 := hid (O7.out.trans hO8)
          have qp : q ≠ p := by omega
          clear hV8 hO8
          have PW := hid (show ∀ g, g ∈ p :: ownOf (Value.slice none 0 0) → g ∈ ([] : List Nat) ∨ w.heap.size ≤ g from fun g hg => .inr (by simp [ownOf, Value.ownBlock] at hg; omega))
          have QP := hid (show q ∉ p :: ownOf (Value.slice none 0 0) from by simp [ownOf, Value.ownBlock]; exact qp)
          go_wp2_with fail
          refine (put_yes p _ [] (fi + d) x w8 W8.out hm64 HX.out (by simp; omega)).mono ?_
          rintro e w9 ⟨rfl, sw, hW9, hS9, hO9⟩
          rw [List.nil_append] at hW9
          have W9 := hid hW9
          have V9 := hid (V8.out.only hO9 QP.out (by simp [ownOf, Value.ownBlock]))
          have O9 := hid (O8.out.trans2 hO9 PW.out)
          have lt8 : q < w8.heap.size := V8.out.lt
          have SW := hid (show ∀ g, g ∈ ownOf sw → q < g from fun g hg => by rcases hS9 g hg with h | h; simp [ownOf, Value.ownBlock] at h; omega)
          clear hW9 hS9 hO9 lt8
          go_wp2_with fail
          refine (put_yes q _ [] fi y w9 V9.out (by omega) HY.out (by simp; omega)).mono ?_
          rintro e w10 ⟨rfl, sv, hV10, hS10, hO10⟩
          rw [List.nil_append] at hV10
          have V10 := hid hV10
          have W10 := hid (W9.out.only hO10 (by simp [ownOf, Value.ownBlock]; exact Ne.symm qp) (fun g hg h => by simp [ownOf, Value.ownBlock] at h; have := SW.out g hg; omega))
          have O10 := hid (O9.out.trans2 hO10 (fun g hg => .inr (by simp [ownOf, Value.ownBlock] at hg; omega)))
          have S10 := hid (show ∀ g, g ∈ ownOf sv → w9.heap.size ≤ g from fun g hg => by rcases hS10 g hg with h | h; simp [ownOf, Value.ownBlock] at h; exact h)
          have swlt := hid W9.out.row.lt
          have p9 := W9.out.lt
          have w9s := O9.out.size
          clear hV10 hS10 hO10
          go_wp2_with fail
          have PU := put_yes q sv (bitsOf fi y) d z w10 V10.out hd64 HZ.out (by simp; omega)
          rw [show ((d : Nat) : Int) = 64 from by have := H64.out; omega] at PU
          refine PU.mono ?_
          rintro e w11 ⟨rfl, sv', hV11, hS11, hO11⟩
          rw [← E2.out] at hV11
          have V11 := hid hV11
          have W11 := hid (W10.out.only hO11 (fun h => by rcases List.mem_cons.1 h with h | h; exact qp h.symm; have := S10.out p h; omega) (fun g hg h => by rcases List.mem_cons.1 h with h | h; have := SW.out g hg; omega; have := S10.out g h; have := swlt.out g hg; omega))
          have O11 := hid (O10.out.trans2 hO11 (fun g hg => .inr (by rcases List.mem_cons.1 hg with h | h; omega; have := S10.out g h; omega)))
          clear hV11 hS11 hO11
          go_wp2_with fail
          refine (bits_any p sw _ w11 W11.out).mono ?_
          rintro e w12 ⟨rfl, hO12⟩
          have V12 := hid (V11.out.only hO12 (by simp) (by simp))
          have O12 := hid (O11.out.trans hO12)
          clear hO12
          go_wp2_with fail
          refine (bits_any q sv' _ w12 V12.out).mono ?_
          rintro e w13 ⟨rfl, hO13⟩
          have O13 := hid (O12.out.trans hO13)
          clear hO13
          go_wp2_with fail
          refine (known_any w13).mono ?_
          rintro e w14 ⟨rfl, hO14⟩
          go_wp2_with fail
          go_ret
          exact ⟨rfl, O13.out.trans hO14⟩
        · have hd63 : (d : Int) < 64 := by omega
          have hE : ((x : Int) != IntKind.u64.wrap (IntKind.u64.wrap ((y : Int) * 2 ^ d) + (z : Int))) = false := by rw [E1.out]; simp
          clear h64
          go_wp2_with fail
          refine (write_any w6).mono ?_
          rintro e w7 ⟨rfl, hW7, hO7⟩
          have hlt := hW7.lt
          have hcw := O6.out.size
          generalize hcc : w6.heap.size = p at hW7 hlt hcw ⊢
          clear hcc
          have W7 := hid hW7
          have O7 := hid (O6.out.trans hO7)
          clear hW7 hO7
          go_wp2_with fail
          refine (write_any w7).mono ?_
          rintro e w8 ⟨rfl, hV8, hO8⟩
          have hlt8 := hV8.lt
          generalize hcc : w7.heap.size = q at hV8 hlt8 hlt ⊢
          clear hcc
          have V8 := hid hV8
          have W8 := hid (W7.out.only hO8 (by simp) (by simp))
          have O8 := hid (O7.out.trans hO8)
          have qp : q ≠ p := by omega
          clear hV8 hO8
          have PW := hid (show ∀ g, g ∈ p :: ownOf (Value.slice none 0 0) → g ∈ ([] : List Nat) ∨ w.heap.size ≤ g from fun g hg => .inr (by simp [ownOf, Value.ownBlock] at hg; omega))
          have QP := hid (show q ∉ p :: ownOf (Value.slice none 0 0) from by simp [ownOf, Value.ownBlock]; exact qp)
          go_wp2_with fail
          refine (put_yes p _ [] (fi + d) x w8 W8.out hm64 HX.out (by simp; omega)).mono ?_
          rintro e w9 ⟨rfl, sw, hW9, hS9, hO9⟩
          rw [List.nil_append] at hW9
          have W9 := hid hW9
          have V9 := hid (V8.out.only hO9 QP.out (by simp [ownOf, Value.ownBlock]))
          have O9 := hid (O8.out.trans2 hO9 PW.out)
          have lt8 : q < w8.heap.size := V8.out.lt
          have SW := hid (show ∀ g, g ∈ ownOf sw → q < g from fun g hg => by rcases hS9 g hg with h | h; simp [ownOf, Value.ownBlock] at h; omega)
          clear hW9 hS9 hO9 lt8
          go_wp2_with fail
          refine (put_yes q _ [] fi y w9 V9.out (by omega) HY.out (by simp; omega)).mono ?_
          rintro e w10 ⟨rfl, sv, hV10, hS10, hO10⟩
          rw [List.nil_append] at hV10
          have V10 := hid hV10
          have W10 := hid (W9.out.only hO10 (by simp [ownOf, Value.ownBlock]; exact Ne.symm qp) (fun g hg h => by simp [ownOf, Value.ownBlock] at h; have := SW.out g hg; omega))
          have O10 := hid (O9.out.trans2 hO10 (fun g hg => .inr (by simp [ownOf, Value.ownBlock] at hg; omega)))
          have S10 := hid (show ∀ g, g ∈ ownOf sv → w9.heap.size ≤ g from fun g hg => by rcases hS10 g hg with h | h; simp [ownOf, Value.ownBlock] at h; exact h)
          have swlt := hid W9.out.row.lt
          have p9 := W9.out.lt
          have w9s := O9.out.size
          clear hV10 hS10 hO10
          go_wp2_with fail
          have PU := put_yes q sv (bitsOf fi y) d z w10 V10.out hd64 HZ.out (by simp; omega)
          rw [show (fi : Int) + (d : Int) - (fi : Int) = (d : Int) from by omega]
          refine PU.mono ?_
          rintro e w11 ⟨rfl, sv', hV11, hS11, hO11⟩
          rw [← E2.out] at hV11
          have V11 := hid hV11
          have W11 := hid (W10.out.only hO11 (fun h => by rcases List.mem_cons.1 h with h | h; exact qp h.symm; have := S10.out p h; omega) (fun g hg h => by rcases List.mem_cons.1 h with h | h; have := SW.out g hg; omega; have := S10.out g h; have := swlt.out g hg; omega))
          have O11 := hid (O10.out.trans2 hO11 (fun g hg => .inr (by rcases List.mem_cons.1 hg with h | h; omega; have := S10.out g h; omega)))
          clear hV11 hS11 hO11
          go_wp2_with fail
          refine (bits_any p sw _ w11 W11.out).mono ?_
          rintro e w12 ⟨rfl, hO12⟩
          have V12 := hid (V11.out.only hO12 (by simp) (by simp))
          have O12 := hid (O11.out.trans hO12)
          clear hO12
          go_wp2_with fail
          refine (bits_any q sv' _ w12 V12.out).mono ?_
          rintro e w13 ⟨rfl, hO13⟩
          have O13 := hid (O12.out.trans hO13)
          clear hO13
          go_wp2_with fail
          refine (known_any w13).mono ?_
          rintro e w14 ⟨rfl, hO14⟩
          go_wp2_with fail
          go_ret
          exact ⟨rfl, O13.out.trans hO14⟩
      · have hg' : (0 : Int) < (gk : Int) := by omega
        have hp1 : pos + 1 ≤ 8 * s.size := by omega
        have hgk : (gk : Int) ≤ 1600 := by omega
        clear hp
        go_wp2_with fail
        refine (bit_yes r s pos _ R.out hp1).mono ?_
        rintro e w2 ⟨rfl, hR2, hO2⟩
        have R2 := hid hR2
        have O2 := hid (O.out.trans2 hO2 RW.out)
        clear hR2 hO2
        go_wp2_with fail
        go_roundg (gk - 1)
        case measure => omega
        case rel => exact ⟨by rw [show ((gk - 1 : Nat) : Int) = (gk : Int) - 1 from by omega], pos + 1, by have := PN.out; omega, R2.out, O2.out⟩

open Go.ChangeShapes Go.WideShapes Go.ChangeAt
open Go.ChangeMaps (open_string)
theorem bitsSplits_core {H : Type} {enc : TypeId × Value → H} (W : World) (base : Nat) (v0 : Value) (d0 : DataW H) (p0 : List MemPlace) (k0 : Value.okWide Try.prog W .any base 9 v0) (h0 : DataW.Trod enc Try.prog W 0 (fun _ => true) true 9 v0 d0 p0)
    (v1 : Value) (d1 : DataW H) (p1 : List MemPlace) (k1 : Value.okWide Try.prog W .any base 50 v1) (h1 : DataW.Trod enc Try.prog W 0 (fun _ => true) true 50 v1 d1 p1)
    (v2 : Value) (d2 : DataW H) (p2 : List MemPlace) (k2 : Value.okWide Try.prog W .any base 5 v2) (h2 : DataW.Trod enc Try.prog W 0 (fun _ => true) true 5 v2 d2 p2)
    (v3 : Value) (d3 : DataW H) (p3 : List MemPlace) (k3 : Value.okWide Try.prog W .any base 5 v3) (h3 : DataW.Trod enc Try.prog W 0 (fun _ => true) true 5 v3 d3 p3) :
    Calls Try.prog 7 #[v0, v1, v2, v3] W fun e w' => e = .returned (.bool true) ∧ Below W.heap.size W w' := by
  obtain ⟨s, rfl, rfl, rfl, w0⟩ := open_string Try.underlying9 k0 h0
  obtain ⟨a, rfl, rfl, rfl, w1⟩ := open_int Try.underlying50 k1 h1
  obtain ⟨b, rfl, rfl, rfl, w2⟩ := open_int Try.underlying5 k2 h2
  obtain ⟨c, rfl, rfl, rfl, w3⟩ := open_int Try.underlying5 k3 h3
  have ba := bounds_u16 w1
  have bb := bounds_u8 w2
  have bc := bounds_u8 w3
  exact (splits_walk s a b c W w0 ba.1 ba.2 bb.1 bb.2 bc.1 bc.2).mono fun e w' ⟨he, ho⟩ => ⟨he, ho.below (Nat.le_refl _) (by simp)⟩
end Go.Proofs.Ytbbmmpjhpleceaa

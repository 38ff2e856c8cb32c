/- BitsBytes: the bits of a string, one by one, are those of its bytes; Bits and Bytes say the same. -/
import Derived.Test.YtbbmmpjhpleceaaSplits
import Derived.Test.YtbbmmpjhpleceaaSt
namespace Go.Proofs.Ytbbmmpjhpleceaa
open Go.RowKit
set_option linter.unusedVariables false

/-- The first n bits of a string, as a list. -/
def bitsS (s : ByteArray) (n : Nat) : List Bool := (List.range n).map (bitAt s)
@[simp] theorem length_bitsS (s : ByteArray) (n : Nat) : (bitsS s n).length = n := by simp [bitsS]
theorem bitsS_succ (s : ByteArray) (n : Nat) : bitsS s (n + 1) = bitsS s n ++ bitsOf 1 (bitAt s n).toNat := by
  unfold bitsS
  rw [List.range_succ, List.map_append]
  congr 1
  simp only [List.map_cons, List.map_nil]
  cases bitAt s n <;> rfl
theorem bitL_bitsS (s : ByteArray) (n i : Nat) (h : i < n) : bitL (bitsS s n) i = bitAt s i := by
  simp [bitL, bitsS, h]
theorem valOf_whole (s : ByteArray) (i : Nat) : valOf s (8 * i) 8 = (s.data.getD i 0).toNat := by
  rw [valOf_byte s (8 * i) 8 (by omega), show 8 * i / 8 = i from by omega, show 8 - 8 * i % 8 - 8 = 0 from by omega, Nat.pow_zero, Nat.div_one, Nat.mod_eq_of_lt (UInt8.toNat_lt _)]
theorem pack_bitsS (s : ByteArray) : pack (bitsS s (8 * s.size)) = s := by
  apply ByteArray.ext
  apply Array.ext
  · show (pack (bitsS s (8 * s.size))).size = s.size
    rw [size_pack, length_bitsS]; omega
  · intro i h1 h2
    have hi : i < s.size := h2
    have e1 : byteL (bitsS s (8 * s.size)) i = s.data[i].toNat := by
      have : byteL (bitsS s (8 * s.size)) i = valOf s (8 * i) 8 := by
        rw [valOf_eq]; exact valF_congr fun j hj => bitL_bitsS s _ _ (by omega)
      rw [this, valOf_whole, getD_at s i hi]; rfl
    simp only [pack, packN, List.getElem_toArray, List.getElem_map, List.getElem_range]
    rw [e1]
    simp
theorem char_at (s : ByteArray) (n i : Nat) (h : i < n) (h2 : i < (chars (bitsS s n)).size) : (((chars (bitsS s n))[i]'h2).toNat : Int) = (48 + ((bitAt s i).toNat : Int)) := by
  have e : (chars (bitsS s n))[i]'h2 = (if bitAt s i then 49 else 48) := by
    show ((bitsS s n).map fun b => if b then (49 : UInt8) else 48).toArray[i]'_ = _
    simp [bitsS]
  rw [e]
  cases bitAt s i <;> rfl

set_option maxRecDepth 100000 in
set_option maxHeartbeats 4000000 in
theorem bytes_walk (s : ByteArray) (w : World) (hs : s.size ≤ maxLen) :
    Calls Try.prog 9 #[.string s] w fun e w' => e = .returned (.bool true) ∧ Only [] w w' := by
  unfold maxLen at hs
  by_cases h0 : 200 < s.size
  · have h0' : (200 : Int) < (s.size : Int) := by omega
    go_enter Try.func9, Try.ntmps9
    go_wp2_with (go_at_call 11; refine (known_any _).mono ?_; rintro e w1 ⟨rfl, ho1⟩)
    go_ret
    exact ⟨rfl, ho1⟩
  · have h1 : (s.size : Int) ≤ 200 := by omega
    have h1' : s.size ≤ 200 := by omega
    clear h0 hs
    go_enter Try.func9, Try.ntmps9
    go_wp2_with fail
    refine (read_any s w (by omega)).mono ?_
    rintro e w1 ⟨rfl, hr1, ho1⟩
    go_wp2_with fail
    refine (write_any w1).mono ?_
    rintro e w2 ⟨rfl, hw2, ho2⟩
    have hlt := hr1.lt
    obtain ⟨r, hr⟩ : ∃ r, r = w.heap.size := ⟨_, rfl⟩
    obtain ⟨c, hcc⟩ : ∃ c, c = w1.heap.size := ⟨_, rfl⟩
    rw [← hr] at hr1 hlt ⊢
    rw [← hcc] at hw2 hlt ⊢
    have S0 := hid (show St w r c s w2 0 (.slice none 0 0) (bitsS s 0) from ⟨hr1.only ho2 (by simp), hw2, by simp [ownOf, Value.ownBlock], by simp [ownOf, Value.ownBlock], by omega, by omega, by omega, ho1.trans ho2⟩)
    clear hr1 hw2 ho1 ho2 hr hcc
    go_wp2_with fail
    go_loopg [5] s.size (fun g i wr => ∃ (j : Nat) (sv : Value), j + g = s.size ∧ i = .int .i64 j ∧ St w r c s wr (8 * j) sv (bitsS s (8 * j)))
    case atStart => exact ⟨0, _, by omega, rfl, S0.out⟩
    case round =>
      obtain ⟨j, sv, hj, rfl, hS⟩ := hrel
      have S := hid hS
      have J := hid hj
      clear hS
      by_cases hg : gk = 0
      · obtain rfl : j = s.size := by omega
        clear hj
        have PB := pack_bitsS s
        have PB' := hid PB
        clear PB
        go_wp2_with fail
        refine (bytes_any c sv _ wr S.out.wr).mono ?_
        rw [PB'.out]
        rintro e w3 ⟨rfl, hO3⟩
        have S3 := hid (S.out.keep hO3)
        clear hO3
        go_wp2_with fail
        refine (left_any r s _ w3 S3.out.rd).mono ?_
        rintro e w4 ⟨rfl, n4, rfl⟩
        go_wp2_with fail
        refine (known_any _).mono ?_
        rintro e w5 ⟨rfl, hO5⟩
        go_wp2_with fail
        go_ret
        exact ⟨rfl, (S3.out.only.drewN n4).trans hO5⟩
      · have i1 : (j : Int) < (s.size : Int) := by omega
        have hjs : j < s.size := by omega
        clear hj
        go_wp2_with fail
        obtain ⟨g1, rfl⟩ : ∃ g1, g1 = gk := ⟨_, rfl⟩
        obtain ⟨wo, rfl⟩ : ∃ wo : World, wo = wr := ⟨_, rfl⟩
        go_loopg [6, 7] 8 (fun g n i wr => ∃ (k : Nat) (sv : Value), k + g = 8 ∧ i = .int .i64 k ∧ n = .int .i64 (valOf s (8 * j) k) ∧ St w r c s wr (8 * j + k) sv (bitsS s (8 * j + k)))
        case atStart => exact ⟨0, sv, by omega, rfl, rfl, S.out⟩
        case round =>
          obtain ⟨k, sv, hk, rfl, rfl, hS⟩ := hrel
          have S := hid hS
          have K := hid hk
          clear hS
          by_cases hg8 : gk = 0
          · obtain rfl : k = 8 := by omega
            clear hk
            rw [show valOf s (8 * j) 8 = s[j].toNat by rw [valOf_whole, getD_at s j hjs]]
            have hwb : ((s[j].toNat : Int) != wrap64 (s[j].toNat : Int)) = false := by
              have h256 : s[j].toNat < 256 := UInt8.toNat_lt _
              rw [show wrap64 (s[j].toNat : Int) = (s[j].toNat : Int) from by unfold wrap64; omega]; simp
            go_wp2_with fail
            go_roundg (g1 - 1)
            case measure => omega
            case rel => exact ⟨j + 1, sv, by have := J.out; omega, by go_num, by have := S.out; rw [show 8 * (j + 1) = 8 * j + 8 from by omega]; exact this⟩
          · have hk8 : k < 8 := by omega
            have hk8' : (k : Int) < 8 := by omega
            have hp1 : 8 * j + k + 1 ≤ 8 * s.size := by omega
            have PB := fun w h => bit_yes r s (8 * j + k) w h hp1
            have BS := hid (bitsS_succ s (8 * j + k))
            have VS := hid (show valOf s (8 * j) (k + 1) = 2 * valOf s (8 * j) k + (bitAt s (8 * j + k)).toNat from rfl)
            have hvl := valOf_lt s (8 * j) k
            have hv256 : 2 ^ k ≤ 256 := Nat.le_trans (Nat.pow_le_pow_right (by omega) (show k ≤ 8 by omega)) (by decide)
            have hx1 : (bitAt s (8 * j + k)).toNat ≤ 1 := Bool.toNat_le _
            have CS := hid (show (chars (bitsS s (8 * j + k + 1))).size = 8 * j + k + 1 by simp)
            have CA := hid (fun h2 => char_at s (8 * j + k + 1) (8 * j + k) (by omega) h2)
            generalize (bitAt s (8 * j + k)).toNat = x at *
            generalize valOf s (8 * j) k = v at *
            have PB := hid PB
            have hv2 : v ≤ 256 := by omega
            have hx2 : (x : Int) ≤ 1 := by omega
            clear hvl hv256 hk
            go_wp2_with fail
            refine (PB.out wr S.out.rd).mono ?_
            rintro e w3 ⟨rfl, hR3, hO3⟩
            have S3 := hid (S.out.read hR3 hO3)
            clear hR3 hO3
            go_wp2_with fail
            refine (put_yes c sv _ 1 x w3 S3.out.wr (by omega) (by omega) (by simp; omega)).mono ?_
            rw [← BS.out]
            rintro e w4 ⟨rfl, sv', hW4, hS4, hO4⟩
            have S4 := hid (S3.out.put hW4 hS4 hO4)
            clear hW4 hS4 hO4
            have PC := hid (fun w h => bits_any c sv' (bitsS s (8 * j + k + 1)) w h)
            generalize hcl : chars (bitsS s (8 * j + k + 1)) = cl at *
            clear hcl
            have hcs : 8 * j + k < cl.size := by have := CS.out; omega
            have hcs' : ((8 : Int) * (j : Int) + (k : Int)) < (cl.size : Int) := by omega
            have hcs0 : (0 : Int) ≤ ((8 : Int) * (j : Int) + (k : Int)) := by omega
            have CA2 := CA.out hcs
            have CB := hid CA2
            clear CA2
            have hj200 : (j : Int) ≤ 200 := by omega
            go_wp2_with fail
            refine (PC.out w4 S4.out.wr).mono ?_
            rintro e w5 ⟨rfl, hO5⟩
            have S5 := hid (S4.out.keep hO5)
            clear hO5
            have hcz : (cl.size : Int) = 8 * (j : Int) + (k : Int) + 1 := by have := CS.out; omega
            go_wp2_with fail
            refine (PC.out w5 S5.out.wr).mono ?_
            rintro e w6 ⟨rfl, hO6⟩
            have S6 := hid (S5.out.keep hO6)
            clear hO6
            have hcb : (((cl[8 * j + k]'hcs).toNat : Int) != 48 + (x : Int)) = false := by rw [CB.out]; simp
            go_wp2_with fail
            go_roundg (gk - 1)
            case measure => omega
            case rel => exact ⟨k + 1, sv', by have := K.out; omega, by go_num, by rw [VS.out]; go_num, S6.out⟩

open Go.ChangeShapes Go.WideShapes Go.ChangeAt
open Go.ChangeMaps (open_string)
theorem bitsBytes_core {H : Type} {enc : TypeId × Value → H} (W : World) (base : Nat) (v0 : Value) (d0 : DataW H) (p0 : List MemPlace) (k0 : Value.okWide Try.prog W .any base 9 v0) (h0 : DataW.Trod enc Try.prog W 0 (fun _ => true) true 9 v0 d0 p0) :
    Calls Try.prog 9 #[v0] W fun e w' => e = .returned (.bool true) ∧ Below W.heap.size W w' := by
  obtain ⟨s, rfl, rfl, rfl, w0⟩ := open_string Try.underlying9 k0 h0
  exact (bytes_walk s W w0).mono fun e w' ⟨he, ho⟩ => ⟨he, ho.below (Nat.le_refl _) (by simp)⟩
end Go.Proofs.Ytbbmmpjhpleceaa

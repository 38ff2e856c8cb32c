/- Bytes of a writer of the reference. -/
import Derived.Test.YtbbmmpjhpleceaaApp
import Derived.Test.YtbbmmpjhpleceaaPutM
import Derived.BigRegion
namespace Go.Proofs.Ytbbmmpjhpleceaa
open Go.RowKit
set_option linter.unusedVariables false

theorem byteL_last (l : List Bool) (b : Bool) : byteL (l ++ [b]) (l.length / 8) = byteL l (l.length / 8) ||| b.toNat * 2 ^ (7 - l.length % 8) := by
  symm
  have h1 : b.toNat * 2 ^ (7 - l.length % 8) < 2 ^ 8 := by
    have : b.toNat ≤ 1 := Bool.toNat_le _
    have h2 : 2 ^ (7 - l.length % 8) ≤ 2 ^ 7 := Nat.pow_le_pow_right (by omega) (by omega)
    have h3 : b.toNat * 2 ^ (7 - l.length % 8) ≤ 1 * 2 ^ (7 - l.length % 8) := Nat.mul_le_mul_right _ this
    have : (2 : Nat) ^ 7 = 128 := rfl
    have : (2 : Nat) ^ 8 = 256 := rfl
    omega
  refine eq_valF _ _ _ _ (Nat.or_lt_two_pow (valF_lt _ _ 8) h1) fun j hj => ?_
  rw [Nat.testBit_or, show byteL l (l.length / 8) = valF (bitL l) (8 * (l.length / 8)) 8 from rfl, valF_bit _ _ _ _ hj, bitL_append, bit_shl]
  by_cases h : 8 * (l.length / 8) + j < l.length
  · rw [if_pos h]
    obtain ⟨k, hk⟩ : ∃ k, 8 - 1 - j - (7 - l.length % 8) = k + 1 := ⟨8 - 1 - j - (7 - l.length % 8) - 1, by omega⟩
    rw [hk]
    cases b <;> simp [Nat.testBit_succ]
  · rw [if_neg h, bitL_of_le l _ (by omega), Bool.false_or]
    by_cases e : 8 * (l.length / 8) + j = l.length
    · have h2 : 7 - l.length % 8 ≤ 8 - 1 - j := by omega
      have h3 : 8 - 1 - j - (7 - l.length % 8) = 0 := by omega
      rw [h3, e, Nat.sub_self]
      cases b <;> simp [h2, bitL]
    · rw [bitL_of_le _ _ (by simp; omega)]
      have h2 : ¬ 7 - l.length % 8 ≤ 8 - 1 - j := by omega
      rw [decide_eq_false h2, Bool.false_and]
theorem packN_snoc_new (l : List Bool) (b : Bool) (h : l.length % 8 = 0) : packN (l ++ [b]) (l.length / 8 + 1) = packN l (l.length / 8) ++ [UInt8.ofNat (b.toNat * 2 ^ (7 - l.length % 8))] := by
  rw [packN_append l [b] (l.length / 8) 1 (by omega)]
  congr 1
  simp only [List.range_succ, List.range_zero, List.nil_append, List.map_cons, List.map_nil, Nat.add_zero]
  rw [byteL_last]
  have e : byteL l (l.length / 8) = 0 := by
    unfold byteL
    have : ∀ n, valF (bitL l) (8 * (l.length / 8)) n = 0 := by
      intro n
      induction n with
      | zero => rfl
      | succ n ih => simp only [valF, ih]; rw [bitL_of_le _ _ (by omega)]; rfl
    exact this 8
  rw [e, Nat.zero_or]
theorem packN_snoc_old (l : List Bool) (b : Bool) : packN (l ++ [b]) (l.length / 8 + 1) = (packN l (l.length / 8 + 1)).set (l.length / 8) (UInt8.ofNat (byteL l (l.length / 8) ||| b.toNat * 2 ^ (7 - l.length % 8))) := by
  apply List.ext_getElem
  · simp
  · intro i h1 h2
    simp at h1
    rw [List.getElem_set]
    by_cases e : l.length / 8 = i
    · subst e
      rw [if_pos rfl]
      simp only [packN, List.getElem_map, List.getElem_range]
      rw [byteL_last]
    · rw [if_neg e]
      simp only [packN, List.getElem_map, List.getElem_range]
      rw [byteL_append l [b] i (by omega)]

/-- A byte of a slice of bytes that the call owns: read, and written. -/
theorem Row.at {w : World} {sv : Value} {bs : List UInt8} (h : Row w sv bs) {i : Nat} (hi : i < bs.length) :
    ∃ g cap, sv = .slice (some ⟨g, 0, none⟩) bs.length cap ∧ bs.length ≤ cap ∧ cap ≤ maxLen ∧ w.cell? ⟨g, i, none⟩ = some (.int .u8 bs[i].toNat) ∧ w.frozen? ⟨g, i, none⟩ = false ∧
      ∀ x : UInt8, Row (w.setCell ⟨g, i, none⟩ (.int .u8 x.toNat)) sv (bs.set i x) ∧ Only [g] w (w.setCell ⟨g, i, none⟩ (.int .u8 x.toNat)) := by
  rcases h.2 with ⟨rfl, h0⟩ | ⟨g, cap, cur, rfl, hb, hh, hle, hm, hsz, hcur⟩
  · omega
  · have hic : i < cur.size := by omega
    have hcell : cur[i]? = some (byteV bs[i]) := by
      have h4 : (cur.toList.take (bs.length * 1))[i]? = (bs.map byteV)[i]? := by rw [hcur]
      rw [List.getElem?_take, if_pos (by omega)] at h4
      simpa [hi] using h4
    refine ⟨g, cap, rfl, hle, hm, ?_, ?_, fun x => ⟨⟨by simp, .inr ⟨g, cap, cur.setIfInBounds i (.int .u8 x.toNat), by simp, hb, ?_, by simpa using hle, hm, by simp [hsz], ?_⟩⟩, (Only.refl [g] w).setCell (p := ⟨g, i, none⟩) (.inl (List.mem_singleton.2 rfl)) _⟩⟩
    · simp only [World.cell?, hh]; simpa [byteV] using hcell
    · simp only [World.frozen?, hh]; simp
    · simp only [World.setCell, Array.getElem?_modify, if_pos, hh, Option.map_some]; simp
    · rw [Array.toList_setIfInBounds, List.take_set, Nat.mul_one, List.length_set]
      rw [Nat.mul_one] at hcur
      rw [hcur, List.map_set]
      rfl

theorem or_num (x y t : Nat) (hx : x < 256) (hy : y ≤ 1) (ht : t ≤ 7) : bits .or .u8 (x : Int) ((48 + (y : Int) - 48) * 2 ^ t % 256) = (((UInt8.ofNat (x ||| y * 2 ^ t)).toNat : Nat) : Int) := by
  have h2 : 2 ^ t ≤ 2 ^ 7 := Nat.pow_le_pow_right (by omega) ht
  have h3 : y * 2 ^ t ≤ 1 * 2 ^ t := Nat.mul_le_mul_right _ hy
  have h4 : (2 : Nat) ^ 7 = 128 := rfl
  have e : (48 + (y : Int) - 48) * 2 ^ t = ((y * 2 ^ t : Nat) : Int) := by rw [show 48 + (y : Int) - 48 = (y : Int) from by omega, mul_cast]
  rw [e]
  generalize y * 2 ^ t = z at *
  rw [Int.emod_eq_of_lt (by omega) (by omega), u8_or_nat _ _ hx (by omega), UInt8.toNat_ofNat']
  have : x ||| z < 2 ^ 8 := Nat.or_lt_two_pow hx (by omega)
  rw [Nat.mod_eq_of_lt this]
theorem packN_zero (l : List Bool) (h : l.length % 8 = 0) : packN l (l.length / 8 + 1) = packN l (l.length / 8) ++ [0] := by
  unfold packN
  rw [List.range_succ, List.map_append]
  congr 1
  have : ∀ n, valF (bitL l) (8 * (l.length / 8)) n = 0 := by
    intro n
    induction n with
    | zero => rfl
    | succ n ih => simp only [valF, ih]; rw [bitL_of_le _ _ (by omega)]; rfl
  simp [byteL, this 8]

set_option maxHeartbeats 4000000 in
theorem rbytes_any (b : Nat) (sv : Value) (l : List Bool) (w : World) (h : RWr w b sv l) (hsz : l.length ≤ 1000000) :
    Calls Try.prog 33 #[.pointer (some ⟨b, 0, none⟩)] w fun e w' => e = .returned (.string (pack l)) ∧ Only [] w w' := by
  have H := hid h
  obtain ⟨a, c, rfl, hc⟩ := h.row.form
  rw [List.length_map] at H hc
  have hx := h.c0
  rw [List.length_map] at hx
  clear h
  obtain ⟨n, hn⟩ : ∃ n, n = l.length := ⟨_, rfl⟩
  rw [← hn] at H hc hx hsz
  have N := hid hn
  clear hn
  go_enter Try.func33, Try.ntmps33
  go_wp2_with fail
  go_loopg [3, 4] n (fun g out i wr => ∃ j : Nat, j + g = n ∧ i = .int .i64 j ∧ Row wr out (packN (l.take j) ((j + 7) / 8)) ∧ (∀ g, g ∈ ownOf out → w.heap.size ≤ g) ∧ Only [] w wr)
  case atStart => exact ⟨0, by omega, rfl, ⟨rfl, .inl ⟨rfl, rfl⟩⟩, by simp [ownOf, Value.ownBlock], Only.refl _ _⟩
  case round =>
    obtain ⟨j, hj, rfl, hR, hS, hO⟩ := hrel
    have R := hid hR
    have S := hid hS
    have O := hid hO
    have J := hid hj
    have c0 := O.out.cell hx (by simp)
    clear hR hS hO
    by_cases hg : gk = 0
    · subst hg
      obtain rfl : j = n := by omega
      have CV := conv_row R.out
      rw [show (⟨(packN (l.take j) ((j + 7) / 8)).toArray⟩ : ByteArray) = pack l by rw [N.out, List.take_length]; rfl] at CV
      clear hj
      go_wp2_with fail
      go_ret
      exact ⟨rfl, O.out⟩
    · have i1 : (j : Int) < (n : Int) := by omega
      have hjn : j < n := by omega
      clear hj
      obtain ⟨bt, hbt⟩ : ∃ bt, bt = l.getD j false := ⟨_, rfl⟩
      have htk : l.take (j + 1) = l.take j ++ [bt] := by
        have hjl : j < l.length := by have := N.out; omega
        rw [List.take_succ_eq_append_getElem hjl, hbt, List.getD_eq_getElem?_getD, List.getElem?_eq_getElem hjl]; rfl
      have htl : (l.take j).length = j := by have := N.out; simp; omega
      have TK := hid htk
      have TL := hid htl
      clear htk htl
      obtain ⟨gb, cb, hab, _, _, bc, _, _⟩ := Row.at H.out.row (i := j) (by have := N.out; simp; omega)
      obtain ⟨rfl, rfl⟩ : a = some ⟨gb, 0, none⟩ ∧ c = cb := by simp at hab; exact ⟨hab.1, hab.2.2⟩
      have hch : (((l.map fun (b : Bool) => if b then (49 : UInt8) else 48)[j]'(by have := N.out; simp; omega)).toNat : Int) = 48 + (bt.toNat : Int) := by
        have hjl : j < l.length := by have := N.out; omega
        rw [List.getElem_map, hbt, List.getD_eq_getElem?_getD, List.getElem?_eq_getElem hjl, Option.getD_some]
        cases l[j] <;> rfl
      rw [hch] at bc
      have hgb : gb < w.heap.size := World.block_lt_of_cell? _ _ bc
      have bj := O.out.cell bc (by simp)
      have hbt1 : bt.toNat ≤ 1 := Bool.toNat_le _
      obtain ⟨y, hy⟩ : ∃ y, y = bt.toNat := ⟨_, rfl⟩
      rw [← hy] at bj bc hbt1
      have bj0 := hid bc
      have Y := hid hy
      clear hab hch bc hbt hy
      have hbt2 : (y : Int) ≤ 1 := by omega
      by_cases h8 : j % 8 = 0
      · have hb8 : (((j : Int) % 8) == 0) = true := by rw [beq_iff_eq]; omega
        have R0 := R.out
        rw [show (j + 7) / 8 = j / 8 from by omega] at R0
        have ra : Only [] wr (wr.alloc (.cells #[.int .u8 0] 5)) := (Only.refl [] wr).alloc _
        obtain ⟨sv2, w2, hrun, hrow, honly, hown⟩ := run_append_bytes (wr.alloc (.cells #[.int .u8 0] 5)) 60 _ _ (R0.only ra (by simp)) ⟨wr.heap.size, 0, none⟩ 1 [0] (by simp) (fun j u hj => by
          have hj0 : j = 0 := by have := (List.getElem?_eq_some_iff.1 hj).1; simp at this; omega
          subst hj0
          simp only [List.map_cons, List.map_nil, List.getElem?_cons_zero, Option.some.injEq] at hj
          rw [← hj, addr_add, World.cell?_alloc_new]
          rfl) (by simp; omega)
        have PZ := packN_zero (l.take j) (by rw [TL.out]; exact h8)
        rw [TL.out] at PZ
        rw [← PZ] at hrow
        have OO := hid ((O.out.trans ra).trans2 honly (fun x hx => .inr (S.out x hx)))
        have SS := hid (show ∀ g, g ∈ ownOf sv2 → w.heap.size ≤ g from fun g hg => by
          rcases hown g hg with e | e
          · exact S.out g e
          · have := O.out.size; simp at e; omega)
        have c2 := OO.out.cell hx (by simp)
        have bj2 := OO.out.cell bj0.out (by simp)
        clear bj honly hown R0 ra PZ
        have R1 := hrow
        obtain ⟨go, co, rfl, hl1, hl2, oc, of, oset⟩ := Row.at R1 (i := j / 8) (by simp)
        rw [length_packN] at oset hl1 hrun
        have hbx : ((packN (l.take j) (j / 8 + 1))[j / 8]'(by simp)).toNat = byteL (l.take j) (j / 8) := by
          simp only [packN, List.getElem_map, List.getElem_range, UInt8.toNat_ofNat']
          exact Nat.mod_eq_of_lt (byteL_lt _ _)
        rw [hbx] at oc
        have hxl := byteL_lt (l.take j) (j / 8)
        have hgo : go ∈ ownOf (Value.slice (some ⟨go, 0, none⟩) (packN (l.take j) (j / 8 + 1)).length co) := by simp [ownOf, Value.ownBlock]
        have hgo2 := SS.out go hgo
        obtain ⟨x, hx2⟩ : ∃ x, x = byteL (l.take j) (j / 8) := ⟨_, rfl⟩
        rw [← hx2] at oc hxl
        have X := hid hx2
        have OS := hid oset
        have hgne : gb ≠ go := by omega
        have hbne : b ≠ go := by have : b < w.heap.size := World.block_lt_of_cell? _ _ hx; omega
        have i2 : (0 : Int) ≤ (j : Int) / 8 := by omega
        have i3 : (j : Int) / 8 < ((j / 8 + 1 : Nat) : Int) := by omega
        unfold maxLen at hl2
        clear h8 hbx hx2 oset hgo R1 hrow
        go_wp2_with (at_builtin; refine Lib.wpList_append_run _ rfl _ _ _ _ rfl _ _ rfl rfl _ _ hrun ?_)
        go_region
        go_wp2_with fail
        go_roundg (gk - 1)
        case measure => omega
        case rel =>
          have ON := or_num x y (7 - j % 8) hxl hbt1 (by omega)
          have HS := OS.out (UInt8.ofNat (x ||| y * 2 ^ (7 - j % 8)))
          rw [← ON] at HS
          have E := packN_snoc_old (l.take j) bt
          rw [TL.out, ← TK.out, ← Y.out, ← X.out] at E
          refine ⟨j + 1, by have := J.out; omega, by go_num, ?_, SS.out, ?_⟩
          · rw [show (j + 1 + 7) / 8 = j / 8 + 1 from by omega, E]
            exact HS.1.only ((Only.refl [] _).drew) (by simp)
          · exact (OO.out.trans2 HS.2 (fun x hx => .inr (by rw [List.mem_singleton.1 hx]; exact hgo2))).drew
      · have hb8 : (((j : Int) % 8) == 0) = false := by rw [beq_eq_false_iff_ne]; omega
        have e78 : (j + 7) / 8 = j / 8 + 1 := by omega
        have R1 := R.out
        rw [e78] at R1
        have SS := S
        have OO := O
        obtain ⟨go, co, rfl, hl1, hl2, oc, of, oset⟩ := Row.at R1 (i := j / 8) (by simp)
        rw [length_packN] at oset hl1 ⊢
        have hbx : ((packN (l.take j) (j / 8 + 1))[j / 8]'(by simp)).toNat = byteL (l.take j) (j / 8) := by
          simp only [packN, List.getElem_map, List.getElem_range, UInt8.toNat_ofNat']
          exact Nat.mod_eq_of_lt (byteL_lt _ _)
        rw [hbx] at oc
        have hxl := byteL_lt (l.take j) (j / 8)
        have hgo : go ∈ ownOf (Value.slice (some ⟨go, 0, none⟩) (packN (l.take j) (j / 8 + 1)).length co) := by simp [ownOf, Value.ownBlock]
        have hgo2 := SS.out go hgo
        obtain ⟨x, hx2⟩ : ∃ x, x = byteL (l.take j) (j / 8) := ⟨_, rfl⟩
        rw [← hx2] at oc hxl
        have X := hid hx2
        have OS := hid oset
        have hgne : gb ≠ go := by omega
        have hbne : b ≠ go := by have : b < w.heap.size := World.block_lt_of_cell? _ _ hx; omega
        have i2 : (0 : Int) ≤ (j : Int) / 8 := by omega
        have i3 : (j : Int) / 8 < ((j / 8 + 1 : Nat) : Int) := by omega
        unfold maxLen at hl2
        clear h8 hbx hx2 oset hgo R1 e78
        go_wp2_with fail
        go_region
        go_wp2_with fail
        go_roundg (gk - 1)
        case measure => omega
        case rel =>
          have ON := or_num x y (7 - j % 8) hxl hbt1 (by omega)
          have HS := OS.out (UInt8.ofNat (x ||| y * 2 ^ (7 - j % 8)))
          rw [← ON] at HS
          have E := packN_snoc_old (l.take j) bt
          rw [TL.out, ← TK.out, ← Y.out, ← X.out] at E
          refine ⟨j + 1, by have := J.out; omega, by go_num, ?_, SS.out, ?_⟩
          · rw [show (j + 1 + 7) / 8 = j / 8 + 1 from by omega, E]
            exact HS.1.only ((Only.refl [] _).drew) (by simp)
          · exact (OO.out.trans2 HS.2 (fun x hx => .inr (by rw [List.mem_singleton.1 hx]; exact hgo2))).drew
end Go.Proofs.Ytbbmmpjhpleceaa

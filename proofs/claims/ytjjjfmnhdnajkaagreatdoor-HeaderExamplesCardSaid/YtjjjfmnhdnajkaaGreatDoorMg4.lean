/- The other calls of a writer of package bits. -/
/- append of bytes to a slice that nobody else holds. -/
import Derived.Test.YtjjjfmnhdnajkaaGreatDoorPut
import Derived.Laws.BytesString
import Derived.Laws.IdiomStrings
import Derived.Lib.BufferRead
import Derived.ShutString
import Derived.Deep.OwnRows
section
set_option maxRecDepth 20000
namespace Go.Proofs.YtjjjfmnhdnajkaaGreatDoor
open Go.RowKit
set_option linter.unusedVariables false

theorem und_u8 : Tryz.prog.underlying 5 = some (.int .u8) := by kernel_rfl
theorem und_str : Tryz.prog.underlying 9 = some .string := by kernel_rfl

/-- What Put answers, and the bits behind it. -/
def wrP (l : List Bool) (n : Int) (v : Nat) : Int × List Bool :=
  if n < 0 ∨ 64 < n then (3, l) else if 2 ^ n.toNat ≤ v then (2, l) else (0, l ++ bitsOf n.toNat v)

/-- What a call of Put leaves. -/
structure PutLeft (w w' : World) (b : Nat) (sv sv' : Value) (l : List Bool) : Prop where
  wr : Wr w' b sv' l
  own : ∀ g, g ∈ ownOf sv' → g ∈ ownOf sv ∨ w.heap.size ≤ g
  only : Only (b :: ownOf sv) w w'

theorem PutLeft.same {w : World} {b : Nat} {sv : Value} {l : List Bool} (h : Wr w b sv l) : PutLeft w w b sv sv l := ⟨h, fun _ hg => .inl hg, Only.refl _ _⟩

set_option maxHeartbeats 400000 in
theorem put_range (b : Nat) (n : Int) (v : Nat) (w : World) (h : n < 0 ∨ 64 < n) :
    Calls Tryz.prog 18 #[.pointer (some ⟨b, 0, none⟩), .int .i64 n, .int .u64 v] w fun e w' => e = .returned (.int .i64 3) ∧ w = w' := by
  rcases h with h | h
  · go_enter Tryz.func18, Tryz.ntmps18
    go_wp2
    go_ret
    exact ⟨rfl, rfl⟩
  · have h' : 0 ≤ n := by omega
    go_enter Tryz.func18, Tryz.ntmps18
    go_wp2
    go_ret
    exact ⟨rfl, rfl⟩

set_option maxHeartbeats 400000 in
theorem put_arg (b : Nat) (n v : Nat) (w : World) (hn : n ≤ 64) (hv : 2 ^ n ≤ v) :
    Calls Tryz.prog 18 #[.pointer (some ⟨b, 0, none⟩), .int .i64 n, .int .u64 v] w fun e w' => e = .returned (.int .i64 2) ∧ w = w' := by
  have hd : ((v : Int) / 2 ^ n != 0) = true := by
    have e : (v : Int) / 2 ^ n = ((v / 2 ^ n : Nat) : Int) := by rw [Int.natCast_ediv, Int.natCast_pow]; rfl
    have : 0 < v / 2 ^ n := Nat.div_pos hv (Nat.pow_pos (by omega))
    rw [e, bne_iff_ne]; omega
  clear hv
  go_enter Tryz.func18, Tryz.ntmps18
  go_wp2
  go_ret
  exact ⟨rfl, rfl⟩

/-- Put, for any n and v. -/
theorem put_any (b : Nat) (sv : Value) (l : List Bool) (n : Int) (v : Nat) (w : World) (h : Wr w b sv l) (hsz : l.length + 64 ≤ 281474976710656) :
    Calls Tryz.prog 18 #[.pointer (some ⟨b, 0, none⟩), .int .i64 n, .int .u64 v] w fun e w' => e = .returned (.int .i64 (wrP l n v).1) ∧ ∃ sv', PutLeft w w' b sv sv' (wrP l n v).2 := by
  unfold wrP
  by_cases h1 : n < 0 ∨ 64 < n
  · rw [if_pos h1]
    exact (put_range b n v w h1).mono fun e w' ⟨he, hw⟩ => ⟨he, sv, hw ▸ PutLeft.same h⟩
  · rw [if_neg h1]
    obtain ⟨k, rfl⟩ := Int.eq_ofNat_of_zero_le (show 0 ≤ n by omega)
    rw [Int.toNat_natCast]
    by_cases h2 : 2 ^ k ≤ v
    · rw [if_pos h2]
      exact (put_arg b k v w (by omega) h2).mono fun e w' ⟨he, hw⟩ => ⟨he, sv, hw ▸ PutLeft.same h⟩
    · rw [if_neg h2]
      exact (put_yes b sv l k v w h (by omega) (by omega) (by omega)).mono fun e w' ⟨he, sv', h1, h2, h3⟩ => ⟨he, sv', h1, h2, h3⟩

set_option maxHeartbeats 400000 in
theorem put_nil (n v : Int) (w : World) :
    Calls Tryz.prog 18 #[.pointer none, .int .i64 n, .int .u64 v] w fun e w' => e = .returned (.int .i64 1) ∧ w = w' := by
  go_enter Tryz.func18, Tryz.ntmps18
  go_wp2
  go_ret
  exact ⟨rfl, rfl⟩

set_option maxHeartbeats 400000 in
theorem write_any (w : World) :
    Calls Tryz.prog 7 #[] w fun e w' => e = .returned (.pointer (some ⟨w.heap.size, 0, none⟩)) ∧ Wr w' w.heap.size (.slice none 0 0) [] ∧ Only [] w w' := by
  go_enter Tryz.func7, Tryz.ntmps7
  go_wp2
  go_ret
  exact ⟨rfl, ⟨by simp, by simp [byteL, valF, bitL], by simp, by simp, by simp, by simp, ⟨rfl, .inl ⟨rfl, rfl⟩⟩, by simp [ownOf, Value.ownBlock], by simp⟩, (Only.refl _ _).alloc _⟩

theorem Row.form {w : World} {sv : Value} {bs : List UInt8} (h : Row w sv bs) : ∃ a c, sv = .slice a bs.length c ∧ bs.length ≤ c := by
  rcases h.2 with ⟨rfl, h0⟩ | ⟨g, cap, cur, rfl, _, _, h1, _⟩
  · exact ⟨none, 0, by rw [h0], by omega⟩
  · exact ⟨_, _, rfl, h1⟩

set_option maxHeartbeats 400000 in
theorem len_any (b : Nat) (sv : Value) (l : List Bool) (w : World) (h : Wr w b sv l) :
    Calls Tryz.prog 62 #[.pointer (some ⟨b, 0, none⟩)] w fun e w' => e = .returned (.int .i64 l.length) ∧ ∃ n, w' = w.drewN n := by
  obtain ⟨a, c, rfl, hc⟩ := h.row.form
  have c0 := h.c0
  have c2 := h.c2
  have hs := h.sz
  rw [length_packN] at c0
  have hl : l.length = 8 * (l.length / 8) + l.length % 8 := by omega
  generalize l.length / 8 = q at *
  generalize l.length % 8 = m at *
  rw [hl]
  rw [hl] at hs
  have HL := hid hl
  clear h hc hl
  go_enter Tryz.func62, Tryz.ntmps62
  go_wp2
  go_quiet (fail)
  go_wp2
  go_ret
  exact ⟨ret_int (by omega), _, rfl⟩

theorem conv_row {w : World} {sv : Value} {bs : List UInt8} (h : Row w sv bs) : (convert 43 9 sv).run Tryz.prog w = .ok (.string ⟨bs.toArray⟩) w := by
  rcases h.2 with ⟨rfl, h0⟩ | ⟨g, cap, cur, rfl, _, hh, h1, _, h2, h3⟩
  · have hn' : bs = [] := List.length_eq_zero_iff.1 h0
    subst hn'
    exact Lib.run_convert_nil_bytes w _ _ 5 0 und_bytes und_u8 und_str
  · refine run_convert_bytes_back w _ _ 5 _ cap bs und_bytes und_u8 und_str fun j hj => ?_
    rw [addr_add]
    simp only [World.cell?, hh]
    have h4 : (cur.toList.take (bs.length * 1))[j]? = (bs.map byteV)[j]? := by rw [h3]
    rw [List.getElem?_take, if_pos (by omega)] at h4
    simpa [hj, byteV] using h4
theorem conv_one (w : World) (p : Nat) (hp : p < 256) : (convert 43 9 (.slice (some ⟨w.heap.size, 0, none⟩) 1 1)).run Tryz.prog (w.alloc (.cells #[.int .u8 p] 5)).drew = .ok (.string ⟨#[UInt8.ofNat p]⟩) (w.alloc (.cells #[.int .u8 p] 5)).drew := by
  refine run_convert_bytes_back _ _ _ 5 _ 1 [UInt8.ofNat p] und_bytes und_u8 und_str fun j hj => ?_
  obtain rfl : j = 0 := by simp at hj; omega
  rw [addr_add]
  show (w.alloc (.cells #[.int .u8 p] 5)).cell? _ = _
  have : p % 256 = p := Nat.mod_eq_of_lt hp
  simp [UInt8.toNat_ofNat', this]
theorem pack_zero (l : List Bool) (h : l.length % 8 = 0) : pack l = ⟨(packN l (l.length / 8)).toArray⟩ := by
  unfold pack; rw [show (l.length + 7) / 8 = l.length / 8 from by omega]
theorem pack_more (l : List Bool) (h : l.length % 8 ≠ 0) : pack l = ⟨(packN l (l.length / 8)).toArray⟩ ++ ⟨#[UInt8.ofNat (byteL l (l.length / 8))]⟩ := by
  unfold pack; rw [show (l.length + 7) / 8 = l.length / 8 + 1 from by omega]
  unfold packN
  rw [List.range_succ, List.map_append]
  apply ByteArray.ext
  simp

set_option maxHeartbeats 400000 in
theorem bytes_any (b : Nat) (sv : Value) (l : List Bool) (w : World) (h : Wr w b sv l) :
    Calls Tryz.prog 9 #[.pointer (some ⟨b, 0, none⟩)] w fun e w' => e = .returned (.string (pack l)) ∧ Only [] w w' := by
  have C := conv_row h.row
  have CD := conv_row (h.row.only (Only.refl [] w).drew (by simp))
  have CA := fun o => conv_row (h.row.only ((Only.refl [] w).alloc o).drew (by simp))
  obtain ⟨a, c, rfl, hc⟩ := h.row.form
  have c0 := h.c0
  rw [length_packN] at C CD c0
  simp only [length_packN] at CA
  have c1 := h.c1
  have c2 := h.c2
  have hs := h.sz
  by_cases h0 : l.length % 8 = 0
  · rw [h0] at c2
    rw [pack_zero l h0]
    clear h hc h0
    go_enter Tryz.func9, Tryz.ntmps9
    go_wp2
    go_ret
    exact ⟨rfl, Only.refl _ _⟩
  · rw [pack_more l h0]
    obtain ⟨m, hm⟩ : ∃ m, m = l.length % 8 := ⟨_, rfl⟩
    rw [← hm] at c2
    have hb : ((m : Int) == 0) = false := by rw [beq_eq_false_iff_ne]; omega
    have hp := byteL_lt l (l.length / 8)
    have CP := conv_one w (byteL l (l.length / 8)) hp
    have hlt := World.block_lt_of_cell? _ _ c1
    have hsz : l.length / 8 ≤ 140737488355328 := by omega
    clear h hc h0 hm C hs
    generalize byteL l (l.length / 8) = p at *
    have hpl := length_packN l (l.length / 8)
    have hbl : (packN l (l.length / 8)).length ≤ 140737488355328 := by omega
    have hnl : ¬ 9223372036854775807 < (packN l (l.length / 8)).length + 1 := by omega
    clear hpl
    generalize packN l (l.length / 8) = bs at *
    generalize l.length / 8 = q at *
    go_enter Tryz.func9, Tryz.ntmps9
    go_wp2
    go_region
    all_goals
      go_wp2
      go_ret
      exact ⟨rfl, ((Only.refl _ _).alloc _).drew⟩

/-- The character of the bit i. -/
def chL (l : List Bool) (i : Nat) : UInt8 := if bitL l i then 49 else 48
theorem chars_eq (l : List Bool) : chars l = ⟨((List.range l.length).map (chL l)).toArray⟩ := by
  unfold chars
  congr 2
  apply List.ext_getElem
  · simp
  · intro i h1 h2
    simp at h1
    simp [chL, bitL, List.getD_eq_getElem?_getD, h1]
theorem made_cell (w : World) (n j : Nat) (hj : j < n) : (w.alloc (.cells (madeCells #[.int .u8 0] n) 5)).cell? ⟨w.heap.size, j, none⟩ = some (.int .u8 0) := by
  rw [World.cell?_alloc_new]
  simp [madeCells, hj, Nat.mod_one]
theorem bit_char (l : List Bool) (i : Nat) (h : i / 8 < (pack l).size) :
    (48 + bits .and .u8 ((((pack l)[i / 8]'h).toNat : Int) / 2 ^ (7 - i % 8)) 1) % 256 = ((chL l i).toNat : Int) := by
  rw [bit_num _ _ (UInt8.toNat_lt _), ← getD_at (pack l) (i / 8) h, show (((pack l).data.getD (i / 8) 0).toNat.testBit (7 - i % 8)) = bitAt (pack l) i from rfl, bitAt_pack]
  unfold chL
  cases bitL l i <;> rfl

set_option maxHeartbeats 1000000 in
theorem bits_any (b : Nat) (sv : Value) (l : List Bool) (w : World) (h : Wr w b sv l) :
    Calls Tryz.prog 27 #[.pointer (some ⟨b, 0, none⟩)] w fun e w' => e = .returned (.string (chars l)) ∧ Only [] w w' := by
  have C := bytes_any b sv l w h
  have hs := h.sz
  have H := hid h
  have hmk := run_make_row' (P := Tryz.prog) 43 5 (.int .u8 0) 1 und_bytes info_u8 rfl .i64 .i64 l.length (by omega) (by omega)
  clear h
  obtain ⟨n, hn⟩ : ∃ n, n = l.length := ⟨_, rfl⟩
  have L2 := fun (w : World) (h : Wr w b sv l) => len_any b sv l w h
  rw [← hn] at hs hmk L2
  have L2' := hid L2
  have N := hid hn
  clear hn L2
  have SP := hid (size_pack l)
  have PK := fun (i : Nat) (h : i / 8 < (pack l).size) => hid (bit_char l i h)
  have CE := hid (chars_eq l)
  generalize chars l = cl at *
  generalize pack l = pk at *
  go_enter Tryz.func27, Tryz.ntmps27
  go_wp2_with (first | (go_at_call 9; refine C.mono ?_; rintro e w1 ⟨rfl, h1⟩; have O1 := hid h1; have H1 := hid (H.out.only h1 (by simp) (by simp)); clear h1) | (go_at_call 62; refine (L2'.out _ H1.out).mono ?_; rintro e w2 ⟨rfl, n2, rfl⟩))
  generalize hwa : World.alloc (w1.drewN n2) _ = wa
  have z : ∀ j, j < n → wa.cell? ⟨w1.heap.size, j, none⟩ = some (.int .u8 0) := by intro j hj; rw [← hwa]; exact made_cell (w1.drewN n2) n j hj
  have zf : ∀ j, wa.frozen? ⟨w1.heap.size, j, none⟩ = false := by intro j; rw [← hwa]; exact World.frozen?_alloc_new (w1.drewN n2) _ _ _
  have oa : Only [] w wa := by rw [← hwa]; exact (O1.out.drewN _).alloc _
  have hge : w.heap.size ≤ w1.heap.size := O1.out.size
  generalize w1.heap.size = B at *
  have Z := hid z
  have ZF := hid zf
  have OA := hid oa
  clear z zf oa hwa
  go_loopg [13] n (fun g c wr => ∃ i : Nat, i + g = n ∧ c = .int .i64 i ∧ (∀ j, j < i → wr.cell? ⟨B, j, none⟩ = some (.int .u8 ((chL l j).toNat))) ∧ (∀ j, i ≤ j → j < n → wr.cell? ⟨B, j, none⟩ = some (.int .u8 0)) ∧ (∀ j, wr.frozen? ⟨B, j, none⟩ = false) ∧ Only [] w wr)
  case atStart => exact ⟨0, by omega, rfl, fun j hj => by omega, fun j _ h2 => Z.out j h2, ZF.out, OA.out⟩
  case round =>
    obtain ⟨i, hi, rfl, r1, r2, r3, r4⟩ := hrel
    have R1 := hid r1
    have R2 := hid r2
    have R3 := hid r3
    have R4 := hid r4
    have IG := hid hi
    clear r1 r2 r3 r4
    by_cases h0 : gk = 0
    · subst h0
      obtain rfl : i = n := by omega
      clear hi
      have CV : (convert 43 9 (.slice (some ⟨B, 0, none⟩) i i)).run Tryz.prog wr = .ok (.string cl) wr := by
        have := run_convert_bytes_back wr 43 9 5 ⟨B, 0, none⟩ i ((List.range i).map (chL l)) und_bytes und_u8 und_str (fun j hj => by
          rw [addr_add, R1.out j (by simpa using hj)]
          simp)
        simp only [List.length_map, List.length_range] at this
        rw [this, CE.out, N.out]
      go_wp2
      go_ret
      exact ⟨rfl, R4.out⟩
    · have h1 : (i : Int) < (n : Int) := by omega
      have hsz : pk.size = (n + 7) / 8 := by rw [SP.out, N.out]
      have i1 : (0 : Int) ≤ (i : Int) / 8 := by omega
      have i2 : (i : Int) / 8 < (pk.size : Int) := by omega
      have hb := R2.out i (Nat.le_refl _) (by omega)
      have hf := R3.out i
      have hi2 : i / 8 < pk.size := by omega
      have PI := PK i hi2
      clear hi hsz PK
      go_wp2
      go_roundg (gk - 1)
      case measure => omega
      case rel =>
        refine ⟨i + 1, by have := IG.out; omega, by go_num, ?_, ?_, ?_, ?_⟩
        · intro j hj
          by_cases e : j = i
          · subst e
            refine (World.cell?_setCell_same _ _ _ hb).trans ?_
            rw [PI.out]
          · exact (World.cell?_setCell_other _ _ _ _ (by intro e'; injection e' with _ e2 _; omega)).trans (R1.out j (by omega))
        · intro j h1 h2
          exact (World.cell?_setCell_other _ _ _ _ (by intro e; injection e with _ e2 _; omega)).trans (R2.out j (by omega) h2)
        · intro j
          exact (World.frozen?_setCell _ _ _ _).trans (R3.out j)
        · exact R4.out.setCell (.inr hge) _
end Go.Proofs.YtjjjfmnhdnajkaaGreatDoor

end
section
set_option maxRecDepth 20000
namespace Go.Proofs.YtjjjfmnhdnajkaaGreatDoor
open Go.RowKit
set_option linter.unusedVariables false

theorem grown_only {w w' : World} {sv : Value} (h : w.grownBy w' sv.ownBlock) : Only (ownOf sv) w w' :=
  ⟨h.os, h.tape, h.output, h.size, fun k hk hs => h.block k hk (fun e => hs (by unfold ownOf; rw [← e]; simp))⟩

theorem run_append_bytes (w : World) (ty : TypeId) (sv : Value) (bs : List UInt8) (hr : Row w sv bs) (ad : Addr) (c : Nat) (cs : List UInt8) (h0 : 0 < cs.length)
    (hcs : ∀ j v, (cs.map byteV)[j]? = some v → w.cell? (ad.add j) = some v) (hbig : bs.length + cs.length ≤ 140737488355328) :
    ∃ sv' w', (Builtin.append_ #[43, 43] ty #[sv, .slice (some ad) cs.length c]).run Tryz.prog w = .ok sv' w' ∧ Row w' sv' (bs ++ cs) ∧ Only (ownOf sv) w w' ∧ ∀ g, g ∈ ownOf sv' → g ∈ ownOf sv ∨ w.heap.size ≤ g := by
  obtain ⟨i0, hi0, hz0, hs0, hb0⟩ := info_parts info_u8
  have hl : (cs.map byteV).length = cs.length * i0.size := by rw [hs0]; simp
  have one : ∀ u, u ∈ cs.map byteV → u.oneCell' = true := fun u hu => by obtain ⟨x, _, rfl⟩ := List.mem_map.1 hu; rfl
  obtain ⟨v', w', h1, h2, h3, _⟩ := run_append_own (P := Tryz.prog) w 0 43 ty 5 i0 (.int .u8 0) 1 1 und_bytes hi0 hz0 hs0 hb0 rfl (by omega) sv bs.length (bs.map byteV) hr ad cs.length c (cs.map byteV) (by simp) hcs one (by unfold maxLen; omega) (by omega) (Nat.zero_le _)
  refine ⟨v', w', h1, by unfold Row; rw [List.length_append, List.map_append]; exact h2, grown_only h3, fun g hg => ?_⟩
  rcases hr.2 with ⟨rfl, hn⟩ | ⟨g', cap, cur, rfl, hbg, hh, hnc, hcm, hsz, htake⟩
  · have h4 := run_append_nil (P := Tryz.prog) w 43 ty 5 i0 (.int .u8 0) und_bytes hi0 hz0 ad cs.length c (cs.map byteV) hl hcs h0 (by omega) (by rw [hb0]; omega)
    have h5 := h1.symm.trans h4
    injection h5 with h5 _
    rw [h5] at hg
    simp [ownOf, Value.ownBlock] at hg
    exact .inr (by omega)
  · by_cases hroom : bs.length + cs.length ≤ cap
    · have h4 := run_append_room (P := Tryz.prog) w 43 ty 5 i0 und_bytes hi0 g' bs.length cap cur hh ad cs.length c (cs.map byteV) hl hcs one hroom (by rw [hs0, hsz]; simp; omega)
      have h5 := h1.symm.trans h4
      injection h5 with h5 _
      rw [h5] at hg
      exact .inl (by simpa [ownOf, Value.ownBlock] using hg)
    · have holds : ∀ j u, (bs.map byteV)[j]? = some u → w.cell? ((⟨g', 0, none⟩ : Addr).add j) = some u := World.ownsRow.cells (g := g') hr rfl
      have h4 := run_append_grow (P := Tryz.prog) w 43 ty 5 i0 (.int .u8 0) und_bytes hi0 hz0 ⟨g', 0, none⟩ bs.length cap (bs.map byteV) (by rw [hs0]; simp) holds ad cs.length c (cs.map byteV) hl hcs (by omega) (by omega) (by rw [hb0]; have := growslice_fits (need := bs.length + cs.length) (old := cap) (bytes := 1) (by omega) (by omega); simpa using this)
      have h5 := h1.symm.trans h4
      injection h5 with h5 _
      rw [h5] at hg
      simp [ownOf, Value.ownBlock] at hg
      exact .inr (by omega)

/-- A writer of the reference. -/
structure RWr (w : World) (b : Nat) (sv : Value) (l : List Bool) : Prop where
  c0 : w.cell? ⟨b, 0, none⟩ = some sv
  f0 : w.frozen? ⟨b, 0, none⟩ = false
  row : Row w sv (l.map fun b => if b then (49 : UInt8) else 48)
  apart : b ∉ ownOf sv
theorem RWr.lt {w : World} {b : Nat} {sv : Value} {l : List Bool} (h : RWr w b sv l) : b < w.heap.size := World.block_lt_of_cell? _ _ h.c0
theorem RWr.only {S : List Nat} {w w' : World} {b : Nat} {sv : Value} {l : List Bool} (h : RWr w b sv l) (k : Only S w w') (hb : b ∉ S) (hd : ∀ g, g ∈ ownOf sv → g ∉ S) : RWr w' b sv l :=
  ⟨k.cell h.c0 hb, (k.frozen h.lt hb).trans h.f0, h.row.only k hd, h.apart⟩
structure RPut (w w' : World) (b : Nat) (sv sv' : Value) (l : List Bool) : Prop where
  wr : RWr w' b sv' l
  own : ∀ g, g ∈ ownOf sv' → g ∈ ownOf sv ∨ w.heap.size ≤ g
  only : Only (b :: ownOf sv) w w'

theorem bitsOf_take (n v i : Nat) (h : i < n) : (bitsOf n v).take (i + 1) = (bitsOf n v).take i ++ [v.testBit (n - 1 - i)] := by
  rw [List.take_succ_eq_append_getElem (by simpa using h)]
  simp [bitsOf]
def chB (v t : Nat) : UInt8 := if v.testBit t then 49 else 48
theorem char_num (v t : Nat) (hv : v < 2 ^ 64) : IntKind.u64.wrap (48 + bits .and .u64 ((v : Int) / 2 ^ t) 1) % 256 = (((chB v t).toNat : Nat) : Int) := by
  have e : ((v : Int) / 2 ^ t) = ((v / 2 ^ t : Nat) : Int) := by rw [Int.natCast_ediv, Int.natCast_pow]; rfl
  have h : v / 2 ^ t < 2 ^ 64 := Nat.lt_of_le_of_lt (Nat.div_le_self _ _) hv
  have h4 : (2 : Nat) ^ 64 = 18446744073709551616 := by decide
  rw [e, show (1 : Int) = ((1 : Nat) : Int) from rfl, u64_and_nat _ _ (by omega) (by omega), nat_mask1, ← Nat.toNat_testBit]
  unfold chB
  cases v.testBit t <;> rfl

/-- A character more, stored back into the writer. -/
theorem rput_step {w wr w2 : World} {b : Nat} {sv sv' sv2 : Value} {l l' : List Bool} {cs : List UInt8} (P : RPut w wr b sv sv' l) (hb : b < wr.heap.size) (b0 : w2.cell? ⟨b, 0, none⟩ = some sv') (d0 : w2.frozen? ⟨b, 0, none⟩ = false)
    (row : Row w2 sv2 cs) (ob : Only (b :: ownOf sv') wr w2) (own : ∀ g, g ∈ ownOf sv2 → g ∈ ownOf sv' ∨ wr.heap.size ≤ g) (hl : l'.map (fun b => if b then (49 : UInt8) else 48) = cs) : RPut w (w2.setCell ⟨b, 0, none⟩ sv2) b sv sv2 l' := by
  subst hl
  have hap : b ∉ ownOf sv2 := fun h => by rcases own b h with e | e; exact P.wr.apart e; omega
  have o2 : Only [b] w2 (w2.setCell ⟨b, 0, none⟩ sv2) := (Only.refl [b] w2).setCell (p := ⟨b, 0, none⟩) (.inl (List.mem_singleton.2 rfl)) _
  have ow : ∀ g, g ∈ ownOf sv' → g ∈ ownOf sv ∨ w.heap.size ≤ g := P.own
  have hsz := P.only.size
  refine ⟨⟨World.cell?_setCell_same _ _ _ b0, (World.frozen?_setCell _ _ _ _).trans d0, row.only o2 (fun g hg e => hap (List.mem_singleton.1 e ▸ hg)), hap⟩, fun g hg => ?_, ?_⟩
  · rcases own g hg with e | e
    · exact ow g e
    · exact .inr (by omega)
  · refine (P.only.trans2 ob (fun x hx => ?_)).trans2 o2 (fun x hx => .inl (by rw [List.mem_singleton.1 hx]; exact List.mem_cons_self))
    rcases List.mem_cons.1 hx with e | e
    · exact .inl (by rw [e]; exact List.mem_cons_self)
    · rcases ow x e with e | e
      · exact .inl (List.mem_cons_of_mem _ e)
      · exact .inr e

set_option maxHeartbeats 1000000 in
theorem rput_yes (b : Nat) (sv : Value) (l : List Bool) (n v : Nat) (w : World) (h : RWr w b sv l) (hn : n ≤ 64) (hv : v < 2 ^ n) (hsz : l.length + n ≤ 140737488355328) :
    Calls Tryz.prog 19 #[.pointer (some ⟨b, 0, none⟩), .int .i64 n, .int .u64 v] w fun e w' => e = .returned (.int .i64 0) ∧ ∃ sv', RPut w w' b sv sv' (l ++ bitsOf n v) := by
  have H := hid h
  have hd : ((v : Int) / 2 ^ n != 0) = false := by
    have e : (v : Int) / 2 ^ n = ((v / 2 ^ n : Nat) : Int) := by rw [Int.natCast_ediv, Int.natCast_pow]; rfl
    rw [e, Nat.div_eq_of_lt hv]; rfl
  have hv64 := Nat.lt_of_lt_of_le hv (pow_le64 hn)
  have HV := hid hv64
  clear h hv hv64
  have hcase : (n : Int) < 64 ∨ (64 : Int) ≤ (n : Int) := by omega
  rcases hcase with hlt | hlt
  all_goals
    go_enter Tryz.func19, Tryz.ntmps19
    go_wp2_with fail
    go_loopg [7] n (fun g i wr => i = .int .i64 ((g : Int) - 1) ∧ ∃ sv', g ≤ n ∧ RPut w wr b sv sv' (l ++ (bitsOf n v).take (n - g)))
    case atStart => exact ⟨rfl, sv, Nat.le_refl _, by rw [Nat.sub_self, List.take_zero, List.append_nil]; exact ⟨H.out, fun g hg => .inl hg, Only.refl _ _⟩⟩
    case round =>
      obtain ⟨rfl, sv', hgn, hP⟩ := hrel
      have P := hid hP
      clear hP
      by_cases hg : gk = 0
      · subst hg
        go_wp2_with fail
        go_ret
        refine ⟨rfl, sv', ?_⟩
        have := P.out
        rw [Nat.sub_zero, List.take_of_length_le (by simp)] at this
        exact this
      · obtain ⟨t, rfl⟩ : ∃ t, gk = t + 1 := ⟨gk - 1, by omega⟩
        rw [show ((t + 1 : Nat) : Int) - 1 = (t : Int) from by omega]
        have ht : (t : Int) < 64 := by omega
        have c0 := P.out.wr.c0
        have f0 := P.out.wr.f0
        have hsl := hid P.out.wr.row.lt
        have hbl := P.out.wr.lt
        have eX := char_num v t HV.out
        obtain ⟨X, hX⟩ : ∃ X : Int, X = IntKind.u64.wrap (48 + bits .and .u64 ((v : Int) / 2 ^ t) 1) % 256 := ⟨_, rfl⟩
        have RP := P.out.wr.only ((Only.refl [] wr).alloc (.cells #[.int .u8 (IntKind.u64.wrap (48 + bits .and .u64 ((v : Int) / 2 ^ t) 1) % 256)] 5)) (by simp) (by simp)
        have hcl : (l ++ (bitsOf n v).take (n - (t + 1))).length = l.length + (n - (t + 1)) := by simp
        obtain ⟨sv2, w2, hrun, hrow, honly, hown⟩ := run_append_bytes (wr.alloc (.cells #[.int .u8 (IntKind.u64.wrap (48 + bits .and .u64 ((v : Int) / 2 ^ t) 1) % 256)] 5)) 43 sv' _ RP.row ⟨wr.heap.size, 0, none⟩ 1 [chB v t] (by simp) (fun j u hj => by
          have hj0 : j = 0 := by have := (List.getElem?_eq_some_iff.1 hj).1; simp at this; omega
          subst hj0
          simp only [List.map_cons, List.map_nil, List.getElem?_cons_zero, Option.some.injEq] at hj
          rw [← hj, addr_add, World.cell?_alloc_new]
          simp [byteV, eX]) (by simp; omega)
        obtain ⟨a2, N2, c2, rfl⟩ : ∃ a2 N2 c2, sv2 = .slice a2 N2 c2 := by obtain ⟨a2, c2, h, _⟩ := hrow.form; exact ⟨a2, _, c2, h⟩
        have b0 : w2.cell? ⟨b, 0, none⟩ = some sv' := honly.cell RP.c0 P.out.wr.apart
        have d0 : w2.frozen? ⟨b, 0, none⟩ = false := (honly.frozen (by simp; omega) P.out.wr.apart).trans RP.f0
        have Hrow := hid hrow
        have Honly := hid honly
        have Hown := hid hown
        have RP' := hid RP
        clear eX hX hcl hrow honly hown RP
        go_wp2_with (at_builtin; refine Lib.wpList_append_run _ rfl _ _ _ _ rfl _ _ rfl rfl _ _ hrun ?_)
        go_roundg t
        case measure => omega
        case rel =>
          refine ⟨rfl, .slice a2 N2 c2, by omega, ?_⟩
          have ob : Only (b :: ownOf sv') wr w2 := (((Only.refl (b :: ownOf sv') wr).alloc _).trans2 Honly.out (fun x hx => .inl (List.mem_cons_of_mem _ hx)))
          have hown2 := fun g hg => Hown.out g hg
          have hb2 : b < wr.heap.size := hbl
          exact rput_step P.out hbl b0 d0 Hrow.out ob (fun g hg => by rcases hown2 g hg with e | e; exact .inl e; exact .inr (by simp at e; omega)) (by
            rw [show n - t = n - (t + 1) + 1 from by omega, bitsOf_take _ _ _ (by omega), show n - 1 - (n - (t + 1)) = t from by omega, ← List.append_assoc, List.map_append]; rfl)

set_option maxHeartbeats 400000 in
theorem rput_range (b : Nat) (n : Int) (v : Nat) (w : World) (h : n < 0 ∨ 64 < n) :
    Calls Tryz.prog 19 #[.pointer (some ⟨b, 0, none⟩), .int .i64 n, .int .u64 v] w fun e w' => e = .returned (.int .i64 3) ∧ w = w' := by
  rcases h with h | h
  · go_enter Tryz.func19, Tryz.ntmps19
    go_wp2
    go_ret
    exact ⟨rfl, rfl⟩
  · have h' : 0 ≤ n := by omega
    go_enter Tryz.func19, Tryz.ntmps19
    go_wp2
    go_ret
    exact ⟨rfl, rfl⟩
set_option maxHeartbeats 400000 in
theorem rput_arg (b : Nat) (n v : Nat) (w : World) (hn : n < 64) (hv : 2 ^ n ≤ v) :
    Calls Tryz.prog 19 #[.pointer (some ⟨b, 0, none⟩), .int .i64 n, .int .u64 v] w fun e w' => e = .returned (.int .i64 2) ∧ w = w' := by
  have hd : ((v : Int) / 2 ^ n != 0) = true := by
    have e : (v : Int) / 2 ^ n = ((v / 2 ^ n : Nat) : Int) := by rw [Int.natCast_ediv, Int.natCast_pow]; rfl
    have : 0 < v / 2 ^ n := Nat.div_pos hv (Nat.pow_pos (by omega))
    rw [e, bne_iff_ne]; omega
  have hn' : (n : Int) < 64 := by omega
  clear hv
  go_enter Tryz.func19, Tryz.ntmps19
  go_wp2
  go_ret
  exact ⟨rfl, rfl⟩
theorem rput_any (b : Nat) (sv : Value) (l : List Bool) (n : Int) (v : Nat) (w : World) (h : RWr w b sv l) (hsz : l.length + 64 ≤ 140737488355328) (hv : v < 2 ^ 64) :
    Calls Tryz.prog 19 #[.pointer (some ⟨b, 0, none⟩), .int .i64 n, .int .u64 v] w fun e w' => e = .returned (.int .i64 (wrP l n v).1) ∧ ∃ sv', RPut w w' b sv sv' (wrP l n v).2 := by
  have same : RPut w w b sv sv l := ⟨h, fun g hg => .inl hg, Only.refl _ _⟩
  unfold wrP
  by_cases h1 : n < 0 ∨ 64 < n
  · rw [if_pos h1]
    exact (rput_range b n v w h1).mono fun e w' ⟨he, hw⟩ => ⟨he, sv, hw ▸ same⟩
  · rw [if_neg h1]
    obtain ⟨k, rfl⟩ := Int.eq_ofNat_of_zero_le (show 0 ≤ n by omega)
    rw [Int.toNat_natCast]
    by_cases h2 : 2 ^ k ≤ v
    · rw [if_pos h2]
      have hk : k < 64 := by
        by_cases e : k = 64
        · subst e; omega
        · omega
      exact (rput_arg b k v w hk h2).mono fun e w' ⟨he, hw⟩ => ⟨he, sv, hw ▸ same⟩
    · rw [if_neg h2]
      exact rput_yes b sv l k v w h (by omega) (by omega) (by omega)
set_option maxHeartbeats 400000 in
theorem rwrite_any (w : World) :
    Calls Tryz.prog 17 #[] w fun e w' => e = .returned (.pointer (some ⟨w.heap.size, 0, none⟩)) ∧ RWr w' w.heap.size (.slice none 0 0) [] ∧ Only [] w w' := by
  go_enter Tryz.func17, Tryz.ntmps17
  go_wp2
  go_ret
  exact ⟨rfl, ⟨by simp, by simp, ⟨rfl, .inl ⟨rfl, rfl⟩⟩, by simp [ownOf, Value.ownBlock]⟩, (Only.refl _ _).alloc _⟩
set_option maxHeartbeats 400000 in
theorem rbits_any (b : Nat) (sv : Value) (l : List Bool) (w : World) (h : RWr w b sv l) :
    Calls Tryz.prog 28 #[.pointer (some ⟨b, 0, none⟩)] w fun e w' => e = .returned (.string (chars l)) ∧ w = w' := by
  have C := conv_row h.row
  obtain ⟨a, c, rfl, hc⟩ := h.row.form
  have c0 := h.c0
  rw [show (⟨(l.map fun b => if b then (49 : UInt8) else 48).toArray⟩ : ByteArray) = chars l from rfl] at C
  generalize chars l = cl at *
  rw [List.length_map] at c0 C
  clear h hc
  go_enter Tryz.func28, Tryz.ntmps28
  go_wp2
  go_ret
  exact ⟨rfl, rfl⟩
end Go.Proofs.YtjjjfmnhdnajkaaGreatDoor

end

/- Put of a writer of package bits. -/
import Derived.Test.YtjjjfmnhdnajkaaGreatDoorMg3
import Derived.Test.YtjjjfmnhdnajkaaGreatDoorMg1
import Derived.Deep.LoopGhost
import Derived.Deep.DeepCutAuto
namespace Go.Proofs.YtjjjfmnhdnajkaaGreatDoor
open Go.RowKit
set_option linter.unusedVariables false

/-- The two stores at the end of Put. -/
theorem wr_store {w : World} {b : Nat} {sv v1 v2 : Value} {L : List Bool} {Q : Nat} {y z : Int} (c0 : w.cell? ⟨b, 0, none⟩ = some sv) (c1 : w.cell? ⟨b, 1, none⟩ = some v1) (c2 : w.cell? ⟨b, 2, none⟩ = some v2)
    (f0 : w.frozen? ⟨b, 0, none⟩ = false) (f1 : w.frozen? ⟨b, 1, none⟩ = false) (f2 : w.frozen? ⟨b, 2, none⟩ = false) (row : Row w sv (packN L Q)) (hQ : L.length / 8 = Q) (apart : b ∉ ownOf sv)
    (hy : y = (byteL L Q : Int)) (hz : z = ((L.length % 8 : Nat) : Int)) (sz : L.length ≤ 281474976710656) :
    Wr (((w.setCell ⟨b, 1, none⟩ (.int .u8 y)).setCell ⟨b, 2, none⟩ (.int .i64 z)).drew) b sv L ∧ Only [b] w (((w.setCell ⟨b, 1, none⟩ (.int .u8 y)).setCell ⟨b, 2, none⟩ (.int .i64 z)).drew) := by
  subst hQ hy hz
  have ne : ∀ (x y : Nat), x ≠ y → (⟨b, x, none⟩ : Addr) ≠ ⟨b, y, none⟩ := fun x y h e => by injection e with _ e2 _; exact h e2
  have o1 : Only [b] w ((w.setCell ⟨b, 1, none⟩ (.int .u8 (byteL L (L.length / 8)))).setCell ⟨b, 2, none⟩ (.int .i64 ((L.length % 8 : Nat) : Int))) := ((Only.refl [b] w).setCell (p := ⟨b, 1, none⟩) (.inl (by simp)) _).setCell (p := ⟨b, 2, none⟩) (.inl (by simp)) _
  have o2 := o1.drew
  refine ⟨⟨?_, ?_, ?_, ?_, ?_, ?_, row.only o2 (fun g hg h => apart (List.mem_singleton.1 h ▸ hg)), apart, sz⟩, o2⟩
  · exact (World.cell?_setCell_other _ _ _ _ (ne 2 0 (by omega))).trans ((World.cell?_setCell_other _ _ _ _ (ne 1 0 (by omega))).trans c0)
  · exact (World.cell?_setCell_other _ _ _ _ (ne 2 1 (by omega))).trans (World.cell?_setCell_same _ _ _ c1)
  · exact World.cell?_setCell_same _ _ _ ((World.cell?_setCell_other _ _ _ _ (ne 1 2 (by omega))).trans c2)
  · exact (World.frozen?_setCell _ _ _ _).trans ((World.frozen?_setCell _ _ _ _).trans f0)
  · exact (World.frozen?_setCell _ _ _ _).trans ((World.frozen?_setCell _ _ _ _).trans f1)
  · exact (World.frozen?_setCell _ _ _ _).trans ((World.frozen?_setCell _ _ _ _).trans f2)

theorem arr9 : Tryz.prog.arrayLen 102 = 9 := by kernel_rfl
theorem arr9e : Tryz.prog.elem 102 = 5 := by kernel_rfl
theorem arr9u : Tryz.prog.underlying 102 = some (.array (Tryz.prog.arrayLen 102) (Tryz.prog.elem 102)) := by kernel_rfl
theorem slice9 (B k : Nat) (hk : k ≤ 9) (w : World) : (Instr.sliceAt 102 (.pointer (some ⟨B, 0, none⟩)) none (some (.int .i64 (k : Int))) none).run Tryz.prog w = .ok (.slice (some ⟨B, 0, none⟩) k 9) w := by
  rw [run_sliceAt_array_h w 102 _ arr9u .i64 k (by omega) (by rw [arr9]; omega)]
  obtain ⟨i0, hi0, hz0, hs0, hb0⟩ := info_parts info_u8
  have hz : (sizeOf (Tryz.prog.elem 102)).run Tryz.prog w = .ok 1 w := by rw [arr9e]; simp [Go.sizeOf, typeInfo, hi0, hs0]
  rw [hz, arr9]
  simp [slicedAt, Result.andThen, Addr.add]

set_option maxHeartbeats 1000000 in
theorem put_yes (b : Nat) (sv : Value) (l : List Bool) (n v : Nat) (w : World) (h : Wr w b sv l) (hn : n ≤ 64) (hv : v < 2 ^ n) (hsz : l.length + n ≤ 281474976710656) :
    Calls Tryz.prog 18 #[.pointer (some ⟨b, 0, none⟩), .int .i64 n, .int .u64 v] w fun e w' => e = .returned (.int .i64 0) ∧ ∃ sv', Wr w' b sv' (l ++ bitsOf n v) ∧ (∀ g, g ∈ ownOf sv' → g ∈ ownOf sv ∨ w.heap.size ≤ g) ∧ Only (b :: ownOf sv) w w' := by
  have c0 := h.c0
  have c1 := h.c1
  have c2 := h.c2
  have f1 := h.f1
  have f2 := h.f2
  have H := hid h
  obtain ⟨p, hp⟩ : ∃ p, p = byteL l (l.length / 8) := ⟨_, rfl⟩
  obtain ⟨m, hm⟩ : ∃ m, m = l.length % 8 := ⟨_, rfl⟩
  rw [← hp] at c1
  rw [← hm] at c2
  have hm8 : m < 8 := by omega
  have hp8 : p < 256 := by rw [hp]; exact byteL_lt _ _
  have P := hid hp
  have M := hid hm
  have hd : ((v : Int) / 2 ^ n != 0) = false := by
    have e : (v : Int) / 2 ^ n = ((v / 2 ^ n : Nat) : Int) := by rw [Int.natCast_ediv, Int.natCast_pow]; rfl
    rw [e, Nat.div_eq_of_lt hv]; rfl
  have HV := hid hv
  clear h hp hm hv c0
  go_enter Tryz.func18, Tryz.ntmps18
  go_wp2
  have hlt : b < w.heap.size := World.block_lt_of_cell? _ _ c1
  generalize hwa : World.alloc w _ = wa
  have a1 : wa.cell? ⟨b, 1, none⟩ = some (.int .u8 p) := by rw [← hwa]; exact (World.cell?_alloc_lt _ _ _ hlt).trans c1
  have a2 : wa.cell? ⟨b, 2, none⟩ = some (.int .i64 m) := by rw [← hwa]; exact (World.cell?_alloc_lt _ _ _ hlt).trans c2
  have g1 : wa.frozen? ⟨b, 1, none⟩ = false := by rw [← hwa]; exact (World.frozen?_of_block (Below.heap_alloc _ _ _ hlt)).trans f1
  have g2 : wa.frozen? ⟨b, 2, none⟩ = false := by rw [← hwa]; exact (World.frozen?_of_block (Below.heap_alloc _ _ _ hlt)).trans f2
  have z : ∀ j, j < 9 → wa.cell? ⟨w.heap.size, j, none⟩ = some (.int .u8 0) := by
    intro j hj
    rw [← hwa]
    obtain rfl | rfl | rfl | rfl | rfl | rfl | rfl | rfl | rfl : j = 0 ∨ j = 1 ∨ j = 2 ∨ j = 3 ∨ j = 4 ∨ j = 5 ∨ j = 6 ∨ j = 7 ∨ j = 8 := by omega
    all_goals simp
  have zf : ∀ j, wa.frozen? ⟨w.heap.size, j, none⟩ = false := by intro j; rw [← hwa]; simp
  have hbs : w.heap.size ≠ b := by omega
  have hon : Only [] w wa := by rw [← hwa]; exact (Only.refl _ _).alloc _
  have HW := hid hwa
  have ON := hid hon
  have Z := hid z
  have ZF := hid zf
  have z0 := z 0 (by omega)
  have zf0 := zf 0
  clear hwa hon z zf c1 c2 f1 f2
  generalize hB : w.heap.size = B at *
  have EB := hid hB
  clear hB
  obtain ⟨q, hq⟩ : ∃ q, q = l.length / 8 := ⟨_, rfl⟩
  have hl : l.length = 8 * q + m := by have := M.out; omega
  have e0 := y_first_int hl hm8 hn HV.out
  have e1 := v_first (m := m) hn HV.out
  rw [show byteL l q = p by rw [P.out, hq]] at e0
  obtain ⟨Y, hY⟩ : ∃ Y : Nat → Nat, Y = fun i => byteL (l ++ bitsOf n v) (q + i) := ⟨_, rfl⟩
  rw [show (byteL (l ++ bitsOf n v) q : Int) = (Y 0 : Int) by rw [hY]; rfl] at e0
  have E0 := hid e0
  have E1 := hid e1
  have YY := hid hY
  have hY8 : ∀ i, Y i < 256 := fun i => by rw [hY]; exact byteL_lt _ _
  have Y8 := hid hY8
  have HL := hid hl
  have HQ := hid hq
  clear e0 e1 hY hY8 hl hq
  go_region
  go_wp2_with fail
  rw [E0.out, E1.out]
  obtain ⟨k, hk⟩ : ∃ k : Nat, k = (m + n) / 8 := ⟨_, rfl⟩
  have hk' : ((m : Int) + (n : Int)) / 8 = (k : Int) := by omega
  rw [hk']
  have hk8 : k ≤ 8 := by omega
  have K := hid hk
  clear hk hk'
  go_loopg [2, 9] k (fun g s2 s9 wr => ∃ i : Nat, i + g = k + 1 ∧ 1 ≤ i ∧ s9 = .int .i64 i ∧ s2 = .int .u64 (vAt n m v i) ∧ (∀ j, j < i → wr.cell? ⟨B, j, none⟩ = some (.int .u8 (Y j))) ∧ (∀ j, i ≤ j → j < 9 → wr.cell? ⟨B, j, none⟩ = some (.int .u8 0)) ∧ (∀ j, wr.frozen? ⟨B, j, none⟩ = false) ∧ Only [B] wa wr)
  case atStart =>
    refine ⟨1, by omega, by omega, rfl, rfl, ?_, ?_, ?_, ?_⟩
    · intro j hj
      obtain rfl : j = 0 := by omega
      exact World.cell?_setCell_same _ _ _ z0
    · intro j h1 h2
      exact (World.cell?_setCell_other _ _ _ _ (by intro e; injection e with _ e2 _; omega)).trans (Z.out j h2)
    · intro j
      exact (World.frozen?_setCell _ _ _ _).trans (ZF.out j)
    · exact ((Only.refl _ _).setCell (.inl (by simp)) _).drew
  case round =>
    obtain ⟨i, hi, hi1, rfl, rfl, r1, r2, r3, r4⟩ := hrel
    have R1 := hid r1
    have R2 := hid r2
    have R3 := hid r3
    have R4 := hid r4
    have IG := hid hi
    have VN := hid (v_next (n := n) (v := v) (m := m) hi1)
    have vl := vAt_lt n m v i
    have YN := hid (y_next (v := v) HL.out hm8 hn hi1)
    obtain ⟨x, hx⟩ : ∃ x, x = vAt n m v i := ⟨_, rfl⟩
    rw [← hx] at vl VN YN ⊢
    have X := hid hx
    clear r1 r2 r3 r4 hx
    by_cases h0 : gk = 0
    · have i1 : (k : Int) < (i : Int) := by omega
      have hsl := slice9 B k (by omega)
      have OW : Only [] w wr := ON.out.trans2 R4.out (fun x hx => .inr (by rw [List.mem_singleton.1 hx, EB.out]; exact Nat.le_refl _))
      have HWr : Wr wr b sv l := H.out.only OW (by simp) (by simp)
      obtain ⟨cs, hcs⟩ : ∃ cs, cs = (List.range k).map fun j => UInt8.ofNat (Y j) := ⟨_, rfl⟩
      have hcl : cs.length = k := by rw [hcs]; simp
      have hsl1 : ∀ g, g ∈ ownOf sv → g < w.heap.size := H.out.row.lt
      have hBs : B ∉ ownOf sv := fun h => by have := hsl1 B h; have := EB.out; omega
      have hBlt : B < wr.heap.size := World.block_lt_of_cell? _ _ (R1.out 0 (by omega))
      have hik : k < i := by omega
      have C := add_any b B sv (packN l (l.length / 8)) cs wr HWr.c0 HWr.f0 HWr.row H.out.apart hbs hBs hBlt (by rw [length_packN, hcl]; have := K.out; have := HL.out; have := HQ.out; omega) (by omega) (fun j v hj => by
        rw [hcs] at hj
        simp only [List.map_map, List.getElem?_map] at hj
        have hjk : j < k := by
          by_cases h : j < k
          · exact h
          · rw [List.getElem?_eq_none (by simp; omega)] at hj; simp at hj
        rw [List.getElem?_range hjk] at hj
        simp only [Option.map_some, Option.some.injEq, Function.comp] at hj
        rw [← hj, R1.out j (by omega)]
        simp only [byteV, UInt8.toNat_ofNat', Nat.mod_eq_of_lt (Y8.out j)])
      rw [hcl] at C
      have hpk : packN l (l.length / 8) ++ cs = packN (l ++ bitsOf n v) (q + k) := by
        rw [packN_append _ _ _ _ (by have := HL.out; omega), hcs, YY.out, HQ.out]
      rw [hpk] at C
      have C' := hid C
      have OW' := hid OW
      have SL := hid hsl1
      have BS := hid hBs
      have HWR := hid HWr
      have yk := R1.out k hik
      have hB9 : k < 9 := by omega
      clear hi C hcs hcl hpk OW hsl1 hBs HWr
      go_wp2_with fail
      refine C'.out.mono ?_
      rintro e w2 ⟨rfl, sv', A⟩
      have b1 : w2.cell? ⟨b, 1, none⟩ = some (.int .u8 p) := by rw [A.other 1 (by omega), HWR.out.c1, P.out]
      have b2 : w2.cell? ⟨b, 2, none⟩ = some (.int .i64 m) := by rw [A.other 2 (by omega), HWR.out.c2, M.out]
      have d1 : w2.frozen? ⟨b, 1, none⟩ = false := (A.frozen 1).trans HWR.out.f1
      have d2 : w2.frozen? ⟨b, 2, none⟩ = false := (A.frozen 2).trans HWR.out.f2
      have hBn : B ∉ b :: ownOf sv := fun h => by rcases List.mem_cons.1 h with h | h; exact hbs h; exact BS.out h
      have y2 : w2.cell? ⟨B, k, none⟩ = some (.int .u8 (Y k)) := A.only.cell yk hBn
      have hk9 : (k : Int) < 9 := by omega
      have A' := hid A
      clear A hBn
      go_wp2_with fail
      go_region
      all_goals go_wp2_with fail
      go_ret
      have hL : (l ++ bitsOf n v).length = 8 * q + m + n := by rw [List.length_append, length_bitsOf, HL.out]
      have e1 : (l ++ bitsOf n v).length / 8 = q + k := by rw [hL]; have := K.out; omega
      have A := A'.out
      have own : ∀ g, g ∈ ownOf sv' → g ∈ ownOf sv ∨ w.heap.size ≤ g := fun g hg => by
        rcases A.own g hg with h | h
        · exact .inl h
        · exact .inr (by have := OW'.out.size; omega)
      have hbl : b < w.heap.size := H.out.lt
      have apart : b ∉ ownOf sv' := fun hg => by
        rcases own b hg with h | h
        · exact H.out.apart h
        · omega
      have o1 : Only (b :: ownOf sv) w w2 := (OW'.out.mono (fun k _ h => by cases h)).trans2 A.only (fun x hx => .inl hx)
      have F := wr_store (L := l ++ bitsOf n v) (y := (Y k : Int)) (z := ((m : Int) + (n : Int)) % 8) A.cell b1 b2 ((A.frozen 0).trans HWR.out.f0) d1 d2 A.row e1 apart (by rw [YY.out]) (by rw [hL]; omega) (by rw [hL]; have := HL.out; omega)
      exact ⟨rfl, sv', F.1, own, o1.trans (F.2.mono (fun k _ h => by rw [List.mem_singleton.1 h]; exact List.mem_cons_self))⟩
    · have i1 : (i : Int) ≤ (k : Int) := by omega
      have hb := R2.out i (Nat.le_refl _) (by omega)
      have hf := R3.out i
      have i9 : (i : Int) < 9 := by omega
      clear hi
      go_wp2_with fail
      go_roundg (gk - 1)
      case measure => omega
      case rel =>
        refine ⟨i + 1, by have := IG.out; omega, by omega, by go_num, ?_, ?_, ?_, ?_, ?_⟩
        · rw [show ((x : Int) * 256) = ((x * 2 ^ 8 : Nat) : Int) from by omega, wrap_mod, VN.out]
        · intro j hj
          by_cases e : j = i
          · subst e
            refine (World.cell?_setCell_same _ _ _ hb).trans ?_
            rw [show ((x : Int) / 72057594037927936) = ((x / 2 ^ 56 : Nat) : Int) from by omega, YN.out, YY.out]
          · exact (World.cell?_setCell_other _ _ _ _ (by intro e'; injection e' with _ e2 _; omega)).trans (R1.out j (by omega))
        · intro j h1 h2
          exact (World.cell?_setCell_other _ _ _ _ (by intro e; injection e with _ e2 _; omega)).trans (R2.out j (by omega) h2)
        · intro j
          exact (World.frozen?_setCell _ _ _ _).trans (R3.out j)
        · exact R4.out.setCell (.inl (by simp)) _
end Go.Proofs.YtjjjfmnhdnajkaaGreatDoor

/- Bytes of a string that a call changes in place. -/
import Derived.Test.YtfigmjlnjaihnaaSpM
import Derived.ArgAppend
import Derived.Laws.IdiomStrings
namespace Go.Proofs.Ytfigmjlnjaihnaa
open Go.RowKit
set_option linter.unusedVariables false

/-- The block g holds the bytes bs, in c cells. -/
structure Buf (w : World) (g c : Nat) (bs : List UInt8) : Prop where
  le : bs.length ≤ c
  cell : ∀ (j : Nat) (x : UInt8), bs[j]? = some x → w.cell? ⟨g, j, none⟩ = some (byteV x)
  room : ∀ j, j < c → (w.cell? ⟨g, j, none⟩).isSome = true ∧ w.frozen? ⟨g, j, none⟩ = false
theorem Buf.set {w : World} {g c : Nat} {bs : List UInt8} (h : Buf w g c bs) (k : Nat) (hk : k < bs.length) (x : UInt8) : Buf (w.setCell ⟨g, k, none⟩ (byteV x)) g c (bs.set k x) := by
  have hle := h.le
  have old : w.cell? ⟨g, k, none⟩ = some (byteV bs[k]) := h.cell k _ (List.getElem?_eq_getElem hk)
  refine ⟨by simpa using hle, fun j y hj => ?_, fun j hj => ⟨?_, by rw [World.frozen?_setCell]; exact (h.room j hj).2⟩⟩
  · by_cases e : j = k
    · subst e
      rw [List.getElem?_set_self hk] at hj
      cases hj
      exact World.cell?_setCell_same _ _ _ old
    · rw [List.getElem?_set_ne (by omega)] at hj
      rw [World.cell?_setCell_other _ _ _ _ (by simp <;> omega)]
      exact h.cell j y hj
  · by_cases e : j = k
    · subst e
      rw [World.cell?_setCell_same _ _ _ old]; rfl
    · rw [World.cell?_setCell_other _ _ _ _ (by simp <;> omega)]
      exact (h.room j hj).1
theorem Buf.keep {w w' : World} {g c : Nat} {bs : List UInt8} (h : Buf w g c bs) (o : Only [] w w') : Buf w' g c bs := by
  refine ⟨h.le, fun j x hj => o.cell (h.cell j x hj) (by simp), fun j hj => ?_⟩
  obtain ⟨a, b⟩ := h.room j hj
  obtain ⟨v, hv⟩ := Option.isSome_iff_exists.1 a
  exact ⟨by rw [o.cell hv (by simp)]; rfl, by rw [o.frozen (World.block_lt_of_cell? _ _ hv) (by simp)]; exact b⟩
theorem conv_buf (s : ByteArray) (w : World) : ∃ c w', (convert 9 36 (.string s)).run Try.prog w = .ok (.slice (some ⟨w.heap.size, 0, none⟩) s.size c) w' ∧ Buf w' w.heap.size c s.data.toList ∧ Only [] w w' := by
  refine ⟨_, _, run_bytes_of_string (P := Try.prog) w _ _ 5 s und_str und_bytes und_u8, ?_, ((Only.refl [] w).drew).alloc _⟩
  have hge : s.size ≤ grownCap w s.size 0 5 := grownCap_ge w s.size 0 5
  generalize grownCap w s.size 0 5 = c at *
  have sz : (bytesRow s c).size = c := by
    unfold bytesRow
    rw [Array.size_append, Array.size_map, Array.size_replicate]
    show s.size + (c - s.size) = c
    omega
  have cl : ∀ i, (w.drew.alloc (.cells (bytesRow s c) 5 ((bytesRow s c).size, (bytesRow s c).size + 1))).cell? ⟨w.heap.size, i, none⟩ = (bytesRow s c)[i]? := fun i => World.cell?_alloc_mark w.drew (bytesRow s c) 5 _ i
  refine ⟨by simpa using hge, fun j x hj => ?_, fun j hj => ⟨?_, ?_⟩⟩
  · rw [cl]
    obtain ⟨hj1, hj2⟩ := List.getElem?_eq_some_iff.1 hj
    have h2 : j < s.data.size := by simpa using hj1
    unfold bytesRow
    rw [Array.getElem?_append_left (by simpa using h2), Array.getElem?_map, Array.getElem?_eq_getElem h2]
    simp only [Option.map_some, Option.some.injEq]
    rw [← hj2]
    simp [byteV]
  · rw [cl, Array.getElem?_eq_getElem (by rw [sz]; exact hj)]; rfl
  · have := World.frozen?_alloc_mark w.drew (bytesRow s c) 5 (bytesRow s c).size ((bytesRow s c).size + 1) j
    rw [show w.drew.heap.size = w.heap.size from rfl] at this
    rw [this, decide_eq_false (by rw [sz]; omega)]
    rfl
/-- One byte more, and the string of them. -/
theorem Buf.push {w : World} {g c : Nat} {bs : List UInt8} (h : Buf w g c bs) (x : UInt8) (hl : bs.length ≤ 1000000) :
    ∃ sv w', (Builtin.append_ #[36, 36] 36 #[.slice (some ⟨g, 0, none⟩) bs.length c, .slice (some ⟨w.heap.size, 0, none⟩) 1 1]).run Try.prog (w.alloc (.cells #[byteV x] 5)) = .ok sv w' ∧
      (convert 36 9 sv).run Try.prog w' = .ok (.string (strOf (bs ++ [x]))) w' ∧ Only [g] w w' := by
  obtain ⟨i0, hi0, hz0, hs0, hb0⟩ := info_parts info_u8
  have K := h.keep ((Only.refl [] w).alloc (.cells #[byteV x] 5))
  have nw : ∀ j v, ([byteV x] : List Value)[j]? = some v → (w.alloc (.cells #[byteV x] 5)).cell? ((⟨w.heap.size, 0, none⟩ : Addr).add j) = some v := fun j v hj => by
    have hj0 : j = 0 := by have := (List.getElem?_eq_some_iff.1 hj).1; simp at this; omega
    subst hj0
    rw [addr_add, World.cell?_alloc_new]
    simpa using hj
  have OA : Only [g] w (w.alloc (.cells #[byteV x] 5)) := (Only.refl [g] w).alloc _
  by_cases hr : bs.length + 1 ≤ c
  · have run := run_append_room_cells (P := Try.prog) (w := w.alloc (.cells #[byteV x] 5)) 36 36 5 i0 und_bytes hi0 g 0 bs.length c ⟨w.heap.size, 0, none⟩ 1 1 [byteV x] (by rw [hs0]; rfl) nw (by intro u hu; simp at hu; subst hu; rfl) hr
      (fun j hj => by have : j = 0 := by simpa using hj
                      subst this; rw [hs0]; simpa using (K.room bs.length (by omega)).1)
      (fun j hj => by have : j = 0 := by simpa using hj
                      subst this; rw [hs0]; simpa using (K.room bs.length (by omega)).2)
    rw [hs0] at run
    simp only [Nat.zero_add, Nat.mul_one, World.setCells] at run
    refine ⟨_, _, run, ?_, OA.setCell (.inl (by simp)) _⟩
    obtain ⟨v, hv⟩ := Option.isSome_iff_exists.1 (K.room bs.length (by omega)).1
    have := run_convert_bytes_back (P := Try.prog) ((w.alloc (.cells #[byteV x] 5)).setCell ⟨g, bs.length, none⟩ (byteV x)) 36 9 5 ⟨g, 0, none⟩ c (bs ++ [x]) und_bytes und_u8 und_str (fun j hj => by
      rw [addr_add]
      by_cases e : j = bs.length
      · subst e
        rw [World.cell?_setCell_same _ _ _ hv]
        simp [byteV]
      · rw [World.cell?_setCell_other _ _ _ _ (by simp <;> omega)]
        have hj2 : j < bs.length := by simp at hj; omega
        rw [K.cell j bs[j] (List.getElem?_eq_getElem hj2), List.getElem_append_left hj2]
        rfl)
    simpa [strOf] using this
  · have hc : c = bs.length := by have := h.le; omega
    have run := run_append_grow (P := Try.prog) (w.alloc (.cells #[byteV x] 5)) 36 36 5 i0 (.int .u8 0) und_bytes hi0 hz0 ⟨g, 0, none⟩ bs.length c (bs.map byteV) (by rw [hs0]; simp) (fun j v hj => by
        rw [addr_add]
        rw [List.getElem?_map] at hj
        cases hq : bs[j]? with
        | none => rw [hq] at hj; cases hj
        | some y => rw [hq] at hj; cases hj; exact K.cell j y hq)
      ⟨w.heap.size, 0, none⟩ 1 1 [byteV x] (by rw [hs0]; rfl) nw (by omega) (by omega) (by rw [hb0]; have := growslice_fits (need := bs.length + 1) (old := c) (bytes := 1) (by omega) (by omega); simpa using this)
    refine ⟨_, _, run, ?_, (OA.drew).alloc _⟩
    have := run_convert_bytes_back (P := Try.prog) _ 36 9 5 ⟨(w.alloc (.cells #[byteV x] 5)).heap.size, 0, none⟩ (grownCap (w.alloc (.cells #[byteV x] 5)) (bs.length + 1) c 5) (bs ++ [x]) und_bytes und_u8 und_str (fun j hj => by
      rw [addr_add]
      show ((w.alloc (.cells #[byteV x] 5)).drew.alloc (.cells ((bs.map byteV).toArray ++ [byteV x].toArray ++ Builtin.zeroCells (Value.int .u8 0).cells (grownCap (w.alloc (.cells #[byteV x] 5)) (bs.length + 1) c 5 - (bs.length + 1))) 5)).cell? ⟨(w.alloc (.cells #[byteV x] 5)).drew.heap.size, j, none⟩ = _
      rw [World.cell?_alloc_new, Array.getElem?_append_left (by simp at hj ⊢; omega)]
      have : (bs.map byteV).toArray ++ [byteV x].toArray = ((bs ++ [x]).map byteV).toArray := by simp
      rw [this]
      simp only [List.getElem?_toArray, List.getElem?_map, List.getElem?_eq_getElem hj]
      rfl)
    simpa [strOf] using this
end Go.Proofs.Ytfigmjlnjaihnaa

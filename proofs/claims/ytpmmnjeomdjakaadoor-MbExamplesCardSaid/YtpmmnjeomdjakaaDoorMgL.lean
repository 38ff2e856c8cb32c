/- Plain facts of MbLists: the blocks that are coded are all different, their categories never decrease; which block is found. -/
import Derived.Test.YtpmmnjeomdjakaaDoorMgB
import Derived.Test.YtpmmnjeomdjakaaDoorMgF
namespace Go.Proofs.YtpmmnjeomdjakaaDoor
open Go.RowKit
set_option linter.unusedVariables false
set_option linter.unusedSimpArgs false

def apartB : List Cod → Bool
  | [] => true
  | x :: l => l.all (fun y => !decide (x = y) && decide (x.1 ≤ y.1)) && apartB l
theorem apart_all : ((List.range 8).all fun k => (List.range 48).all fun c => apartB (blocksL k c)) = true := by decide +kernel
theorem apart_at (k c : Nat) (hk : k < 8) (hc : c < 48) : apartB (blocksL k c) = true := by
  have h := apart_all
  rw [List.all_eq_true] at h
  have h2 := h k (List.mem_range.2 hk)
  rw [List.all_eq_true] at h2
  exact h2 c (List.mem_range.2 hc)
theorem apart_ij : ∀ (l : List Cod), apartB l = true → ∀ (i j : Nat) (x y : Cod), i < j → l[i]? = some x → l[j]? = some y → x ≠ y ∧ x.1 ≤ y.1
  | [], _, i, j, x, y, _, hx, _ => by simp at hx
  | a :: l, h, i, j, x, y, hij, hx, hy => by
    rw [apartB, Bool.and_eq_true] at h
    match i, j, hij with
    | 0, j + 1, _ =>
      have hx : a = x := by simpa using hx
      have hy : l[j]? = some y := by simpa using hy
      have h1 := (List.all_eq_true.1 h.1) y (List.mem_of_getElem? hy)
      subst hx
      simpa using h1
    | i + 1, j + 1, hij => exact apart_ij l h.2 i j x y (by omega) (by simpa using hx) (by simpa using hy)
theorem empty_all : ((List.range 8).all fun k => decide (k = 1) || decide (blocksL k 0 = [])) = true := by decide +kernel
theorem empty_at (k : Nat) (hk : k < 8) (h1 : k ≠ 1) : blocksL k 0 = [] := by
  have h := (List.all_eq_true.1 empty_all) k (List.mem_range.2 hk)
  simpa [h1] using h
theorem find_at : ∀ (l : List Cod) (bs : List (List Int)), apartB l = true → ∀ (i : Nat) (c : Cod) (b : List Int), l[i]? = some c → bs[i]? = some b → findB l bs c = (b, true)
  | [], _, _, i, c, b, h, _ => by simp at h
  | a :: l, [], _, i, c, b, _, h => by simp at h
  | a :: l, d :: bs, h, i, c, b, hc, hb => by
    match i with
    | 0 =>
      have hc : a = c := by simpa using hc
      have hb : d = b := by simpa using hb
      rw [findB, if_pos hc, hb]
    | i + 1 =>
      have hn := (apart_ij _ h 0 (i + 1) a c (by omega) rfl hc).1
      rw [findB, if_neg hn]
      rw [apartB, Bool.and_eq_true] at h
      exact find_at l bs h.2 i c b (by simpa using hc) (by simpa using hb)
theorem find_none : ∀ (l : List Cod) (bs : List (List Int)), apartB l = true → ∀ (i : Nat) (c : Cod), l[i]? = some c → bs.length ≤ i → findB l bs c = ([], false)
  | [], _, _, i, c, h, _ => by simp at h
  | a :: l, [], _, i, c, _, _ => by rw [findB]; simp
  | a :: l, d :: bs, h, i, c, hc, hb => by
    match i with
    | 0 => simp at hb
    | i + 1 =>
      have hn := (apart_ij _ h 0 (i + 1) a c (by omega) rfl hc).1
      rw [findB, if_neg hn]
      rw [apartB, Bool.and_eq_true] at h
      exact find_none l bs h.2 i c (by simpa using hc) (by simpa using hb)
/-- What MbLists needs of a plain macroblock and its blocks. -/
structure LiP (P : MV) (L : List Cod) : Prop where
  w : whichL P = L
  a : apartB L = true
  n : L.length ≤ 27
  b : P.blocks = zerosB L
  bl : P.blocks.length = L.length
  e : P.cbp = 0 → P.kind ≠ 1 → L = []
  c : ∀ z, z ∈ L → 0 ≤ z.1 ∧ z.1 ≤ 4
theorem lip_of (K c : Int) (k0 : 0 ≤ K) (k7 : K ≤ 7) (c0 : 0 ≤ c) (c1 : c ≤ 255) : LiP (plainM K c) (blocksL K.toNat (cbpP K c).toNat) := by
  have hc := cbpP_le K c c0 c1
  refine ⟨pl_which K c, apart_at _ _ (by omega) (by omega), blocksL_len _ _, pl_blocksv K c, by rw [pl_blocksv, zerosB_len], fun h1 h2 => ?_, fun z hz => blocksL_cat _ _ z hz⟩
  rw [pl_cbpv] at h1
  rw [pl_kind] at h2
  rw [h1]
  exact empty_at _ (by omega) (by omega)
theorem size_cat (z : Int) (h0 : 0 ≤ z) (h4 : z ≤ 4) : ∃ m : Nat, sizeI z = ((m : Int), 0) ∧ m ≤ 16 ∧ 4 ≤ m := by
  have : z = 0 ∨ z = 1 ∨ z = 2 ∨ z = 3 ∨ z = 4 := by omega
  rcases this with rfl | rfl | rfl | rfl | rfl
  · exact ⟨16, rfl, by omega, by omega⟩
  · exact ⟨15, rfl, by omega, by omega⟩
  · exact ⟨16, rfl, by omega, by omega⟩
  · exact ⟨4, rfl, by omega, by omega⟩
  · exact ⟨15, rfl, by omega, by omega⟩
/-- The block of the i-th: its size, the category is in range. -/
theorem LiP.at {P : MV} {L : List Cod} (h : LiP P L) {i : Nat} {z : Cod} (hz : L[i]? = some z) : ∃ m : Nat, sizeI z.1 = ((m : Int), 0) ∧ m ≤ 16 ∧ 4 ≤ m ∧ findB (whichL P) P.blocks z = (List.replicate m 0, true) := by
  have hc := h.c z (List.mem_of_getElem? hz)
  obtain ⟨m, e, m1, m2⟩ := size_cat z.1 hc.1 hc.2
  refine ⟨m, e, m1, m2, ?_⟩
  rw [h.w, h.b]
  refine find_at L _ h.a i z _ hz ?_
  unfold zerosB
  rw [List.getElem?_map, hz, Option.map_some, e]
  rfl
/-- The block in memory: its length, at least four. -/
theorem LiP.blk {P : MV} {L : List Cod} (h : LiP P L) {i : Nat} {b : List Int} (hb : P.blocks[i]? = some b) : b.length ≤ 16 ∧ 4 ≤ b.length := by
  rw [h.b] at hb
  unfold zerosB at hb
  rw [List.getElem?_map] at hb
  obtain ⟨z, hz, rfl⟩ := Option.map_eq_some_iff.1 hb
  obtain ⟨m, e, m1, m2, _⟩ := h.at hz
  rw [List.length_replicate, e]
  show ((m : Int).toNat) ≤ 16 ∧ 4 ≤ (m : Int).toNat
  omega
/-- The last one is not found where there is one block less. -/
theorem LiP.less {P : MV} {L : List Cod} (h : LiP P L) {m : Nat} {z : Cod} (hz : L[m]? = some z) : findB (whichL { P with blocks := P.blocks.take m }) (P.blocks.take m) z = ([], false) := by
  have e : whichL { P with blocks := P.blocks.take m } = L := h.w
  rw [e]
  exact find_none L _ h.a m z hz (by rw [List.length_take]; omega)
section
variable {K c : Int} (k0 : 0 ≤ K) (k7 : K ≤ 7) (c0 : 0 ≤ c) (c1 : c ≤ 255)
include k0 k7 c0 c1
/-- One block more, one less, a shorter one: not valid. -/
theorem li_more13 (b : List Int) : MIn { plainM K c with blocks := (plainM K c).blocks ++ [b] } ∧ checkI { plainM K c with blocks := (plainM K c).blocks ++ [b] } false 1 = 2 :=
  want_blks k0 k7 c0 c1 _ 2 1 (by omega) (by omega) (blks_many K c _ (by rw [List.length_append, List.length_singleton]; omega))
theorem li_less13 (m : Nat) (hm : m < (plainM K c).blocks.length) : MIn { plainM K c with blocks := (plainM K c).blocks.take m } ∧ checkI { plainM K c with blocks := (plainM K c).blocks.take m } false 1 = 2 :=
  want_blks k0 k7 c0 c1 _ 2 1 (by omega) (by omega) (blks_many K c _ (by rw [List.length_take]; omega))
theorem li_short13 (i : Nat) (b : List Int) (hb : (plainM K c).blocks[i]? = some b) : MIn { plainM K c with blocks := (plainM K c).blocks.set i (b.drop 1) } ∧ checkI { plainM K c with blocks := (plainM K c).blocks.set i (b.drop 1) } false 1 = 2 :=
  want_blks k0 k7 c0 c1 _ 2 1 (by omega) (by omega) (blks_short K c i b hb)
end
end Go.Proofs.YtpmmnjeomdjakaaDoor

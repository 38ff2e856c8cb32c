/- The reference's Read: what it has in memory. -/
import Derived.Test.YtjjjfmnhdnajkaaGreatDoorMg14
namespace Go.Proofs.YtjjjfmnhdnajkaaGreatDoor
open Go.RowKit
set_option linter.unusedVariables false
set_option linter.unusedSimpArgs false

/-- The scan (at D), its reader (at c), the header (at X); the lists lie behind B. -/
structure RH (wS : World) (D c X B : Nat) (s : ByteArray) (w : World) (E : Int) (q : Nat) (x : HV) (mv kv : Value) : Prop where
  sc : Sc w D c E
  rd : Rd w c s q
  bx : Blk w X 34 (hC x mv kv).toArray
  hm : HoldsM w mv x.mods
  hk : HoldsM w kv x.marks
  fm : ∀ ad n d, mv = .slice (some ad) n d → x.mods ≠ [] → B ≤ ad.block
  fk : ∀ ad n d, kv = .slice (some ad) n d → x.marks ≠ [] → B ≤ ad.block
  only : Only [c, D, X] wS w
  lt : c < B ∧ D < B ∧ X < B ∧ D ≠ c ∧ X ≠ c ∧ X ≠ D ∧ B ≤ w.heap.size
section
variable {wS w w' : World} {D c X B : Nat} {s : ByteArray} {E E' : Int} {q q' : Nat} {x x' : HV} {mv kv v : Value}
theorem RH.keepm (h : RH wS D c X B s w E q x mv kv) {S : List Nat} (k : Only S w w') (hS : ∀ y, y ∈ S → y < B) : HoldsM w' mv x.mods ∧ HoldsM w' kv x.marks :=
  ⟨h.hm.only2 k (fun ad n d e hl hm => by have := h.fm ad n d e hl; have := hS _ hm; omega), h.hk.only2 k (fun ad n d e hl hm => by have := h.fk ad n d e hl; have := hS _ hm; omega)⟩
theorem RH.scan (h : RH wS D c X B s w E q x mv kv) (k1 : Sc w' D c E') (k2 : Rd w' c s q') (k3 : Only [c, D] w w') : RH wS D c X B s w' E' q' x mv kv := by
  obtain ⟨l1, l2, l3, l4, l5, l6, l7⟩ := h.lt
  have km := h.keepm k3 (fun y hy => by simp at hy; omega)
  exact ⟨k1, k2, h.bx.only k3 (by simp; omega), km.1, km.2, h.fm, h.fk, h.only.trans (k3.mono (by intro y _ hy; simp at hy ⊢; omega)), l1, l2, l3, l4, l5, l6, Nat.le_trans l7 k3.size⟩
theorem RH.note (h : RH wS D c X B s w E q x mv kv) (k1 : Sc w' D c E') (k3 : Only [D] w w') : RH wS D c X B s w' E' q x mv kv := by
  obtain ⟨l1, l2, l3, l4, l5, l6, l7⟩ := h.lt
  exact h.scan k1 (h.rd.only k3 (by simp; omega)) (k3.mono (by intro y _ hy; simp at hy ⊢; omega))
theorem RH.set (h : RH wS D c X B s w E q x mv kv) (i : Nat) (v : Value) (hs : (hC x mv kv).toArray.setIfInBounds i v = (hC x' mv kv).toArray) (h1 : x'.mods = x.mods) (h2 : x'.marks = x.marks) : RH wS D c X B s (w.setCell ⟨X, i, none⟩ v) E q x' mv kv := by
  obtain ⟨l1, l2, l3, l4, l5, l6, l7⟩ := h.lt
  have ox : Only [X] w (w.setCell ⟨X, i, none⟩ v) := (Only.refl _ _).setCell (.inl (by simp)) _
  have km := h.keepm ox (fun y hy => by simp at hy; omega)
  refine ⟨h.sc.only ox (by simp; omega), h.rd.only ox (by simp; omega), hs ▸ h.bx.set i v, by rw [h1]; exact km.1, by rw [h2]; exact km.2, by rw [h1]; exact h.fm, by rw [h2]; exact h.fk, h.only.trans (ox.mono (by intro y _ hy; simp at hy ⊢; omega)), l1, l2, l3, l4, l5, l6, Nat.le_trans l7 ox.size⟩
theorem RH.setm (h : RH wS D c X B s w E q x mv kv) {l : List (Int × Int × Int)} (hl : HoldsM w v l) (hf : ∀ ad n d, v = .slice (some ad) n d → l ≠ [] → B ≤ ad.block) : RH wS D c X B s (w.setCell ⟨X, 10, none⟩ v) E q { x with mods := l } v kv := by
  obtain ⟨l1, l2, l3, l4, l5, l6, l7⟩ := h.lt
  have ox : Only [X] w (w.setCell ⟨X, 10, none⟩ v) := (Only.refl _ _).setCell (.inl (by simp)) _
  have km := h.keepm ox (fun y hy => by simp at hy; omega)
  exact ⟨h.sc.only ox (by simp; omega), h.rd.only ox (by simp; omega), h.bx.set 10 v, hl.only2 ox (fun ad n d e hl hm => by have := hf ad n d e hl; simp at hm; omega), km.2, hf, h.fk, h.only.trans (ox.mono (by intro y _ hy; simp at hy ⊢; omega)), l1, l2, l3, l4, l5, l6, Nat.le_trans l7 ox.size⟩
theorem RH.setk (h : RH wS D c X B s w E q x mv kv) {l : List (Int × Int × Int)} (hl : HoldsM w v l) (hf : ∀ ad n d, v = .slice (some ad) n d → l ≠ [] → B ≤ ad.block) : RH wS D c X B s (w.setCell ⟨X, 14, none⟩ v) E q { x with marks := l } mv v := by
  obtain ⟨l1, l2, l3, l4, l5, l6, l7⟩ := h.lt
  have ox : Only [X] w (w.setCell ⟨X, 14, none⟩ v) := (Only.refl _ _).setCell (.inl (by simp)) _
  have km := h.keepm ox (fun y hy => by simp at hy; omega)
  exact ⟨h.sc.only ox (by simp; omega), h.rd.only ox (by simp; omega), h.bx.set 14 v, km.1, hl.only2 ox (fun ad n d e hl hm => by have := hf ad n d e hl; simp at hm; omega), h.fm, hf, h.only.trans (ox.mono (by intro y _ hy; simp at hy ⊢; omega)), l1, l2, l3, l4, l5, l6, Nat.le_trans l7 ox.size⟩
theorem RH.up {w1 : World} (h : RH wS D c X B s w E q x mv kv) (o : Only [] w w1) : RH w1 D c X B s w1 E q x mv kv := by
  obtain ⟨l1, l2, l3, l4, l5, l6, l7⟩ := h.lt
  have km := h.keepm o (fun y hy => by cases hy)
  exact ⟨h.sc.only o (by simp), h.rd.only o (by simp), h.bx.only o (by simp), km.1, km.2, h.fm, h.fk, Only.refl _ _, l1, l2, l3, l4, l5, l6, Nat.le_trans l7 o.size⟩
end
/-- Behind the field j. -/
def RG (wS : World) (D c X B : Nat) (s : ByteArray) (un : UN) (e0 : Int) (x0 : HV) (q0 : Nat) (i0 : Bool) (j : Nat) (w : World) : Prop :=
  ∃ E q x mv kv, RH wS D c X B s w E q x mv kv ∧ RfOk s un e0 x0 q0 j E x q ∧ x.intra = i0
end Go.Proofs.YtjjjfmnhdnajkaaGreatDoor

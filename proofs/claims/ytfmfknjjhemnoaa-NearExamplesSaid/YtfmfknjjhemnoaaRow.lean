/- Slices of structs of any kind (n cells each): rows that a call owns, slices that are only read, append. Plain but for the model's words: nothing of one program. -/
import Derived.Test.YtfmfknjjhemnoaaObj
import Derived.Maps.AppendAt
import Derived.Laws.IdiomCopy
namespace Go.Proofs.Ytfmfknjjhemnoaa
open Go.RowKit
set_option linter.unusedVariables false

section
variable {α : Type} {C : α → List Value} {n : Nat}
/-- The cells of an element: n of them, each of one cell. -/
structure CellsN (C : α → List Value) (n : Nat) : Prop where
  len : ∀ x, (C x).length = n
  one : ∀ x u, u ∈ C x → u.oneCell' = true
  pos : 0 < n
def cellsG (C : α → List Value) : List α → List Value
  | [] => []
  | x :: l => C x ++ cellsG C l
theorem cellsG_length (K : CellsN C n) (l : List α) : (cellsG C l).length = l.length * n := by
  induction l with
  | nil => simp [cellsG]
  | cons x l ih => rw [cellsG, List.length_append, ih, K.len, List.length_cons, Nat.add_mul, Nat.one_mul, Nat.add_comm]
theorem cellsG_append (a b : List α) : cellsG C (a ++ b) = cellsG C a ++ cellsG C b := by
  induction a with
  | nil => rfl
  | cons x a ih => rw [List.cons_append, cellsG, cellsG, ih, List.append_assoc]
theorem cellsG_at (K : CellsN C n) (l : List α) : ∀ (j : Nat) (x : α), l[j]? = some x → ∀ (k : Nat) (v : Value), (C x)[k]? = some v → (cellsG C l)[j * n + k]? = some v := by
  induction l with
  | nil => intro j x h; simp at h
  | cons y l ih =>
    intro j x h k v hk
    cases j with
    | zero =>
      simp at h
      subst h
      have hk' : k < (C y).length := (List.getElem?_eq_some_iff.1 hk).1
      rw [cellsG, Nat.zero_mul, Nat.zero_add, List.getElem?_append_left hk']
      exact hk
    | succ j =>
      simp at h
      rw [cellsG, List.getElem?_append_right (by rw [K.len, Nat.add_mul]; omega), K.len, show (j + 1) * n + k - n = j * n + k by rw [Nat.add_mul]; omega]
      exact ih j x h k v hk
theorem cellsG_of (K : CellsN C n) {l : List α} {m : Nat} {v : Value} (h : (cellsG C l)[m]? = some v) : ∃ j k x, l[j]? = some x ∧ (C x)[k]? = some v ∧ m = j * n + k := by
  have hm : m < l.length * n := by rw [← cellsG_length K]; exact (List.getElem?_eq_some_iff.1 h).1
  have hj : m / n < l.length := Nat.div_lt_of_lt_mul (by rw [Nat.mul_comm]; exact hm)
  have hk : m % n < (C l[m / n]).length := by rw [K.len]; exact Nat.mod_lt _ K.pos
  have e : m = m / n * n + m % n := by rw [Nat.mul_comm]; exact (Nat.div_add_mod m n).symm
  have h2 := cellsG_at K l (m / n) _ (List.getElem?_eq_getElem hj) (m % n) _ (List.getElem?_eq_getElem hk)
  rw [← e, h] at h2
  exact ⟨_, _, _, List.getElem?_eq_getElem hj, by rw [List.getElem?_eq_getElem hk, ← h2], e⟩
theorem cellsG_one (K : CellsN C n) (l : List α) : ∀ u, u ∈ cellsG C l → u.oneCell' = true := by
  induction l with
  | nil => intro u h; cases h
  | cons x l ih =>
    intro u h
    rw [cellsG, List.mem_append] at h
    exact h.elim (K.one x u) (ih u)
/-- The cells of an element, in memory. -/
def CellsAt (C : α → List Value) (w : World) (b o : Nat) (x : α) : Prop := ∀ k v, (C x)[k]? = some v → w.cell? ⟨b, o + k, none⟩ = some v
def ownG (v : Value) : List Nat := v.ownBlock.toList
/-- sv is a slice of the elements l, which nobody else holds. -/
def RowG (C : α → List Value) (n : Nat) (E : TypeId) (w : World) (sv : Value) (l : List α) : Prop := w.ownsRow 0 E n sv l.length (cellsG C l)
/-- sv, of the elements l, may be read at w. -/
def HoldsG (C : α → List Value) (n : Nat) (w : World) (sv : Value) (l : List α) : Prop := ∃ a c, sv = .slice a l.length c ∧ l.length ≤ c ∧ c ≤ maxLen ∧ (l = [] ∨ ∃ b o, a = some ⟨b, o, none⟩ ∧ ∀ (j : Nat) (x : α), l[j]? = some x → CellsAt C w b (o + j * n) x)
variable {E : TypeId} {w w' : World} {sv : Value} {l : List α}
theorem RowG.nil (w : World) : RowG C n E w (.slice none 0 0) [] := ⟨by simp [cellsG], .inl ⟨rfl, rfl⟩⟩
theorem RowG.lt (h : RowG C n E w sv l) : ∀ g, g ∈ ownG sv → g < w.heap.size := by
  intro g hg
  rcases h.2 with ⟨rfl, _⟩ | ⟨g', cap, cur, rfl, _, hh, _⟩
  · simp [ownG, Value.ownBlock] at hg
  · simp [ownG, Value.ownBlock] at hg
    subst hg
    exact (Array.getElem?_eq_some_iff.1 hh).1
theorem RowG.only {S : List Nat} (h : RowG C n E w sv l) (k : Only S w w') (hd : ∀ g, g ∈ ownG sv → g ∉ S) : RowG C n E w' sv l := by
  refine ⟨h.1, ?_⟩
  rcases h.2 with ⟨rfl, h0⟩ | ⟨g', cap, cur, rfl, hb, hh, r⟩
  · exact .inl ⟨rfl, h0⟩
  · exact .inr ⟨g', cap, cur, rfl, hb, by rw [k.block g' (Array.getElem?_eq_some_iff.1 hh).1 (hd g' (by simp [ownG, Value.ownBlock]))]; exact hh, r⟩
theorem RowG.holds (K : CellsN C n) (h : RowG C n E w sv l) : HoldsG C n w sv l := by
  rcases h.2 with ⟨rfl, h0⟩ | ⟨g, cap, cur, rfl, hb, hh, h1, h2, h3, h4⟩
  · exact ⟨none, 0, by rw [h0], by omega, by unfold maxLen; omega, .inl (List.length_eq_zero_iff.1 h0)⟩
  · refine ⟨_, _, rfl, h1, h2, .inr ⟨g, 0, rfl, fun j x hj k v hk => ?_⟩⟩
    have Cc := World.ownsRow.cells (g := g) h rfl _ _ (cellsG_at K l j x hj k v hk)
    have add : ∀ k : Nat, (⟨g, 0, none⟩ : Addr).add k = ⟨g, 0 + k, none⟩ := fun k => by cases k <;> simp [Addr.add]
    rw [add] at Cc
    rw [← Cc]
    simp
theorem RowG.frozen (h : RowG C n E w sv l) : ∀ g, g ∈ ownG sv → ∀ o, w.frozen? ⟨g, o, none⟩ = false := by
  intro g hg o
  rcases h.2 with ⟨rfl, _⟩ | ⟨g', cap, cur, rfl, _, hh, _⟩
  · simp [ownG, Value.ownBlock] at hg
  · simp [ownG, Value.ownBlock] at hg
    subst hg
    simp [World.frozen?, hh]
theorem HoldsG.only {S : List Nat} (h : HoldsG C n w sv l) (k : Only S w w') (hd : ∀ a m c, sv = .slice (some a) m c → a.block ∉ S) : HoldsG C n w' sv l := by
  obtain ⟨a, c, rfl, h1, h2, h3⟩ := h
  refine ⟨a, c, rfl, h1, h2, ?_⟩
  rcases h3 with h3 | ⟨b, o, rfl, hc⟩
  · exact .inl h3
  · exact .inr ⟨b, o, rfl, fun j x hj i v hv => k.cell (hc j x hj i v hv) (hd ⟨b, o, none⟩ _ _ rfl)⟩
theorem HoldsG.only0 (h : HoldsG C n w sv l) (k : Only [] w w') : HoldsG C n w' sv l := h.only k (fun _ _ _ _ => by simp)
theorem HoldsG.at {a : Option Addr} {m c : Nat} (h : HoldsG C n w (.slice a m c) l) {j : Nat} {x : α} (hx : l[j]? = some x) : ∃ b o, a = some ⟨b, o, none⟩ ∧ CellsAt C w b (o + j * n) x := by
  obtain ⟨a2, c2, e, _, _, h3⟩ := h
  cases e
  rcases h3 with h3 | ⟨b, o, rfl, hc⟩
  · subst h3; simp at hx
  · exact ⟨b, o, rfl, hc j x hx⟩
theorem HoldsG.part {a : Option Addr} {c : Nat} (h : HoldsG C n w (.slice a l.length c) l) (k : Nat) (hk : k ≤ l.length) : HoldsG C n w (.slice a k c) (l.take k) := by
  obtain ⟨a2, c2, e, h1, h2, h3⟩ := h
  cases e
  refine ⟨a, c, by rw [List.length_take, Nat.min_eq_left hk], by rw [List.length_take]; omega, h2, ?_⟩
  rcases h3 with h3 | ⟨b, o, rfl, hc⟩
  · exact .inl (by rw [h3]; simp)
  · refine .inr ⟨b, o, rfl, fun j x hj => hc j x ?_⟩
    obtain ⟨hlt, hv⟩ := List.getElem?_eq_some_iff.1 hj
    rw [List.length_take] at hlt
    rw [← hj, List.getElem?_take, if_pos (by omega)]
theorem grown_onlyG {sv : Value} (h : w.grownBy w' sv.ownBlock) : Only (ownG sv) w w' :=
  ⟨h.os, h.tape, h.output, h.size, fun k hk hs => h.block k hk (fun e => hs (by simp [ownG, ← e]))⟩
end

section
variable {α : Type} {C : α → List Value} {n : Nat} {P : Program} {T E : TypeId} {z : Value} {bytes : Nat} {w : World}
/-- What append wants of the types. -/
structure RowType (P : Program) (T E : TypeId) (z : Value) (n bytes : Nat) : Prop where
  und : P.underlying T = some (.slice E)
  info : (P.info? E).map (fun i => (i.zero, i.size, i.bytes)) = some (some z, n, bytes)
  zero : z.cells.size = n
  small : bytes ≤ 100000
theorem run_append_g (K : CellsN C n) (H : RowType P T E z n bytes) (sv : Value) (l : List α) (hr : RowG C n E w sv l) (ad : Addr) (c : Nat) (cs : List α)
    (hcs : ∀ j v, (cellsG C cs)[j]? = some v → w.cell? (ad.add j) = some v) (hbig : l.length + cs.length ≤ 1000000) :
    ∃ sv' w', (Builtin.append_ #[T, T] T #[sv, .slice (some ad) cs.length c]).run P w = .ok sv' w' ∧ RowG C n E w' sv' (l ++ cs) ∧ Only (ownG sv) w w' ∧ (∀ g, g ∈ ownG sv' → g ∈ ownG sv ∨ w.heap.size ≤ g) := by
  obtain ⟨i0, hi0, hz0, hs0, hb0⟩ := info_parts H.info
  have hb : (l.length + cs.length) * bytes ≤ 1000000 * 100000 := Nat.mul_le_mul hbig H.small
  obtain ⟨v', w', h1, h2, h3, _, h5⟩ := run_append_own_at (P := P) (w := w) 0 T T E i0 z n bytes H.und hi0 hz0 hs0 hb0 H.zero K.pos sv l.length (cellsG C l) hr ad cs.length c (cellsG C cs) (cellsG_length K cs) hcs (cellsG_one K cs) (by unfold maxLen; omega) (by omega) (by omega)
  refine ⟨v', w', h1, by unfold RowG; rw [List.length_append, cellsG_append]; exact h2, grown_onlyG h3, fun g hg => ?_⟩
  unfold ownG at hg ⊢
  rcases h5 with e | e
  · rw [e] at hg; exact .inl hg
  · rw [e] at hg
    simp at hg
    exact .inr (by omega)
/-- One element more, which lies in a block of its own. -/
theorem append_oneG (K : CellsN C n) (H : RowType P T E z n bytes) (out : Value) (l : List α) (x : α) (R : RowG C n E w out l) (hl : l.length + 1 ≤ 1000000) :
    ∃ sv2 w2, (Builtin.append_ #[T, T] T #[out, .slice (some ⟨w.heap.size, 0, none⟩) 1 1]).run P (w.alloc (.cells (C x).toArray E)) = .ok sv2 w2 ∧ RowG C n E w2 sv2 (l ++ [x]) ∧ Only (ownG out) w w2 ∧ ∀ g, g ∈ ownG sv2 → g ∈ ownG out ∨ w.heap.size ≤ g := by
  have ra : Only [] w (w.alloc (.cells (C x).toArray E)) := (Only.refl [] w).alloc _
  have add : ∀ k : Nat, (⟨w.heap.size, 0, none⟩ : Addr).add k = ⟨w.heap.size, 0 + k, none⟩ := fun k => by cases k <;> simp [Addr.add]
  obtain ⟨sv2, w2, hrun, hrow, honly, hown⟩ := run_append_g (w := w.alloc (.cells (C x).toArray E)) K H out l (R.only ra (by simp)) ⟨w.heap.size, 0, none⟩ 1 [x] (fun j u hj => by
    rw [add, World.cell?_alloc_new]
    simpa [cellsG] using hj) (by simpa using hl)
  refine ⟨sv2, w2, hrun, hrow, (ra.mono (fun _ _ h => by cases h)).trans honly, fun g hg => ?_⟩
  rcases hown g hg with e | e
  · exact .inl e
  · exact .inr (by simp at e; omega)
/-- A slice behind another. -/
theorem append_rowsG (K : CellsN C n) (H : RowType P T E z n bytes) (out b : Value) (us vs : List α) (hr : RowG C n E w out us) (hb : HoldsG C n w b vs) (hl : us.length + vs.length ≤ 1000000) :
    ∃ sv w', (Builtin.append_ #[T, T] T #[out, b]).run P w = .ok sv w' ∧ RowG C n E w' sv (us ++ vs) ∧ Only (ownG out) w w' ∧ ∀ g, g ∈ ownG sv → g ∈ ownG out ∨ w.heap.size ≤ g := by
  obtain ⟨a, d, rfl, _, _, HA⟩ := hb
  by_cases h0 : vs = []
  · subst h0
    refine ⟨out, w, ?_, by rw [List.append_nil]; exact hr, Only.refl _ _, fun g h => .inl h⟩
    obtain ⟨i0, hi0, hz0, hs0, hb0⟩ := info_parts H.info
    rcases hr.2 with ⟨rfl, h1⟩ | ⟨g, cap, cur, rfl, _, _, h1, _⟩
    · cases a with
      | none => simp [Builtin.append_, run_underlying H.und, sizeOf, typeInfo, hi0, Builtin.lenOf, Builtin.firstCells]
      | some a =>
        have hfc := run_firstCells_some (P := P) w i0.size 0 a 0 d [] (by simp) (by simp)
        simp [Builtin.append_, run_underlying H.und, sizeOf, typeInfo, hi0, Builtin.lenOf, hfc]
    · cases a with
      | none => simp [Builtin.append_, run_underlying H.und, sizeOf, typeInfo, hi0, Builtin.lenOf, Builtin.firstCells, storeCells, h1]
      | some x =>
        have h := run_append_room_cells (P := P) (w := w) T T E i0 H.und hi0 g 0 us.length cap x 0 d [] (by simp) (by simp) (by simp) h1 (by simp) (by simp)
        simpa [World.setCells] using h
  · obtain ⟨b, o, rfl, hc⟩ : ∃ b o, a = some ⟨b, o, none⟩ ∧ ∀ (j : Nat) (x : α), vs[j]? = some x → CellsAt C w b (o + j * n) x := by
      rcases HA with h | h
      · exact absurd h h0
      · exact h
    have add : ∀ k : Nat, (⟨b, o, none⟩ : Addr).add k = ⟨b, o + k, none⟩ := fun k => by cases k <;> simp [Addr.add]
    exact run_append_g K H out us hr ⟨b, o, none⟩ d vs (fun m v hm => by
      obtain ⟨j, k, x, hx, hk, rfl⟩ := cellsG_of K hm
      rw [add, ← Nat.add_assoc]
      exact hc j x hx k v hk) hl
end
end Go.Proofs.Ytfmfknjjhemnoaa

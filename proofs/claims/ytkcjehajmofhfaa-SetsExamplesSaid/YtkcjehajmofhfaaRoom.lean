/- Slices of structs of any kind that begin in the middle of a block, with room behind them: parts, append. -/
import Derived.Test.YtkcjehajmofhfaaRow
import Derived.ArgAppend
namespace Go.Proofs.Ytkcjehajmofhfaa
open Go.RowKit
set_option linter.unusedVariables false

section
variable {α : Type} {C : α → List Value} {n : Nat} {E : TypeId} {w w' : World} {sv : Value} {l : List α} {b : Nat}
/-- sv, of the elements l, lies in block b; all its cells, the room's too, may be written. -/
def RoomG (C : α → List Value) (n : Nat) (w : World) (b : Nat) (sv : Value) (l : List α) : Prop :=
  ∃ o c, sv = .slice (some ⟨b, o, none⟩) l.length c ∧ l.length ≤ c ∧ c ≤ maxLen ∧ (∀ (j : Nat) (x : α), l[j]? = some x → CellsAt C w b (o + j * n) x) ∧ (∀ j, j < c * n → (w.cell? ⟨b, o + j, none⟩).isSome = true) ∧ (∀ x, w.frozen? ⟨b, x, none⟩ = false) ∧ b < w.heap.size
theorem RowG.room (K : CellsN C n) (h : RowG C n E w sv l) (hl : l ≠ []) : ∃ b, b ∈ ownG sv ∧ RoomG C n w b sv l := by
  have hf := h.frozen
  have hlt := h.lt
  obtain ⟨a, c, e, h1, h2, h3⟩ := h.holds K
  rcases h.2 with ⟨rfl, h0⟩ | ⟨g, cap, cur, rfl, _, hh, hc1, hc2, hc3, hc4⟩
  · exact absurd (List.length_eq_zero_iff.1 h0) hl
  · have hg : g ∈ ownG (Value.slice (some ⟨g, 0, none⟩) l.length cap) := by simp [ownG, Value.ownBlock]
    refine ⟨g, hg, 0, cap, rfl, hc1, hc2, fun j x hj => ?_, fun j hj => ?_, hf g hg, hlt g hg⟩
    · cases e
      rcases h3 with h3 | ⟨b, o, e, hc⟩
      · exact absurd h3 hl
      · cases e; exact hc j x hj
    · simp [World.cell?, hh]
      omega
theorem RoomG.holds (h : RoomG C n w b sv l) : HoldsG C n w sv l := by
  obtain ⟨o, c, rfl, h1, h2, h3, _⟩ := h
  exact ⟨_, c, rfl, h1, h2, .inr ⟨b, o, rfl, h3⟩⟩
theorem RoomG.only {S : List Nat} (h : RoomG C n w b sv l) (k : Only S w w') (hb : b ∉ S) : RoomG C n w' b sv l := by
  obtain ⟨o, c, rfl, h1, h2, h3, h4, h5, h6⟩ := h
  have hk : ∀ x, w'.cell? ⟨b, x, none⟩ = w.cell? ⟨b, x, none⟩ := fun x => World.cell?_of_block (w := w) (k.block b h6 hb)
  exact ⟨o, c, rfl, h1, h2, fun j x hj i v hv => (hk _).trans (h3 j x hj i v hv), fun j hj => by rw [hk]; exact h4 j hj, fun x => (k.frozen (p := ⟨b, x, none⟩) h6 hb).trans (h5 x), Nat.lt_of_lt_of_le h6 k.size⟩
theorem RoomG.drop {o c : Nat} (h : RoomG C n w b (.slice (some ⟨b, o, none⟩) l.length c) l) (k : Nat) (hk : k ≤ l.length) : RoomG C n w b (.slice (some ⟨b, o + k * n, none⟩) (l.length - k) (c - k)) (l.drop k) := by
  obtain ⟨o', c', e, h1, h2, h3, h4, h5, h6⟩ := h
  cases e
  refine ⟨_, _, by rw [List.length_drop], by rw [List.length_drop]; omega, by omega, fun j x hj => ?_, fun j hj => ?_, h5, h6⟩
  · rw [List.getElem?_drop] at hj
    have := h3 (k + j) x hj
    rw [Nat.add_mul, ← Nat.add_assoc] at this
    exact this
  · rw [Nat.add_assoc]
    refine h4 _ ?_
    have : (c - k) * n + k * n = c * n := by rw [← Nat.add_mul]; congr 1; omega
    omega
theorem RoomG.append {P : Program} {T : TypeId} {z : Value} {bytes : Nat} (K : CellsN C n) (H : RowType P T E z n bytes) {b' : Value} {cs : List α} (h : RoomG C n w b sv l) (hs : HoldsG C n w b' cs) (hne : cs ≠ []) (hbig : l.length + cs.length ≤ 1000000) :
    ∃ sv' w' g, (Builtin.append_ #[T, T] T #[sv, b']).run P w = .ok sv' w' ∧ RoomG C n w' g sv' (l ++ cs) ∧ Only [b] w w' ∧ (g = b ∨ w.heap.size ≤ g) := by
  obtain ⟨i0, hi0, hz0, hs0, hb0⟩ := info_parts H.info
  obtain ⟨o, c, rfl, h1, h2, h3, h4, h5, h6⟩ := h
  obtain ⟨a, d, rfl, _, _, HA⟩ := hs
  obtain ⟨sb, so, rfl, hc⟩ : ∃ b o, a = some ⟨b, o, none⟩ ∧ ∀ (j : Nat) (x : α), cs[j]? = some x → CellsAt C w b (o + j * n) x := by
    rcases HA with h | h
    · exact absurd h hne
    · exact h
  have add : ∀ k : Nat, (⟨sb, so, none⟩ : Addr).add k = ⟨sb, so + k, none⟩ := fun k => by cases k <;> simp [Addr.add]
  have add2 : ∀ k : Nat, (⟨b, o, none⟩ : Addr).add k = ⟨b, o + k, none⟩ := fun k => by cases k <;> simp [Addr.add]
  have hnews : ∀ j v, (cellsG C cs)[j]? = some v → w.cell? ((⟨sb, so, none⟩ : Addr).add j) = some v := fun m v hm => by
    obtain ⟨j, k, x, hx, hk, rfl⟩ := cellsG_of K hm
    rw [add, ← Nat.add_assoc]
    exact hc j x hx k v hk
  by_cases hroom : l.length + cs.length ≤ c
  · have hlen := cellsG_length K cs
    have hin : (l.length + cs.length) * n ≤ c * n := Nat.mul_le_mul_right _ hroom
    rw [Nat.add_mul] at hin
    have hcell : ∀ j, j < (cellsG C cs).length → (w.cell? ⟨b, o + l.length * n + j, none⟩).isSome = true := fun j hj => by
      rw [Nat.add_assoc]; exact h4 _ (by omega)
    have hr := run_append_room_cells (P := P) w T T E i0 H.und hi0 b o l.length c ⟨sb, so, none⟩ cs.length d (cellsG C cs) (by rw [hs0]; exact hlen) hnews (cellsG_one K cs) hroom (by rw [hs0]; exact hcell) (by rw [hs0]; exact fun j _ => h5 _)
    rw [hs0] at hr
    have hout : ∀ x, (x < o + l.length * n ∨ o + l.length * n + (cellsG C cs).length ≤ x) → (w.setCells b (o + l.length * n) (cellsG C cs)).cell? ⟨b, x, none⟩ = w.cell? ⟨b, x, none⟩ := fun x hx => World.cell?_setCells_out b _ _ _ _ (fun _ _ => hx)
    have honly : Only [b] w (w.setCells b (o + l.length * n) (cellsG C cs)) := by
      have h2 : ∀ (vs : List Value) (o : Nat) (w1 : World), Only [b] w w1 → Only [b] w (w1.setCells b o vs) := by
        intro vs
        induction vs with
        | nil => intro o w1 h; exact h
        | cons u vs ih => intro o w1 h; exact ih _ _ (h.setCell (.inl (by simp)) _)
      exact h2 _ _ _ (Only.refl _ _)
    refine ⟨_, _, b, hr, ⟨o, c, by rw [List.length_append], by rw [List.length_append]; exact hroom, h2, fun j x hj k v hv => ?_, fun j hj => ?_, fun x => by rw [World.frozen?_setCells]; exact h5 x, Nat.lt_of_lt_of_le h6 honly.size⟩, honly, .inl rfl⟩
    · have hk : k < n := by have := (List.getElem?_eq_some_iff.1 hv).1; rwa [K.len] at this
      by_cases hjl : j < l.length
      · rw [List.getElem?_append_left hjl] at hj
        have hm : (j + 1) * n ≤ l.length * n := Nat.mul_le_mul_right _ hjl
        rw [Nat.add_mul] at hm
        rw [hout _ (.inl (by omega))]
        exact h3 j x hj k v hv
      · rw [List.getElem?_append_right (by omega)] at hj
        have hat := cellsG_at K cs (j - l.length) x hj k v hv
        have hlt := (List.getElem?_eq_some_iff.1 hat).1
        have hin2 := World.cell?_setCells_in b (cellsG C cs) (o + l.length * n) w hcell _ hlt
        rw [(List.getElem?_eq_some_iff.1 hat).2] at hin2
        have e : o + l.length * n + ((j - l.length) * n + k) = o + j * n + k := by
          have : (j - l.length) * n + l.length * n = j * n := by rw [← Nat.add_mul]; congr 1; omega
          omega
        rw [e] at hin2
        exact hin2
    · by_cases hr2 : j < l.length * n ∨ l.length * n + (cellsG C cs).length ≤ j
      · rw [hout _ (by omega)]
        exact h4 j hj
      · have hlt : j - l.length * n < (cellsG C cs).length := by omega
        have hin2 := World.cell?_setCells_in b (cellsG C cs) (o + l.length * n) w hcell _ hlt
        rw [show o + l.length * n + (j - l.length * n) = o + j by omega] at hin2
        rw [hin2]
        rfl
  · have hb : (l.length + cs.length) * bytes ≤ 1000000 * 100000 := Nat.mul_le_mul hbig H.small
    obtain ⟨v', w', hr, hrow, hgrow⟩ := run_append_arg_grows (P := P) w T T E i0 z n bytes H.und hi0 hz0 hs0 hb0 H.zero K.pos ⟨b, o, none⟩ l.length c (cellsG C l) (cellsG_length K l) (fun m v hm => by
      obtain ⟨j, k, x, hx, hk, rfl⟩ := cellsG_of K hm
      rw [add2, ← Nat.add_assoc]
      exact h3 j x hx k v hk) ⟨sb, so, none⟩ cs.length d (cellsG C cs) (cellsG_length K cs) hnews (by omega) (by unfold maxLen; omega) (by omega)
    have hR : RowG C n E w' v' (l ++ cs) := by
      unfold RowG
      rw [List.length_append, cellsG_append]
      refine ⟨hrow.1, ?_⟩
      rcases hrow.2 with h | ⟨g, cap, cur, e, _, r⟩
      · exact .inl h
      · exact .inr ⟨g, cap, cur, e, Nat.zero_le _, r⟩
    have hge : ∀ g, g ∈ ownG v' → w.heap.size ≤ g := by
      intro g hg
      rcases hrow.2 with ⟨rfl, _⟩ | ⟨g', cap, cur, rfl, hb', _⟩
      · simp [ownG, Value.ownBlock] at hg
      · simp [ownG, Value.ownBlock] at hg; omega
    obtain ⟨g, hg, hroom2⟩ := hR.room K (by simp [hne])
    exact ⟨v', w', g, hr, hroom2, ⟨hgrow.os, hgrow.tape, hgrow.output, hgrow.size, fun k hk _ => hgrow.block k hk (by simp)⟩, .inr (hge g hg)⟩
end
end Go.Proofs.Ytkcjehajmofhfaa

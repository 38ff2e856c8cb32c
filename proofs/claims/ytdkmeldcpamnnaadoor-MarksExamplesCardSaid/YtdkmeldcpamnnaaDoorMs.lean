/- Slices of commands (structs of three cells): those that a call collects, those that are only read. -/
import Derived.Test.YtdkmeldcpamnnaaDoorMdL
import Derived.Test.YtdkmeldcpamnnaaDoorApp
import Derived.Maps.AppendAt
namespace Go.Proofs.YtdkmeldcpamnnaaDoor
open Go.RowKit
set_option linter.unusedVariables false

theorem info_mod : (Tryd.prog.info? 50).map (fun i => (i.zero, i.size, i.bytes)) = some (some (.agg #[.int .u8 0, .int .i64 0, .int .i64 0]), 3, 24) := by kernel_rfl
theorem und_mods : Tryd.prog.underlying 22 = some (.slice 50) := by kernel_rfl
/-- The cells of a command, of a list. -/
def cellsOfM (x : Int × Int × Int) : List Value := [.int .u8 x.1, .int .i64 x.2.1, .int .i64 x.2.2]
def cellsM : List (Int × Int × Int) → List Value
  | [] => []
  | x :: l => cellsOfM x ++ cellsM l
theorem cellsM_length (l : List (Int × Int × Int)) : (cellsM l).length = l.length * 3 := by
  induction l with
  | nil => rfl
  | cons x l ih => rw [cellsM, List.length_append, ih]; simp [cellsOfM]; omega
theorem cellsM_append (a b : List (Int × Int × Int)) : cellsM (a ++ b) = cellsM a ++ cellsM b := by
  induction a with
  | nil => rfl
  | cons x a ih => rw [List.cons_append, cellsM, cellsM, ih, List.append_assoc]
theorem cellsM_at (l : List (Int × Int × Int)) : ∀ (j : Nat) (x : Int × Int × Int), l[j]? = some x → (cellsM l)[j * 3]? = some (.int .u8 x.1) ∧ (cellsM l)[j * 3 + 1]? = some (.int .i64 x.2.1) ∧ (cellsM l)[j * 3 + 2]? = some (.int .i64 x.2.2) := by
  induction l with
  | nil => intro j x h; simp at h
  | cons y l ih =>
    intro j x h
    cases j with
    | zero =>
      simp at h
      subst h
      simp [cellsM, cellsOfM]
    | succ j =>
      simp at h
      obtain ⟨a, b, c⟩ := ih j x h
      rw [cellsM]
      have e : (cellsOfM y).length = 3 := rfl
      refine ⟨?_, ?_, ?_⟩
      · rw [List.getElem?_append_right (by rw [e]; omega), e, show (j + 1) * 3 - 3 = j * 3 by omega]; exact a
      · rw [List.getElem?_append_right (by rw [e]; omega), e, show (j + 1) * 3 + 1 - 3 = j * 3 + 1 by omega]; exact b
      · rw [List.getElem?_append_right (by rw [e]; omega), e, show (j + 1) * 3 + 2 - 3 = j * 3 + 2 by omega]; exact c
theorem cellsM_one (l : List (Int × Int × Int)) : ∀ u, u ∈ cellsM l → u.oneCell' = true := by
  induction l with
  | nil => intro u h; cases h
  | cons x l ih =>
    intro u h
    rw [cellsM, List.mem_append] at h
    rcases h with h | h
    · simp [cellsOfM] at h; rcases h with h | h | h <;> (subst h; rfl)
    · exact ih u h
/-- The three cells of a command. -/
structure MAt (w : World) (b o : Nat) (x : Int × Int × Int) : Prop where
  c0 : w.cell? ⟨b, o, none⟩ = some (.int .u8 x.1)
  c1 : w.cell? ⟨b, o + 1, none⟩ = some (.int .i64 x.2.1)
  c2 : w.cell? ⟨b, o + 2, none⟩ = some (.int .i64 x.2.2)
theorem MAt.only {S : List Nat} {w w' : World} {b o : Nat} {x : Int × Int × Int} (h : MAt w b o x) (k : Only S w w') (hb : b ∉ S) : MAt w' b o x := ⟨k.cell h.c0 hb, k.cell h.c1 hb, k.cell h.c2 hb⟩
/-- sv is a slice of the commands l, which nobody else holds. -/
def RowM (w : World) (sv : Value) (l : List (Int × Int × Int)) : Prop := w.ownsRow 0 50 3 sv l.length (cellsM l)
theorem RowM.nil (w : World) : RowM w (.slice none 0 0) [] := ⟨rfl, .inl ⟨rfl, rfl⟩⟩
theorem RowM.lt {w : World} {sv : Value} {l : List (Int × Int × Int)} (h : RowM w sv l) : ∀ g, g ∈ ownOf sv → g < w.heap.size := by
  intro g hg
  rcases h.2 with ⟨rfl, _⟩ | ⟨g', cap, cur, rfl, _, hh, _⟩
  · simp [ownOf, Value.ownBlock] at hg
  · simp [ownOf, Value.ownBlock] at hg
    subst hg
    exact (Array.getElem?_eq_some_iff.1 hh).1
theorem RowM.only {S : List Nat} {w w' : World} {sv : Value} {l : List (Int × Int × Int)} (h : RowM w sv l) (k : Only S w w') (hd : ∀ g, g ∈ ownOf sv → g ∉ S) : RowM w' sv l := by
  refine ⟨h.1, ?_⟩
  rcases h.2 with ⟨rfl, h0⟩ | ⟨g', cap, cur, rfl, hb, hh, r⟩
  · exact .inl ⟨rfl, h0⟩
  · exact .inr ⟨g', cap, cur, rfl, hb, by rw [k.block g' (Array.getElem?_eq_some_iff.1 hh).1 (hd g' (by simp [ownOf, Value.ownBlock]))]; exact hh, r⟩
/-- sv, of the commands l, may be read at w: whoever holds it. -/
def HoldsM (w : World) (sv : Value) (l : List (Int × Int × Int)) : Prop := ∃ a c, sv = .slice a l.length c ∧ l.length ≤ c ∧ c ≤ maxLen ∧ (l = [] ∨ ∃ b o, a = some ⟨b, o, none⟩ ∧ ∀ (j : Nat) (x : Int × Int × Int), l[j]? = some x → MAt w b (o + j * 3) x)
theorem RowM.holds {w : World} {sv : Value} {l : List (Int × Int × Int)} (h : RowM w sv l) : HoldsM w sv l := by
  rcases h.2 with ⟨rfl, h0⟩ | ⟨g, cap, cur, rfl, hb, hh, h1, h2, h3, h4⟩
  · exact ⟨none, 0, by rw [h0], by omega, by unfold maxLen; omega, .inl (List.length_eq_zero_iff.1 h0)⟩
  · refine ⟨_, _, rfl, h1, h2, .inr ⟨g, 0, rfl, fun j x hj => ?_⟩⟩
    have C := fun k u => World.ownsRow.cells (g := g) h rfl k u
    have add : ∀ k : Nat, (⟨g, 0, none⟩ : Addr).add k = ⟨g, 0 + k, none⟩ := fun k => by cases k <;> simp [Addr.add]
    obtain ⟨a, b, c⟩ := cellsM_at l j x hj
    exact ⟨by have := C _ _ a; rw [add] at this; exact this, by have := C _ _ b; rw [add, ← Nat.add_assoc] at this; exact this, by have := C _ _ c; rw [add, ← Nat.add_assoc] at this; exact this⟩
theorem HoldsM.only {S : List Nat} {w w' : World} {sv : Value} {l : List (Int × Int × Int)} (h : HoldsM w sv l) (k : Only S w w') (hd : ∀ a n c, sv = .slice (some a) n c → a.block ∉ S) : HoldsM w' sv l := by
  obtain ⟨a, c, rfl, h1, h2, h3⟩ := h
  refine ⟨a, c, rfl, h1, h2, ?_⟩
  rcases h3 with h3 | ⟨b, o, rfl, hc⟩
  · exact .inl h3
  · exact .inr ⟨b, o, rfl, fun j x hj => (hc j x hj).only k (hd _ _ _ rfl)⟩
theorem HoldsM.only0 {w w' : World} {sv : Value} {l : List (Int × Int × Int)} (h : HoldsM w sv l) (k : Only [] w w') : HoldsM w' sv l := h.only k (fun _ _ _ _ => by simp)
theorem holdsM_none (w : World) : HoldsM w (.slice none 0 0) [] := ⟨none, 0, rfl, by simp, by unfold maxLen; omega, .inl rfl⟩
theorem holdsM_part1 {w : World} {a : Option Addr} {c : Nat} {l : List (Int × Int × Int)} (h : HoldsM w (.slice a l.length c) l) (k : Nat) (hk : k ≤ l.length) : HoldsM w (.slice a k c) (l.take k) := by
  obtain ⟨a2, c2, e, h1, h2, h3⟩ := h
  cases e
  refine ⟨a, c, by rw [List.length_take, Nat.min_eq_left hk], by rw [List.length_take]; omega, h2, ?_⟩
  rcases h3 with h3 | ⟨b, o, rfl, hc⟩
  · exact .inl (by rw [h3]; simp)
  · refine .inr ⟨b, o, rfl, fun j x hj => hc j x ?_⟩
    obtain ⟨hlt, hv⟩ := List.getElem?_eq_some_iff.1 hj
    rw [List.length_take] at hlt
    rw [← hj, List.getElem?_take, if_pos (by omega)]
/-- Commands that are written out. -/
theorem holdsM_lit (w : World) (l : List (Int × Int × Int)) (hl : l.length ≤ maxLen) : HoldsM (w.alloc (.cells (cellsM l).toArray 50)) (.slice (some ⟨w.heap.size, 0, none⟩) l.length l.length) l := by
  refine ⟨_, _, rfl, Nat.le_refl _, hl, .inr ⟨_, 0, rfl, fun j x hj => ?_⟩⟩
  obtain ⟨a, b, c⟩ := cellsM_at l j x hj
  refine ⟨?_, ?_, ?_⟩
  · rw [World.cell?_alloc_new]; simpa using a
  · rw [World.cell?_alloc_new]; simpa using b
  · rw [World.cell?_alloc_new]; simpa using c

theorem run_append_mods (w : World) (ty : TypeId) (sv : Value) (l : List (Int × Int × Int)) (hr : RowM w sv l) (ad : Addr) (c : Nat) (cs : List (Int × Int × Int))
    (hcs : ∀ j v, (cellsM cs)[j]? = some v → w.cell? (ad.add j) = some v) (hbig : l.length + cs.length ≤ 1000000000) :
    ∃ sv' w', (Builtin.append_ #[22, 22] ty #[sv, .slice (some ad) cs.length c]).run Tryd.prog w = .ok sv' w' ∧ RowM w' sv' (l ++ cs) ∧ Only (ownOf sv) w w' ∧ (∀ g, g ∈ ownOf sv' → g ∈ ownOf sv ∨ w.heap.size ≤ g) := by
  obtain ⟨i0, hi0, hz0, hs0, hb0⟩ := info_parts info_mod
  obtain ⟨v', w', h1, h2, h3, _, h5⟩ := run_append_own_at (P := Tryd.prog) (w := w) 0 22 ty 50 i0 (.agg #[.int .u8 0, .int .i64 0, .int .i64 0]) 3 24 und_mods hi0 hz0 hs0 hb0 rfl (by omega) sv l.length (cellsM l) hr ad cs.length c (cellsM cs) (cellsM_length cs) hcs (cellsM_one cs) (by unfold maxLen; omega) (by omega) (by omega)
  refine ⟨v', w', h1, by unfold RowM; rw [List.length_append, cellsM_append]; exact h2, grown_only h3, fun g hg => ?_⟩
  unfold ownOf at hg ⊢
  rcases h5 with e | e
  · rw [e] at hg; exact .inl hg
  · rw [e] at hg
    simp at hg
    exact .inr (by omega)
/-- One command more. -/
theorem append_mod (wr : World) (out : Value) (l : List (Int × Int × Int)) (x : Int × Int × Int) (R : RowM wr out l) (hl : l.length + 1 ≤ 1000000000) :
    ∃ sv2 w2, (Builtin.append_ #[22, 22] 22 #[out, .slice (some ⟨wr.heap.size, 0, none⟩) 1 1]).run Tryd.prog (wr.alloc (.cells #[.int .u8 x.1, .int .i64 x.2.1, .int .i64 x.2.2] 50)) = .ok sv2 w2 ∧ RowM w2 sv2 (l ++ [x]) ∧ Only (ownOf out) wr w2 ∧
      ∀ g, g ∈ ownOf sv2 → g ∈ ownOf out ∨ wr.heap.size ≤ g := by
  have ra : Only [] wr (wr.alloc (.cells #[.int .u8 x.1, .int .i64 x.2.1, .int .i64 x.2.2] 50)) := (Only.refl [] wr).alloc _
  have add : ∀ k : Nat, (⟨wr.heap.size, 0, none⟩ : Addr).add k = ⟨wr.heap.size, 0 + k, none⟩ := fun k => by cases k <;> simp [Addr.add]
  obtain ⟨sv2, w2, hrun, hrow, honly, hown⟩ := run_append_mods (wr.alloc (.cells #[.int .u8 x.1, .int .i64 x.2.1, .int .i64 x.2.2] 50)) 22 _ _ (R.only ra (by simp)) ⟨wr.heap.size, 0, none⟩ 1 [x] (fun j u hj => by
    rw [add, World.cell?_alloc_new]
    have e : (#[Value.int .u8 x.1, .int .i64 x.2.1, .int .i64 x.2.2] : Array Value) = (cellsM [x]).toArray := rfl
    rw [e]
    simpa using hj) (by simpa using hl)
  refine ⟨sv2, w2, hrun, hrow, (ra.mono (fun _ _ h => by cases h)).trans honly, fun g hg => ?_⟩
  rcases hown g hg with e | e
  · exact .inl e
  · exact .inr (by simp at e; omega)
theorem append_nothingM (w : World) (a : Option Addr) (c : Nat) :
    (Builtin.append_ #[22, 22] 22 #[.slice none 0 0, .slice a 0 c]).run Tryd.prog w = .ok (.slice none 0 0) w := by
  obtain ⟨i0, hi0, hz0, hs0, hb0⟩ := info_parts info_mod
  cases a with
  | none => simp [Builtin.append_, run_underlying und_mods, sizeOf, typeInfo, hi0, Builtin.lenOf, Builtin.firstCells]
  | some a =>
    have hfc := run_firstCells_some (P := Tryd.prog) w i0.size 0 a 0 c [] (by simp) (by simp)
    simp [Builtin.append_, run_underlying und_mods, sizeOf, typeInfo, hi0, Builtin.lenOf, hfc]
theorem append_zeroM (w : World) (g n c : Nat) (hn : n ≤ c) (x : Option Addr) (d : Nat) :
    (Builtin.append_ #[22, 22] 22 #[.slice (some ⟨g, 0, none⟩) n c, .slice x 0 d]).run Tryd.prog w = .ok (.slice (some ⟨g, 0, none⟩) n c) w := by
  obtain ⟨i0, hi0, hz0, hs0, hb0⟩ := info_parts info_mod
  cases x with
  | none => simp [Builtin.append_, run_underlying und_mods, sizeOf, typeInfo, hi0, Builtin.lenOf, Builtin.firstCells, storeCells, hn]
  | some x =>
    have h := run_append_room_cells (P := Tryd.prog) (w := w) 22 22 50 i0 und_mods hi0 g 0 n c x 0 d [] (by simp) (by simp) (by simp) hn (by simp) (by simp)
    simpa [World.setCells] using h
/-- A slice behind another. -/
theorem append_rowsM (w : World) (out b : Value) (us vs : List (Int × Int × Int)) (hr : RowM w out us) (hb : HoldsM w b vs) (hl : us.length + vs.length ≤ 1000000000) :
    ∃ sv w', (Builtin.append_ #[22, 22] 22 #[out, b]).run Tryd.prog w = .ok sv w' ∧ RowM w' sv (us ++ vs) ∧ Only (ownOf out) w w' ∧ ∀ g, g ∈ ownOf sv → g ∈ ownOf out ∨ w.heap.size ≤ g := by
  obtain ⟨a, d, rfl, _, _, HA⟩ := hb
  by_cases h0 : vs = []
  · subst h0
    refine ⟨out, w, ?_, by rw [List.append_nil]; exact hr, Only.refl _ _, fun g h => .inl h⟩
    rcases hr.2 with ⟨rfl, h1⟩ | ⟨g, cap, cur, rfl, _, _, h1, _⟩
    · exact append_nothingM w a d
    · exact append_zeroM w g us.length cap h1 a d
  · obtain ⟨b, o, rfl, hc⟩ : ∃ b o, a = some ⟨b, o, none⟩ ∧ ∀ (j : Nat) (x : Int × Int × Int), vs[j]? = some x → MAt w b (o + j * 3) x := by
      rcases HA with h | h
      · exact absurd h h0
      · exact h
    have add : ∀ k : Nat, (⟨b, o, none⟩ : Addr).add k = ⟨b, o + k, none⟩ := fun k => by cases k <;> simp [Addr.add]
    exact run_append_mods w 22 out us hr ⟨b, o, none⟩ d vs (fun j v hj => by
      have hjl : j < vs.length * 3 := by have := (List.getElem?_eq_some_iff.1 hj).1; rwa [cellsM_length] at this
      obtain ⟨i, hi⟩ : ∃ i, i = j / 3 := ⟨_, rfl⟩
      obtain ⟨x, hx⟩ : ∃ x, vs[i]? = some x := ⟨vs[i]'(by omega), List.getElem?_eq_getElem _⟩
      obtain ⟨a0, a1, a2⟩ := cellsM_at vs i _ hx
      have M := hc i _ hx
      rw [add]
      obtain rfl | rfl | rfl : j = i * 3 ∨ j = i * 3 + 1 ∨ j = i * 3 + 2 := by omega
      · rw [a0] at hj; cases hj; exact M.c0
      · rw [a1] at hj; cases hj; rw [← Nat.add_assoc]; exact M.c1
      · rw [a2] at hj; cases hj; rw [← Nat.add_assoc]; exact M.c2) hl
/-- What a call hands back lies in new memory. -/
def FreshM (w : World) (sv : Value) (l : List (Int × Int × Int)) : Prop := ∀ ad n c, sv = .slice (some ad) n c → l ≠ [] → w.heap.size ≤ ad.block
theorem freshM_own {w : World} {sv : Value} {l : List (Int × Int × Int)} (h : ∀ g, g ∈ ownOf sv → w.heap.size ≤ g) : FreshM w sv l := by
  rintro ad n c rfl _
  exact h _ (by simp [ownOf, Value.ownBlock])
theorem freshM_nil (w : World) : FreshM w (.slice none 0 0) [] := fun ad n c e => by cases e
theorem HoldsM.fresh {S : List Nat} {w w1 w2 : World} {sv : Value} {l : List (Int × Int × Int)} (h : HoldsM w1 sv l) (f : FreshM w sv l) (k : Only S w1 w2) (hS : ∀ x, x ∈ S → x < w.heap.size) : HoldsM w2 sv l := by
  by_cases e : l = []
  · obtain ⟨a2, c2, rfl, h1, h2, h3⟩ := h
    exact ⟨a2, c2, rfl, h1, h2, .inl e⟩
  · exact h.only k (fun ad n c he hx => by have := f ad n c he e; have := hS _ hx; omega)
end Go.Proofs.YtdkmeldcpamnnaaDoor

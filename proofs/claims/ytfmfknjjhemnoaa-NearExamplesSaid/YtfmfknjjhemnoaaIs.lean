/- Slices of numbers: those that a call collects, those that are only read. -/
import Derived.Test.YtfmfknjjhemnoaaRows
import Derived.Test.YtfmfknjjhemnoaaObj
import Derived.Maps.AppendAt
import Derived.Laws.MakeOwn
import Derived.Deep.OwnRows
import Derived.OwnWalk
namespace Go.Proofs.Ytfmfknjjhemnoaa
open Go.RowKit
set_option linter.unusedVariables false

theorem info_int : (Try.prog.info? 3).map (fun i => (i.zero, i.size, i.bytes)) = some (some (.int .i64 0), 1, 8) := by kernel_rfl
theorem und_ints : Try.prog.underlying 36 = some (.slice 3) := by kernel_rfl
/-- The block that a slice lies in. -/
def ownI (v : Value) : List Nat := match v.ownBlock with
  | some g => [g]
  | none => []
theorem grown_onlyI {w w' : World} {sv : Value} (h : w.grownBy w' sv.ownBlock) : Only (ownI sv) w w' :=
  ⟨h.os, h.tape, h.output, h.size, fun k hk hs => h.block k hk (fun e => hs (by unfold ownI; rw [← e]; simp))⟩
theorem addI (b o k : Nat) : (⟨b, o, none⟩ : Addr).add k = ⟨b, o + k, none⟩ := by cases k <;> simp [Addr.add]
/-- sv is a slice of the numbers l, which nobody else holds. -/
def RowI (w : World) (sv : Value) (l : List Int) : Prop := w.ownsRow 0 3 1 sv l.length (l.map (.int .i64))
theorem RowI.nil (w : World) : RowI w (.slice none 0 0) [] := ⟨rfl, .inl ⟨rfl, rfl⟩⟩
theorem RowI.lt {w : World} {sv : Value} {l : List Int} (h : RowI w sv l) : ∀ g, g ∈ ownI sv → g < w.heap.size := by
  intro g hg
  rcases h.2 with ⟨rfl, _⟩ | ⟨g', cap, cur, rfl, _, hh, _⟩
  · simp [ownI, Value.ownBlock] at hg
  · simp [ownI, Value.ownBlock] at hg
    subst hg
    exact (Array.getElem?_eq_some_iff.1 hh).1
theorem RowI.only {S : List Nat} {w w' : World} {sv : Value} {l : List Int} (h : RowI w sv l) (k : Only S w w') (hd : ∀ g, g ∈ ownI sv → g ∉ S) : RowI w' sv l := by
  refine ⟨h.1, ?_⟩
  rcases h.2 with ⟨rfl, h0⟩ | ⟨g', cap, cur, rfl, hb, hh, r⟩
  · exact .inl ⟨rfl, h0⟩
  · exact .inr ⟨g', cap, cur, rfl, hb, by rw [k.block g' (Array.getElem?_eq_some_iff.1 hh).1 (hd g' (by simp [ownI, Value.ownBlock]))]; exact hh, r⟩
theorem RowI.only0 {w w' : World} {sv : Value} {l : List Int} (h : RowI w sv l) (k : Only [] w w') : RowI w' sv l := h.only k (fun _ _ => by simp)
theorem RowI.form {w : World} {sv : Value} {l : List Int} (h : RowI w sv l) : ∃ a c, sv = .slice a l.length c := by
  rcases h.2 with ⟨rfl, h0⟩ | ⟨g, cap, cur, rfl, _⟩
  · exact ⟨none, 0, by rw [h0]⟩
  · exact ⟨_, _, rfl⟩
/-- sv, of the numbers l of the kind q, may be read at w: whoever holds it. -/
def HoldsI (q : IntKind) (w : World) (sv : Value) (l : List Int) : Prop := ∃ a c, sv = .slice a l.length c ∧ l.length ≤ c ∧ c ≤ maxLen ∧ (l = [] ∨ ∃ b o, a = some ⟨b, o, none⟩ ∧ ∀ (j : Nat) (x : Int), l[j]? = some x → w.cell? ⟨b, o + j, none⟩ = some (.int q x))
theorem RowI.holds {w : World} {sv : Value} {l : List Int} (h : RowI w sv l) : HoldsI .i64 w sv l := by
  rcases h.2 with ⟨rfl, h0⟩ | ⟨g, cap, cur, rfl, hb, hh, h1, h2, h3, h4⟩
  · exact ⟨none, 0, by rw [h0], by omega, by unfold maxLen; omega, .inl (List.length_eq_zero_iff.1 h0)⟩
  · refine ⟨_, _, rfl, h1, h2, .inr ⟨g, 0, rfl, fun j x hj => ?_⟩⟩
    have C := World.ownsRow.cells (g := g) h rfl j (.int .i64 x) (by simp [hj])
    rw [addI] at C
    exact C
theorem HoldsI.only {q : IntKind} {S : List Nat} {w w' : World} {sv : Value} {l : List Int} (h : HoldsI q w sv l) (k : Only S w w') (hd : ∀ a n c, sv = .slice (some a) n c → a.block ∉ S) : HoldsI q w' sv l := by
  obtain ⟨a, c, rfl, h1, h2, h3⟩ := h
  refine ⟨a, c, rfl, h1, h2, ?_⟩
  rcases h3 with h3 | ⟨b, o, rfl, hc⟩
  · exact .inl h3
  · exact .inr ⟨b, o, rfl, fun j x hj => k.cell (hc j x hj) (hd ⟨b, o, none⟩ _ _ rfl)⟩
theorem HoldsI.only0 {q : IntKind} {w w' : World} {sv : Value} {l : List Int} (h : HoldsI q w sv l) (k : Only [] w w') : HoldsI q w' sv l := h.only k (fun _ _ _ _ => by simp)
theorem holdsI_none (q : IntKind) (w : World) : HoldsI q w (.slice none 0 0) [] := ⟨none, 0, rfl, by simp, by unfold maxLen; omega, .inl rfl⟩
theorem HoldsI.at {q : IntKind} {w : World} {a : Option Addr} {n c : Nat} {l : List Int} (h : HoldsI q w (.slice a n c) l) {j : Nat} {x : Int} (hx : l[j]? = some x) : ∃ b o, a = some ⟨b, o, none⟩ ∧ w.cell? ⟨b, o + j, none⟩ = some (.int q x) := by
  obtain ⟨a2, c2, e, _, _, h3⟩ := h
  cases e
  rcases h3 with h3 | ⟨b, o, rfl, hc⟩
  · subst h3; simp at hx
  · exact ⟨b, o, rfl, hc j x hx⟩
/-- A slice that holds numbers, or none: its address, and all of its cells. -/
theorem HoldsI.open {q : IntKind} {w : World} {sv : Value} {l : List Int} (h : HoldsI q w sv l) (h0 : 0 < l.length) : ∃ b o c, sv = .slice (some ⟨b, o, none⟩) l.length c ∧ l.length ≤ c ∧ c ≤ maxLen ∧ ∀ (j : Nat) (x : Int), l[j]? = some x → w.cell? ⟨b, o + j, none⟩ = some (.int q x) := by
  obtain ⟨a, c, rfl, h1, h2, h3⟩ := h
  rcases h3 with h3 | ⟨b, o, rfl, hc⟩
  · subst h3; simp at h0
  · exact ⟨b, o, c, rfl, h1, h2, hc⟩
/-- Numbers that are written out. -/
theorem holdsI_lit (q : IntKind) (t : TypeId) (w : World) (l : List Int) (hl : l.length ≤ maxLen) : HoldsI q (w.alloc (.cells (l.map (Value.int q)).toArray t)) (.slice (some ⟨w.heap.size, 0, none⟩) l.length l.length) l := by
  refine ⟨_, _, rfl, Nat.le_refl _, hl, .inr ⟨_, 0, rfl, fun j x hj => ?_⟩⟩
  rw [World.cell?_alloc_new]
  simp [hj]

theorem run_append_ints (w : World) (ty : TypeId) (sv : Value) (l : List Int) (hr : RowI w sv l) (ad : Addr) (c : Nat) (cs : List Int)
    (hcs : ∀ j v, (cs.map (Value.int .i64))[j]? = some v → w.cell? (ad.add j) = some v) (hbig : l.length + cs.length ≤ 1000000000) :
    ∃ sv' w', (Builtin.append_ #[36, 36] ty #[sv, .slice (some ad) cs.length c]).run Try.prog w = .ok sv' w' ∧ RowI w' sv' (l ++ cs) ∧ Only (ownI sv) w w' ∧ (∀ g, g ∈ ownI sv' → g ∈ ownI sv ∨ w.heap.size ≤ g) := by
  obtain ⟨i0, hi0, hz0, hs0, hb0⟩ := info_parts info_int
  have one : ∀ u, u ∈ cs.map (Value.int .i64) → u.oneCell' = true := fun u hu => by obtain ⟨x, _, rfl⟩ := List.mem_map.1 hu; rfl
  obtain ⟨v', w', h1, h2, h3, _, h5⟩ := run_append_own_at (P := Try.prog) (w := w) 0 36 ty 3 i0 (.int .i64 0) 1 8 und_ints hi0 hz0 hs0 hb0 rfl (by omega) sv l.length (l.map (.int .i64)) hr ad cs.length c (cs.map (.int .i64)) (by simp) hcs one (by unfold maxLen; omega) (by omega) (Nat.zero_le _)
  refine ⟨v', w', h1, by unfold RowI; rw [List.length_append, List.map_append]; exact h2, grown_onlyI h3, fun g hg => ?_⟩
  unfold ownI at hg ⊢
  rcases h5 with e | e
  · rw [e] at hg; exact .inl hg
  · rw [e] at hg
    simp at hg
    exact .inr (by omega)
/-- One number more. -/
theorem append_int (wr : World) (out : Value) (l : List Int) (x : Int) (R : RowI wr out l) (hl : l.length + 1 ≤ 1000000000) :
    ∃ sv2 w2, (Builtin.append_ #[36, 36] 36 #[out, .slice (some ⟨wr.heap.size, 0, none⟩) 1 1]).run Try.prog (wr.alloc (.cells #[.int .i64 x] 3)) = .ok sv2 w2 ∧ RowI w2 sv2 (l ++ [x]) ∧ Only (ownI out) wr w2 ∧
      ∀ g, g ∈ ownI sv2 → g ∈ ownI out ∨ wr.heap.size ≤ g := by
  have ra : Only [] wr (wr.alloc (.cells #[.int .i64 x] 3)) := (Only.refl [] wr).alloc _
  obtain ⟨sv2, w2, hrun, hrow, honly, hown⟩ := run_append_ints (wr.alloc (.cells #[.int .i64 x] 3)) 36 _ _ (R.only ra (by simp)) ⟨wr.heap.size, 0, none⟩ 1 [x] (fun j u hj => by
    have hj0 : j = 0 := by have := (List.getElem?_eq_some_iff.1 hj).1; simp at this; omega
    subst hj0
    simp only [List.map_cons, List.map_nil, List.getElem?_cons_zero, Option.some.injEq] at hj
    rw [← hj, addI, World.cell?_alloc_new]
    rfl) (by simpa using hl)
  refine ⟨sv2, w2, hrun, hrow, (ra.mono (fun _ _ h => by cases h)).trans honly, fun g hg => ?_⟩
  rcases hown g hg with e | e
  · exact .inl e
  · exact .inr (by simp at e; omega)
theorem append_nothingI (w : World) (a : Option Addr) (c : Nat) :
    (Builtin.append_ #[36, 36] 36 #[.slice none 0 0, .slice a 0 c]).run Try.prog w = .ok (.slice none 0 0) w := by
  obtain ⟨i0, hi0, hz0, hs0, hb0⟩ := info_parts info_int
  cases a with
  | none => simp [Builtin.append_, run_underlying und_ints, sizeOf, typeInfo, hi0, Builtin.lenOf, Builtin.firstCells]
  | some a =>
    have hfc := run_firstCells_some (P := Try.prog) w i0.size 0 a 0 c [] (by simp) (by simp)
    simp [Builtin.append_, run_underlying und_ints, sizeOf, typeInfo, hi0, Builtin.lenOf, hfc]
/-- A copy, behind nothing. -/
theorem append_copyI (w : World) (b : Value) (vs : List Int) (hb : HoldsI .i64 w b vs) (hl : vs.length ≤ 1000000000) :
    ∃ sv w', (Builtin.append_ #[36, 36] 36 #[.slice none 0 0, b]).run Try.prog w = .ok sv w' ∧ RowI w' sv vs ∧ Only [] w w' ∧ ∀ g, g ∈ ownI sv → w.heap.size ≤ g := by
  obtain ⟨a, d, rfl, _, _, HA⟩ := hb
  by_cases h0 : vs = []
  · subst h0
    exact ⟨_, w, append_nothingI w a d, RowI.nil w, Only.refl _ _, by simp [ownI, Value.ownBlock]⟩
  · obtain ⟨b, o, rfl, hc⟩ : ∃ b o, a = some ⟨b, o, none⟩ ∧ ∀ (j : Nat) (x : Int), vs[j]? = some x → w.cell? ⟨b, o + j, none⟩ = some (.int .i64 x) := by
      rcases HA with h | h
      · exact absurd h h0
      · exact h
    obtain ⟨sv, w', h1, h2, h3, h4⟩ := run_append_ints w 36 _ [] (RowI.nil w) ⟨b, o, none⟩ d vs (fun j v hj => by
      rw [List.getElem?_map] at hj
      obtain ⟨x, hx, rfl⟩ := Option.map_eq_some_iff.1 hj
      rw [addI]
      exact hc j x hx) (by simpa using hl)
    refine ⟨sv, w', h1, by simpa using h2, h3.mono (fun k hk h => by simp [ownI, Value.ownBlock] at h), fun g hg => ?_⟩
    rcases h4 g hg with e | e
    · simp [ownI, Value.ownBlock] at e
    · exact e
/-- make([]int, n). -/
theorem run_make_ints (n : Nat) (hn : n ≤ 1000000000) (w : World) :
    (Instr.makeSlice 36 (.int .i64 (n : Int)) (.int .i64 (n : Int))).run Try.prog w = .ok (.slice (some ⟨w.heap.size, 0, none⟩) n n) (w.alloc (.cells (madeCells #[.int .i64 0] n) 3)) :=
  run_make_row' 36 3 (.int .i64 0) 8 und_ints info_int rfl .i64 .i64 n (by omega) (by omega) w
theorem made_zeros (n : Nat) : (madeCells #[.int .i64 0] n).toList = (List.replicate n (0 : Int)).map (Value.int .i64) := by
  apply List.ext_getElem
  · simp [madeCells]
  · intro i h1 h2
    simp [madeCells, Nat.mod_one]
theorem made_row (n : Nat) (hn : n ≤ 1000000000) (w : World) : RowI (w.alloc (.cells (madeCells #[.int .i64 0] n) 3)) (.slice (some ⟨w.heap.size, 0, none⟩) n n) (List.replicate n 0) := by
  unfold RowI
  rw [List.length_replicate]
  exact ⟨by simp, .inr ⟨w.heap.size, n, _, rfl, Nat.zero_le _, heap_alloc_new w _, Nat.le_refl _, by unfold maxLen; omega, by simp [size_madeCells], by rw [made_zeros, List.take_of_length_le (by simp)]⟩⟩
/-- One number is changed in place. -/
theorem RowI.set {w : World} {g n c : Nat} {l : List Int} (h : RowI w (.slice (some ⟨g, 0, none⟩) n c) l) (j : Nat) (hj : j < l.length) (x : Int) :
    (∃ y, w.cell? ⟨g, j, none⟩ = some (.int .i64 y)) ∧ w.frozen? ⟨g, j, none⟩ = false ∧ RowI (w.setCell ⟨g, j, none⟩ (.int .i64 x)) (.slice (some ⟨g, 0, none⟩) n c) (l.set j x) := by
  rcases h.2 with ⟨e, _⟩ | ⟨g', cap, cur, e, hb, hh, h1, h2, h3, h4⟩
  · cases e
  · cases e
    have hjc : j < cur.size := by omega
    refine ⟨⟨l[j], ?_⟩, ?_, ?_⟩
    · have C := World.ownsRow.cells (g := g) h rfl j (.int .i64 l[j]) (by simp [hj])
      rw [addI, Nat.zero_add] at C
      exact C
    · simp [World.frozen?, hh]
    · unfold RowI
      rw [List.length_set]
      refine ⟨by simp, .inr ⟨g, c, cur.setIfInBounds j (.int .i64 x), rfl, hb, ?_, h1, h2, by simpa using h3, ?_⟩⟩
      · unfold World.setCell
        simp [Array.getElem?_modify, hh]
      · rw [Array.toList_setIfInBounds, List.take_set, h4, List.map_set]
end Go.Proofs.Ytfmfknjjhemnoaa

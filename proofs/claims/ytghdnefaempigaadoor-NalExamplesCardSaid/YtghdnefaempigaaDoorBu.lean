/- A builder, while blocks that are no cells are changed; a loop's rounds. -/
import Derived.Test.YtghdnefaempigaaDoorSh
import Derived.Test.YtghdnefaempigaaDoorIt
import Derived.Test.YtghdnefaempigaaDoorZe
import Derived.RangeFuncWrites
namespace Go.Proofs.YtghdnefaempigaaDoor
open Go.RowKit Go.Shelf
set_option linter.unusedVariables false

theorem Only.of_below {w w' : World} (h : Below w.heap.size w w') : Only [] w w' := ⟨h.os, h.tape, h.output, h.size, fun k hk _ => h.block k hk⟩

/-- A builder stays one while a block that is no cells is changed. -/
theorem atF_grown {T e : TypeId} {B b : Nat} {p : Value} {bs : List Value} {W W' : World} {row : Option Nat} (h : Lib.BuilderAtF T e B b p bs W) (hg : W.grownBy W' row)
    (hr : ∀ r, row = some r → ∃ o : Obj, W.heap[r]? = some o ∧ o.isCells = false) : Lib.BuilderAtF T e B b p bs W' := by
  obtain ⟨hB, v, hb, hown, hne⟩ := h
  have hcell : ∀ (k : Nat) (c : Array Value) (t : TypeId) (fz : Nat × Nat), W.heap[k]? = some (Obj.cells c t fz) → W'.heap[k]? = some (Obj.cells c t fz) := fun k c t fz hk => by
    rw [hg.block k (Array.getElem?_eq_some_iff.1 hk).1 (fun e => by
      obtain ⟨o, ho, hn⟩ := hr k e.symm
      rw [hk] at ho
      injection ho with ho
      subst ho
      cases hn)]
    exact hk
  refine ⟨hB, v, hcell _ _ _ _ hb, ⟨hown.1, ?_⟩, hne⟩
  rcases hown.2 with hn | ⟨g, cap, cur, fz, hv, hbg, hgg, rest⟩
  · exact .inl hn
  · exact .inr ⟨g, cap, cur, fz, hv, hbg, hcell _ _ _ _ hgg, rest⟩
theorem isF_grown {T e : TypeId} {B b : Nat} {bs : List Value} {W W' : World} {row : Option Nat} (h : Lib.IsBuilderF T e B b bs W) (hg : W.grownBy W' row)
    (hr : ∀ r, row = some r → ∃ o : Obj, W.heap[r]? = some o ∧ o.isCells = false) : Lib.IsBuilderF T e B b bs W' := by
  rcases h with h | h
  · exact .inl (atF_grown h hg hr)
  · exact .inr (atF_grown h hg hr)
theorem isF_alloc {T e : TypeId} {B b : Nat} {bs : List Value} {W : World} (h : Lib.IsBuilderF T e B b bs W) (o : Obj) : Lib.IsBuilderF T e B b bs (W.alloc o) := by
  rcases h with h | h
  · exact .inl (h.alloc o)
  · exact .inr (h.alloc o)
/-- What a builder's writing leaves, for a loop's round. -/
theorem keepsFrom_of {e : TypeId} {b B : Nat} {W W' : World} (h : Lib.OthersKept e (some b) W W') (hs : W.heap.size ≤ W'.heap.size) (hb : b < B) : KeepsFrom B W W' :=
  ⟨hs, fun k o hk ho hn => h k o ho (fun e => by cases e; omega) (fun c fz e => by subst e; cases hn)⟩
theorem keepB_of {e t : TypeId} {b Bx : Nat} {s : Value} {W W' : World} (h : Lib.OthersKept e (some b) W W') (hB : W.heap[Bx]? = some (.cells #[s] t)) (ht : t ≠ e) (hb : Bx ≠ b) : W'.heap[Bx]? = some (.cells #[s] t) :=
  h Bx _ hB (fun e => by cases e; exact hb rfl) (fun c fz e => by cases e; exact ht rfl)
theorem keepsB_t {B : Nat} {X Y Z : World} (h : KeepB B X Y) (k : KeepB B Y Z) : KeepB B X Z := Eq.trans k h
theorem keepsB_b {B : Nat} {w : World} (hB : B < w.heap.size) (W : World) (l : Nat) (o o' : Obj) (hl : w.heap.size ≤ l) (h : W.heap[l]? = some o) (_ : o.isCells = false) (_ : o.isWalk = false) : KeepB B W (W.putObj l o') :=
  World.putObj_heap_other (by omega)
theorem cells_snoc (l : List UInt8) (x : UInt8) : Lib.byteCells l ++ [Value.int .u8 (x.toNat : Int)] = Lib.byteCells (l ++ [x]) := by simp [Lib.byteCells]
theorem wb (b : Nat) (acc : List UInt8) (x : UInt8) (c : Int) (hc : c = x.toNat) (W : World) (h : Lib.IsBuilderF 44 5 b b (Lib.byteCells acc) W) (hl : acc.length ≤ 1000000) (hb : b ≤ W.heap.size) :
    Calls Tryd.prog 23 #[.pointer (some ⟨b, 0, none⟩), .int .u8 c] W fun e W' => e = .returned .nilIface ∧ Lib.IsBuilderF 44 5 b b (Lib.byteCells (acc ++ [x])) W' ∧ Below b W W' ∧ Lib.OthersKept 5 (some b) W W' := by
  subst hc
  refine (write_byte b b (Lib.byteCells acc) x.toNat W h (by rw [Lib.byteCells_length]; omega) hb).mono ?_
  rintro e W' ⟨rfl, h1, h2, h3⟩
  rw [cells_snoc] at h1
  exact ⟨rfl, .inr h1, h2, h3⟩
end Go.Proofs.YtghdnefaempigaaDoor

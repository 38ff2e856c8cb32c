/- Calls in memory of the call's own; cells behind drawn regions. -/
import Derived.Test.YtgfcooaobfpdiaaCx
import Derived.Test.YtgfcooaobfpdiaaAgg
import Derived.Deep.RegionHeld3
import Derived.Deep.DeepCutAuto
namespace Go.Proofs.Ytgfcooaobfpdiaa
open Go.RowKit
set_option linter.unusedVariables false

/-- A call in memory, of the call's own. -/
structure CallIn (w : World) (b : Nat) (c m k v : Int) : Prop where
  x0 : w.cell? ⟨b, 0, none⟩ = some (.int .u8 c)
  x1 : w.cell? ⟨b, 1, none⟩ = some (.int .u64 m)
  x2 : w.cell? ⟨b, 2, none⟩ = some (.int .i64 k)
  x3 : w.cell? ⟨b, 3, none⟩ = some (.int .u64 v)
  f : ∀ o, w.frozen? ⟨b, o, none⟩ = false
theorem CallIn.only {w w' : World} {b : Nat} {c m k v : Int} (h : CallIn w b c m k v) (o : Only [] w w') : CallIn w' b c m k v :=
  ⟨o.cell h.x0 (by simp), o.cell h.x1 (by simp), o.cell h.x2 (by simp), o.cell h.x3 (by simp), fun j => (o.frozen (p := ⟨b, j, none⟩) (World.block_lt_of_cell? w ⟨b, 0, none⟩ h.x0) (by simp)).trans (h.f j)⟩
theorem CallIn.new (w : World) (t : TypeId) (c m k v : Int) : CallIn (w.alloc (.cells #[.int .u8 c, .int .u64 m, .int .i64 k, .int .u64 v] t)) w.heap.size c m k v :=
  ⟨by simp, by simp, by simp, by simp, fun o => by simp⟩

theorem only_cell {w w' : World} (k : Only [] w w') : (∀ b o, b < w.heap.size → w'.cell? ⟨b, o, none⟩ = w.cell? ⟨b, o, none⟩) ∧ (∀ b o, b < w.heap.size → w'.frozen? ⟨b, o, none⟩ = w.frozen? ⟨b, o, none⟩) ∧ w.heap.size ≤ w'.heap.size :=
  ⟨fun b o h => World.cell?_of_block (w := w) (k.block b h (by simp)), fun b o h => World.frozen?_of_block (w := w) (k.block b h (by simp)), k.size⟩

theorem same_of {w : World} {a : Addr} {v : Value} (h : (w.cell? a).isSome = true) : (w.setCell a v).cell? a = some v := by
  obtain ⟨u, hu⟩ := Option.isSome_iff_exists.1 h
  exact World.cell?_setCell_same _ _ _ hu
theorem skip4 (w : World) (b b' o : Nat) (u0 u1 u2 u3 : Value) (h : b ≠ b') : ((((w.setCell ⟨b', 0, none⟩ u0).setCell ⟨b', 1, none⟩ u1).setCell ⟨b', 2, none⟩ u2).setCell ⟨b', 3, none⟩ u3).cell? ⟨b, o, none⟩ = w.cell? ⟨b, o, none⟩ := by
  rw [World.cell?_setCell_far _ _ _ _ (Ne.symm h), World.cell?_setCell_far _ _ _ _ (Ne.symm h), World.cell?_setCell_far _ _ _ _ (Ne.symm h), World.cell?_setCell_far _ _ _ _ (Ne.symm h)]
/-- The cells of two calls. -/
def Cells8 (w : World) (p q : Nat) (a b c d e : Int) : Prop :=
  (w.cell? ⟨p, 0, none⟩ = some (.int .u8 a) ∧ w.cell? ⟨p, 1, none⟩ = some (.int .u64 b) ∧ w.cell? ⟨p, 2, none⟩ = some (.int .i64 c) ∧ w.cell? ⟨p, 3, none⟩ = some (.int .u64 d)) ∧
  w.cell? ⟨q, 0, none⟩ = some (.int .u8 a) ∧ w.cell? ⟨q, 1, none⟩ = some (.int .u64 b) ∧ w.cell? ⟨q, 2, none⟩ = some (.int .i64 c) ∧ w.cell? ⟨q, 3, none⟩ = some (.int .u64 e)
theorem cells8_of {w : World} {p q : Nat} {a b c d e : Int} (h : CallIn w p a b c d) (h' : CallIn w q a b c e) : Cells8 w p q a b c d e := ⟨⟨h.x0, h.x1, h.x2, h.x3⟩, h'.x0, h'.x1, h'.x2, h'.x3⟩
theorem keep8 {W w : World} {p q : Nat} {a b c d e : Int} (h : Cells8 W p q a b c d e) (o : Only [] W w) :
    Only [] W w ∧ (w.cell? ⟨p, 0, none⟩ = some (.int .u8 a) ∧ w.cell? ⟨p, 1, none⟩ = some (.int .u64 b) ∧ w.cell? ⟨p, 2, none⟩ = some (.int .i64 c) ∧ w.cell? ⟨p, 3, none⟩ = some (.int .u64 d)) ∧
    w.cell? ⟨q, 0, none⟩ = some (.int .u8 a) ∧ w.cell? ⟨q, 1, none⟩ = some (.int .u64 b) ∧ w.cell? ⟨q, 2, none⟩ = some (.int .i64 c) ∧ w.cell? ⟨q, 3, none⟩ = some (.int .u64 e) := by
  obtain ⟨⟨h1, h2, h3, h4⟩, h5, h6, h7, h8⟩ := h
  exact ⟨o, ⟨o.cell h1 (by simp), o.cell h2 (by simp), o.cell h3 (by simp), o.cell h4 (by simp)⟩, o.cell h5 (by simp), o.cell h6 (by simp), o.cell h7 (by simp), o.cell h8 (by simp)⟩

end Go.Proofs.Ytgfcooaobfpdiaa

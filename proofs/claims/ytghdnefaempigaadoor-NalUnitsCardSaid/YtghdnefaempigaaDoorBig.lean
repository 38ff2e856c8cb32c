/- Units that are built, stored and loaded in a function of many slots: one law each, where the walk's own steps would be too many. -/
import Derived.Test.YtghdnefaempigaaDoorDecM
import Derived.Laws.Tables
import Derived.Laws.Rows
namespace Go.Proofs.YtghdnefaempigaaDoor
open Go.RowKit
set_option linter.unusedVariables false

theorem setRow_new (w : World) (old new : Array Value) (t : TypeId) : (w.alloc (.cells old t)).setRow w.heap.size new = w.alloc (.cells new t) := by
  have h1 : (w.heap.push (.cells old t)).modify w.heap.size (fun o => match o with | .cells _ t fr => .cells new t fr | o => o) = w.heap.push (.cells new t) := by
    apply Array.ext_getElem?
    intro i
    rw [Array.getElem?_modify]
    by_cases hi : i = w.heap.size
    · subst hi; simp
    · rw [if_neg (fun e => hi e.symm), Array.getElem?_push, Array.getElem?_push, if_neg hi, if_neg hi]
  show ({ (w.alloc (.cells old t)) with heap := _ } : World) = _
  unfold World.alloc
  simp only []
  congr 1
  all_goals exact h1
/-- A unit in a block of its own. -/
def UH (w : World) (B : Nat) (x y : Int) (s : ByteArray) : Prop := w.heap[B]? = some (.cells #[.int .u8 x, .int .u8 y, .string s] 27)
theorem UH.new (w : World) (x y : Int) (s : ByteArray) : UH (w.alloc (.cells #[.int .u8 x, .int .u8 y, .string s] 27)) w.heap.size x y s := heap_alloc_new _ _
theorem UH.only {w w' : World} {B : Nat} {x y : Int} {s : ByteArray} (u : UH w B x y s) (h : Only [] w w') : UH w' B x y s := (h.block B (Array.getElem?_eq_some_iff.1 u).1 (by simp)).trans u
theorem UH.alloc {w : World} {B : Nat} {x y : Int} {s : ByteArray} (u : UH w B x y s) (o : Obj) : UH (w.alloc o) B x y s := u.only ((Only.refl [] w).alloc o)
theorem UH.u3 {w : World} {B : Nat} {x y : Int} {s : ByteArray} (u : UH w B x y s) : U3 w B (.int .u8 x) (.int .u8 y) (.string s) := by
  have u' : w.heap[B]? = some (.cells #[.int .u8 x, .int .u8 y, .string s] 27) := u
  exact ⟨by simp [World.cell?, u'], by simp [World.cell?, u'], by simp [World.cell?, u']⟩

theorem wpList_unit {ops : Array Oper} {rest : List Oper} {o : Oper} {a : Act} {w : World} {Q : Exit → Act → World → Prop} (hg : o.guard = none) {i0 i1 i2 : Tmp} (ho : o.op = .build 27 #[(0, .tmp i0), (1, .tmp i1), (2, .tmp i2)]) (x y : Int) (t : ByteArray)
    (h0 : a.eval (.tmp i0) = .int .u8 x) (h1 : a.eval (.tmp i1) = .int .u8 y) (h2 : a.eval (.tmp i2) = .string t) (h : wpList Tryd.prog ops Q rest (a.put o.dst (.agg #[.int .u8 x, .int .u8 y, .string t])) w) : wpList Tryd.prog ops Q (o :: rest) a w := by
  have e : (#[(0, Operand.tmp i0), (1, Operand.tmp i1), (2, Operand.tmp i2)] : Array (Nat × Operand)).map (fun (i, x) => (i, a.eval x)) = #[(0, .int .u8 x), (1, .int .u8 y), (2, .string t)] := by simp [h0, h1, h2]
  have hb : Tryd.prog.built 27 #[(0, Value.int .u8 x), (1, Value.int .u8 y), (2, Value.string t)].toList = some #[.int .u8 x, .int .u8 y, .string t] := by kernel_rfl
  refine wpList_build hg _ _ ho (by rw [e, hb]; rfl) ?_
  rw [e, hb]
  exact h
theorem unit_size : (Tryd.prog.info? 27).map (·.size) = some 3 := by kernel_rfl
/-- A store into the block that was just made. -/
theorem wpList_store_unit {ops : Array Oper} {rest : List Oper} {o : Oper} {a : Act} {w : World} {Q : Exit → Act → World → Prop} (hg : o.guard = none) {p v : Tmp} (ho : o.op = .store 27 (.tmp p) (.tmp v)) (x y : Int) (t : ByteArray) (u0 u1 u2 : Value)
    (hp : a.eval (.tmp p) = .pointer (some ⟨w.heap.size, 0, none⟩)) (hv : a.eval (.tmp v) = .agg #[.int .u8 x, .int .u8 y, .string t])
    (h : wpList Tryd.prog ops Q rest (a.put o.dst undef) (w.alloc (.cells #[.int .u8 x, .int .u8 y, .string t] 27))) :
    wpList Tryd.prog ops Q (o :: rest) a (w.alloc (.cells #[u0, u1, u2] 27)) := by
  refine wpList_store_row hg _ _ _ ho w.heap.size _ hp hv 27 #[u0, u1, u2] (heap_alloc_new _ _) unit_size rfl (by simp [Value.oneCell']) ?_
  rw [setRow_new]
  exact h
theorem wpList_load_unit {ops : Array Oper} {rest : List Oper} {o : Oper} {a : Act} {w : World} {Q : Exit → Act → World → Prop} (hg : o.guard = none) {p : Tmp} (ho : o.op = .load 27 (.tmp p)) (B : Nat) (x y : Int) (t : ByteArray)
    (hp : a.eval (.tmp p) = .pointer (some ⟨B, 0, none⟩)) (u : UH w B x y t)
    (h : wpList Tryd.prog ops Q rest (a.put o.dst (.agg #[.int .u8 x, .int .u8 y, .string t])) w) : wpList Tryd.prog ops Q (o :: rest) a w :=
  wpList_load_row hg _ _ ho B hp 27 _ _ _ u Tryd.underlying27 rfl unit_size h
/- Guards: the walk stands at such an operation. -/
theorem is_load {P : Program} {ops : Array Oper} {Q : Exit → Act → World → Prop} {dst : Option Tmp} {ty : TypeId} {x : Operand} {t : TypeId} {p : String} {af : Array Edge} {rest : List Oper} {a : Act} {w : World} (h : wpList P ops Q (Oper.mk dst (.load ty x) t p af none :: rest) a w) : wpList P ops Q (Oper.mk dst (.load ty x) t p af none :: rest) a w := h
theorem is_store {P : Program} {ops : Array Oper} {Q : Exit → Act → World → Prop} {dst : Option Tmp} {ty : TypeId} {x y : Operand} {t : TypeId} {p : String} {af : Array Edge} {rest : List Oper} {a : Act} {w : World} (h : wpList P ops Q (Oper.mk dst (.store ty x y) t p af none :: rest) a w) : wpList P ops Q (Oper.mk dst (.store ty x y) t p af none :: rest) a w := h
theorem is_build {P : Program} {ops : Array Oper} {Q : Exit → Act → World → Prop} {dst : Option Tmp} {ty : TypeId} {ps : Array (Nat × Operand)} {t : TypeId} {p : String} {af : Array Edge} {rest : List Oper} {a : Act} {w : World} (h : wpList P ops Q (Oper.mk dst (.build ty ps) t p af none :: rest) a w) : wpList P ops Q (Oper.mk dst (.build ty ps) t p af none :: rest) a w := h
end Go.Proofs.YtghdnefaempigaaDoor

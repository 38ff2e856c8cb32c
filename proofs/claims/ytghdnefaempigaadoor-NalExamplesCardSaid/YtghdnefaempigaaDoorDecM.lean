/- What Decode answers. -/
import Derived.Test.YtghdnefaempigaaDoorEnM
import Derived.Test.YtghdnefaempigaaDoorZe
import Derived.Laws.ResultCell
namespace Go.Proofs.YtghdnefaempigaaDoor
open Go.RowKit
set_option linter.unusedVariables false

def decR (s : ByteArray) : Int × Int × ByteArray × Int := match s.data.toList with
  | [] => (0, 0, ⟨#[]⟩, 5)
  | h :: t => if h = 0 ∨ 127 < h.toNat ∨ s.data.toList.getLast? = some 0 then (0, 0, ⟨#[]⟩, 4) else match unesc t with
    | none => (0, 0, ⟨#[]⟩, 4)
    | some p => ((h.toNat / 32 : Nat), (h.toNat % 32 : Nat), bytesOf p, 0)
def decV (s : ByteArray) : Value := .tuple #[.agg #[.int .u8 (decR s).1, .int .u8 (decR s).2.1, .string (decR s).2.2.1], .int .i64 (decR s).2.2.2]
theorem list_at (s : ByteArray) (h : 0 < s.size) : s.data.toList = s[0] :: (s.extract 1 s.size).data.toList := by
  apply List.ext_getElem
  · simp; omega
  · intro i h1 h2
    cases i with
    | zero => rfl
    | succ i => simp
theorem last_at (s : ByteArray) (h : 0 < s.size) : s.data.toList.getLast? = some (s[s.size - 1]'(by omega)) := by
  rw [List.getLast?_eq_getElem?, List.getElem?_eq_getElem (by simp; omega)]
  congr 1
theorem dec_fit (s : ByteArray) (h : 0 < s.size) : decR s = (if fitB s h = true then
    (match unesc (s.extract 1 s.size).data.toList with
    | none => (0, 0, ⟨#[]⟩, 4)
    | some p => (((s[0]).toNat / 32 : Nat), ((s[0]).toNat % 32 : Nat), bytesOf p, 0)) else (0, 0, ⟨#[]⟩, 4) : Int × Int × ByteArray × Int) := by
  unfold decR
  rw [last_at s h, list_at s h]
  have e : (s[0] = 0 ∨ 127 < (s[0]).toNat ∨ some (s[s.size - 1]'(by omega)) = some 0) ↔ ¬ fitB s h = true := by
    unfold fitB
    simp only [Option.some.injEq, Bool.and_eq_true, decide_eq_true_eq]
    constructor
    · rintro (e | e | e) ⟨⟨a, b⟩, c⟩
      · exact a e
      · omega
      · exact c e
    · intro n
      by_cases a : s[0] = 0
      · exact .inl a
      · by_cases b : (s[0]).toNat ≤ 127
        · refine .inr (.inr ?_)
          by_cases c : s[s.size - 1]'(by omega) = 0
          · exact c
          · exact absurd ⟨⟨a, b⟩, c⟩ n
        · exact .inr (.inl (by omega))
  by_cases hf : fitB s h = true
  · rw [if_pos hf]
    simp only []
    rw [if_neg (fun x => e.1 x hf)]
  · rw [if_neg hf]
    simp only []
    rw [if_pos (e.2 hf)]
theorem dec_empty (s : ByteArray) (h : s.size = 0) : decR s = (0, 0, ⟨#[]⟩, 5) := by
  unfold decR
  have : s.data.toList = [] := List.length_eq_zero_iff.1 (by simpa using h)
  rw [this]
theorem results_unit {fn : Func} (h : fn.results = #[.cell 2 27, .tmp 3]) (tmps : Array Value) (W : World) (B : Nat) (x y : Int) (t : ByteArray) (e : Value) (h2 : tmps.getD 2 undef = .pointer (some ⟨B, 0, none⟩)) (h3 : tmps.getD 3 undef = e)
    (c0 : W.cell? ⟨B, 0, none⟩ = some (.int .u8 x)) (c1 : W.cell? ⟨B, 1, none⟩ = some (.int .u8 y)) (c2 : W.cell? ⟨B, 2, none⟩ = some (.string t)) :
    (results fn tmps).run Tryd.prog W = .ok (.tuple #[.agg #[.int .u8 x, .int .u8 y, .string t], e]) W := by
  rw [results_cell_tmp h, h2, h3]
  go_simp
theorem unit_end {fn : Func} (h : fn.results = #[.cell 2 27, .tmp 3]) (w W : World) (B : Nat) (x y : Int) (t : ByteArray) (e : Int) (V u0 u1 u2 : Value) (hV : V = .tuple #[.agg #[.int .u8 x, .int .u8 y, .string t], .int .i64 e]) (tmps : Array Value)
    (h2 : tmps.getD 2 undef = .pointer (some ⟨B, 0, none⟩)) (h3 : tmps.getD 3 undef = .int .i64 e) (O : Only [] w W) (hB : w.heap.size ≤ B) (c0 : W.cell? ⟨B, 0, none⟩ = some u0) (c1 : W.cell? ⟨B, 1, none⟩ = some u1) (c2 : W.cell? ⟨B, 2, none⟩ = some u2) :
    bodyPost Tryd.prog fn (fun e w' => e = .returned V ∧ Only [] w w') Exit.ret { tmps := tmps, defers := [] } (((W.setCell ⟨B, 0, none⟩ (.int .u8 x)).setCell ⟨B, 1, none⟩ (.int .u8 y)).setCell ⟨B, 2, none⟩ (.string t)) := by
  refine bodyPost_ret (results_unit h tmps _ B x y t (.int .i64 e) h2 h3 ?_ ?_ ?_) rfl ⟨by rw [hV], ((O.setCell (p := ⟨B, 0, none⟩) (.inr hB) _).setCell (p := ⟨B, 1, none⟩) (.inr hB) _).setCell (p := ⟨B, 2, none⟩) (.inr hB) _⟩
  · rw [World.cell?_setCell_other _ _ _ _ (by simp), World.cell?_setCell_other _ _ _ _ (by simp)]
    exact World.cell?_setCell_same _ _ _ c0
  · rw [World.cell?_setCell_other _ _ _ _ (by simp)]
    exact World.cell?_setCell_same _ _ _ (by rw [World.cell?_setCell_other _ _ _ _ (by simp)]; exact c1)
  · exact World.cell?_setCell_same _ _ _ (by rw [World.cell?_setCell_other _ _ _ _ (by simp), World.cell?_setCell_other _ _ _ _ (by simp)]; exact c2)
theorem unit_end_d {fn : Func} (h : fn.results = #[.cell 2 27, .tmp 3]) (w W : World) (B : Nat) (x y : Int) (t : ByteArray) (e : Int) (V u0 u1 u2 : Value) (hV : V = .tuple #[.agg #[.int .u8 x, .int .u8 y, .string t], .int .i64 e]) (tmps : Array Value)
    (h2 : tmps.getD 2 undef = .pointer (some ⟨B, 0, none⟩)) (h3 : tmps.getD 3 undef = .int .i64 e) (O : Only [] w W) (hB : w.heap.size ≤ B) (c0 : W.cell? ⟨B, 0, none⟩ = some u0) (c1 : W.cell? ⟨B, 1, none⟩ = some u1) (c2 : W.cell? ⟨B, 2, none⟩ = some u2) :
    bodyPost Tryd.prog fn (fun e w' => e = .returned V ∧ Only [] w w') Exit.ret { tmps := tmps, defers := [] } (((W.setCell ⟨B, 0, none⟩ (.int .u8 x)).setCell ⟨B, 1, none⟩ (.int .u8 y)).setCell ⟨B, 2, none⟩ (.string t)).drew := by
  refine bodyPost_ret (results_unit h tmps _ B x y t (.int .i64 e) h2 h3 ?_ ?_ ?_) rfl ⟨by rw [hV], (((O.setCell (p := ⟨B, 0, none⟩) (.inr hB) _).setCell (p := ⟨B, 1, none⟩) (.inr hB) _).setCell (p := ⟨B, 2, none⟩) (.inr hB) _).drew⟩
  · show ((((W.setCell ⟨B, 0, none⟩ (.int .u8 x)).setCell ⟨B, 1, none⟩ (.int .u8 y)).setCell ⟨B, 2, none⟩ (.string t))).cell? ⟨B, 0, none⟩ = _
    rw [World.cell?_setCell_other _ _ _ _ (by simp), World.cell?_setCell_other _ _ _ _ (by simp)]
    exact World.cell?_setCell_same _ _ _ c0
  · show ((((W.setCell ⟨B, 0, none⟩ (.int .u8 x)).setCell ⟨B, 1, none⟩ (.int .u8 y)).setCell ⟨B, 2, none⟩ (.string t))).cell? ⟨B, 1, none⟩ = _
    rw [World.cell?_setCell_other _ _ _ _ (by simp)]
    exact World.cell?_setCell_same _ _ _ (by rw [World.cell?_setCell_other _ _ _ _ (by simp)]; exact c1)
  · show ((((W.setCell ⟨B, 0, none⟩ (.int .u8 x)).setCell ⟨B, 1, none⟩ (.int .u8 y)).setCell ⟨B, 2, none⟩ (.string t))).cell? ⟨B, 2, none⟩ = _
    exact World.cell?_setCell_same _ _ _ (by rw [World.cell?_setCell_other _ _ _ _ (by simp), World.cell?_setCell_other _ _ _ _ (by simp)]; exact c2)
theorem and_all (x : UInt8) : bits BinOp.and IntKind.u8 (x.toNat : Int) 31 = ((x.toNat % 32 : Nat) : Int) := by
  have h : ∀ x : Fin 256, bits BinOp.and IntKind.u8 (x.val : Int) 31 = ((x.val % 32 : Nat) : Int) := by decide +kernel
  exact h ⟨x.toNat, x.toNat_lt⟩
/-- A unit in memory. -/
structure U3 (w : World) (B : Nat) (v0 v1 v2 : Value) : Prop where
  c0 : w.cell? ⟨B, 0, none⟩ = some v0
  c1 : w.cell? ⟨B, 1, none⟩ = some v1
  c2 : w.cell? ⟨B, 2, none⟩ = some v2
theorem U3.new (w : World) (v0 v1 v2 : Value) (t : TypeId) : U3 (w.alloc (.cells #[v0, v1, v2] t)) w.heap.size v0 v1 v2 := ⟨by simp, by simp, by simp⟩
theorem U3.only {w w' : World} {B : Nat} {v0 v1 v2 : Value} (u : U3 w B v0 v1 v2) (h : Only [] w w') : U3 w' B v0 v1 v2 := ⟨h.cell u.c0 (by simp), h.cell u.c1 (by simp), h.cell u.c2 (by simp)⟩
theorem U3.alloc {w : World} {B : Nat} {v0 v1 v2 : Value} (u : U3 w B v0 v1 v2) (o : Obj) : U3 (w.alloc o) B v0 v1 v2 := u.only ((Only.refl [] w).alloc o)
theorem empty_no (s : ByteArray) (h : 0 < s.size) : s.toList.isEmpty = false := by
  rw [Lib.toList_data]
  cases e : s.data.toList with
  | nil => have : s.data.toList.length = s.size := by simp
           rw [e] at this
           simp at this
           omega
  | cons a l => rfl
end Go.Proofs.YtghdnefaempigaaDoor

/- The two kinds of lists, as the program's values and in memory; how many numbers a command has. -/
import Derived.Test.YtdkmeldcpamnnaaDoorRows
import Derived.Test.YtdkmeldcpamnnaaDoorMs
import Derived.Test.YtdkmeldcpamnnaaDoorRMc
import Derived.Test.YtdkmeldcpamnnaaDoorQuiet
import Derived.Lib.LaidU8
namespace Go.Proofs.YtdkmeldcpamnnaaDoor
open Go.RowKit
set_option linter.unusedVariables false

/-- A kind of lists: eight cells. -/
def kindC : Bool → Array Value
  | false => #[.int .u64 3, .int .i64 1, .int .i64 1, .int .i64 1, .int .i64 (-1), .int .i64 (-1), .int .i64 (-1), .int .i64 (-1)]
  | true => #[.int .u64 0, .int .i64 (-1), .int .i64 1, .int .i64 1, .int .i64 2, .int .i64 1, .int .i64 0, .int .i64 1]
def kindV (m : Bool) : Value := .agg (kindC m)
/-- How many numbers the command has; -1: there is none. -/
def cntI (m : Bool) (op : Int) : Int := if (hasI m op).2 = true then (hasI m op).1 else -1

set_option maxHeartbeats 2000000 in
theorem count_any (m : Bool) (op : Int) (h0 : 0 ≤ op) (w : World) : Calls Tryd.prog 58 #[kindV m, .int .u64 op] w fun e w' => e = .returned (.int .i64 (cntI m op)) ∧ Only [] w w' := by
  by_cases h7 : op < 7
  · have : op = 0 ∨ op = 1 ∨ op = 2 ∨ op = 3 ∨ op = 4 ∨ op = 5 ∨ op = 6 := by omega
    clear h0 h7
    cases m
    all_goals
      rcases this with rfl | rfl | rfl | rfl | rfl | rfl | rfl
      all_goals
        simp only [kindV, kindC]
        go_enter Tryd.func58, Tryd.ntmps58
        go_wp2_with fail
        go_ret
        exact ⟨rfl, (Only.refl _ _).alloc _⟩
  · have h7' : (7 : Int) ≤ op := by omega
    rw [show cntI m op = -1 from by
      unfold cntI
      rw [if_neg]
      intro h
      have := hasI_le h
      omega]
    clear h7
    cases m
    all_goals
      simp only [kindV, kindC]
      go_enter Tryd.func58, Tryd.ntmps58
      go_wp2_with fail
      go_ret
      exact ⟨rfl, (Only.refl _ _).alloc _⟩

/-- Where a kind lies: the package's two variables. -/
def kindG : Bool → Nat
  | false => 0
  | true => 1
/-- The two variables hold what the program's text lays. -/
def Vars (w : World) : Prop := ∀ (m : Bool) (j : Nat) (v : Value), (kindC m)[j]? = some v → w.cell? ⟨kindG m, j, none⟩ = some v
theorem Vars.first {w : World} (h : Vars w) (m : Bool) : w.cell? ⟨kindG m, 0, none⟩ = some (.int .u64 (endN m : Nat)) := h m 0 _ (by cases m <;> rfl)
theorem Vars.only {S : List Nat} {w w' : World} (h : Vars w) (k : Only S w w') (hS : ∀ m, kindG m ∉ S) : Vars w' := fun m j v hj => k.cell (h m j v hj) (hS m)
theorem Vars.only0 {w w' : World} (h : Vars w) (k : Only [] w w') : Vars w' := h.only k (fun _ => by simp)
theorem Vars.lt {w : World} (h : Vars w) (m : Bool) : kindG m < w.heap.size := World.block_lt_of_cell? _ _ (h.first m)
/-- What lies in blocks that are new to a world with the variables. -/
theorem Vars.new {S : List Nat} {w w' w0 : World} (h : Vars w) (h0 : Vars w0) (k : Only S w w') (hS : ∀ b, b ∈ S → w0.heap.size ≤ b) : Vars w' := h.only k (fun m hm => by have := hS _ hm; have := h0.lt m; omega)
theorem Vars.rd {w w' : World} {b : Nat} {s : ByteArray} {pos : Nat} (h : Vars w) (hr : Rd w b s pos) (k : Only [b] w w') : Vars w' := h.only k (fun m hm => by
  have e : kindG m = b := by simpa using hm
  have := h.first m
  rw [e, hr.hs] at this
  cases this)
theorem Vars.drewN {w : World} (h : Vars w) (n : Nat) : Vars (w.drewN n) := h
end Go.Proofs.YtdkmeldcpamnnaaDoor

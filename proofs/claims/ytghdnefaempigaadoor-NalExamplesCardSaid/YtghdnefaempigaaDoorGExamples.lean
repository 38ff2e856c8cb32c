/- NalExamples' walk. -/
import Derived.Test.YtghdnefaempigaaDoorKn
import Derived.Test.YtghdnefaempigaaDoorUn
import Derived.Test.YtghdnefaempigaaDoorDec
import Derived.Test.YtghdnefaempigaaDoorQuiet
import Derived.Deep.LoopGhost
import Derived.ProofKit
namespace Go.Proofs.YtghdnefaempigaaDoor
open Go.RowKit
set_option linter.unusedVariables false

/- The chapter's examples. -/
def exP : Nat → List UInt8
  | 0 => [0, 0, 0] | 1 => [0, 0, 1, 0, 0] | 2 => [0, 0, 4] | 3 => [0, 0, 3] | 4 => [0, 0, 0, 0] | 5 => [] | 6 => [0] | _ => [1, 0, 0]
def exE : Nat → List UInt8
  | 0 => [0, 0, 3, 0] | 1 => [0, 0, 3, 1, 0, 0, 3] | 2 => [0, 0, 4] | 3 => [0, 0, 3, 3] | 4 => [0, 0, 3, 0, 0, 3] | 5 => [] | 6 => [0] | _ => [1, 0, 0, 3]
def exN : Nat → List UInt8
  | 0 => [0, 0, 3, 4] | 1 => [0, 0, 1] | 2 => [0, 0] | 3 => [0, 0, 0] | _ => [0, 0, 2, 1]
def exU : Nat → Nat × Nat × List UInt8
  | 0 => (1, 7, [77, 0]) | 1 => (3, 5, [128, 0, 0]) | 2 => (0, 9, []) | 3 => (4, 1, []) | 4 => (0, 0, [1]) | 5 => (0, 32, []) | _ => (3, 31, [])
def exW : Nat → List UInt8
  | 1 => [101, 128, 0, 0, 3] | 2 => [9] | 6 => [127] | _ => []
def exR : Nat → Int
  | 0 => 4 | 3 => 3 | 4 => 4 | 5 => 3 | _ => 0
theorem ex_esc : ∀ j, j < 8 → esc (exP j) = exE j ∧ (exP j).length ≤ 5 ∧ (exE j).length ≤ 7 := by decide +kernel
theorem ex_no : ∀ j, j < 5 → unesc (exN j) = none ∧ (exN j).length ≤ 4 := by decide +kernel
theorem ex_enc : ∀ j, j < 7 → encR (exU j).1 (exU j).2.1 (exU j).2.2 = (⟨(exW j).toArray⟩, exR j) ∧ (exU j).1 ≤ 4 ∧ (exU j).2.1 ≤ 32 ∧ (exU j).2.2.length ≤ 3 := by decide +kernel
def bs (l : List UInt8) : Value := .string ⟨l.toArray⟩

theorem row_p (w : World) (t : TypeId) : ∀ j, j < 8 → (w.alloc (.cells #[.string ⟨#[0, 0, 0]⟩, .string ⟨#[0, 0, 1, 0, 0]⟩, .string ⟨#[0, 0, 4]⟩, .string ⟨#[0, 0, 3]⟩, .string ⟨#[0, 0, 0, 0]⟩, .string ⟨#[]⟩, .string ⟨#[0]⟩, .string ⟨#[1, 0, 0]⟩] t)).cell? ⟨w.heap.size, j, none⟩ = some (bs (exP j)) := by
  intro j hj
  rw [World.cell?_alloc_new]
  obtain rfl | rfl | rfl | rfl | rfl | rfl | rfl | rfl : j = 0 ∨ j = 1 ∨ j = 2 ∨ j = 3 ∨ j = 4 ∨ j = 5 ∨ j = 6 ∨ j = 7 := by omega
  all_goals rfl
theorem row_e (w : World) (t : TypeId) : ∀ j, j < 8 → (w.alloc (.cells #[.string ⟨#[0, 0, 3, 0]⟩, .string ⟨#[0, 0, 3, 1, 0, 0, 3]⟩, .string ⟨#[0, 0, 4]⟩, .string ⟨#[0, 0, 3, 3]⟩, .string ⟨#[0, 0, 3, 0, 0, 3]⟩, .string ⟨#[]⟩, .string ⟨#[0]⟩, .string ⟨#[1, 0, 0, 3]⟩] t)).cell? ⟨w.heap.size, j, none⟩ = some (bs (exE j)) := by
  intro j hj
  rw [World.cell?_alloc_new]
  obtain rfl | rfl | rfl | rfl | rfl | rfl | rfl | rfl : j = 0 ∨ j = 1 ∨ j = 2 ∨ j = 3 ∨ j = 4 ∨ j = 5 ∨ j = 6 ∨ j = 7 := by omega
  all_goals rfl
theorem row_n (w : World) (t : TypeId) : ∀ j, j < 5 → (w.alloc (.cells #[.string ⟨#[0, 0, 3, 4]⟩, .string ⟨#[0, 0, 1]⟩, .string ⟨#[0, 0]⟩, .string ⟨#[0, 0, 0]⟩, .string ⟨#[0, 0, 2, 1]⟩] t)).cell? ⟨w.heap.size, j, none⟩ = some (bs (exN j)) := by
  intro j hj
  rw [World.cell?_alloc_new]
  obtain rfl | rfl | rfl | rfl | rfl : j = 0 ∨ j = 1 ∨ j = 2 ∨ j = 3 ∨ j = 4 := by omega
  all_goals rfl
/-- Contracts at bytes written out. -/
theorem un_no (j : Nat) (hj : j < 5) (w : World) : Calls Tryd.prog 12 #[bs (exN j)] w fun e w' => e = .returned (.tuple #[.string ⟨#[]⟩, .int .i64 4]) ∧ Only [] w w' := by
  have h := ex_no j hj
  have := un_any ⟨(exN j).toArray⟩ w (by simp [ByteArray.size]; omega)
  rw [show (⟨(exN j).toArray⟩ : ByteArray).data.toList = exN j from by simp, show unR (exN j) = (⟨#[]⟩, 4) from by unfold unR; rw [h.1]] at this
  exact this
theorem un_yes (j : Nat) (hj : j < 8) (w : World) : Calls Tryd.prog 12 #[bs (exE j)] w fun e w' => e = .returned (.tuple #[bs (exP j), .int .i64 0]) ∧ Only [] w w' := by
  have h := ex_esc j hj
  have := un_any ⟨(exE j).toArray⟩ w (by simp [ByteArray.size]; omega)
  rw [show (⟨(exE j).toArray⟩ : ByteArray).data.toList = exE j from by simp, show unR (exE j) = (bytesOf (exP j), 0) from by unfold unR; rw [(unesc_iff _ _).2 h.1]] at this
  exact this
theorem es_yes (j : Nat) (hj : j < 8) (w : World) : Calls Tryd.prog 16 #[bs (exP j)] w fun e w' => e = .returned (bs (exE j)) ∧ Only [] w w' := by
  have h := ex_esc j hj
  exact esc_lit (exP j) (exE j) w h.1 (by omega)
theorem en_yes (j : Nat) (hj : j < 7) (w : World) : Calls Tryd.prog 18 #[.agg #[.int .u8 (exU j).1, .int .u8 (exU j).2.1, bs (exU j).2.2]] w fun e w' => e = .returned (.tuple #[bs (exW j), .int .i64 (exR j)]) ∧ Only [] w w' := by
  have h := ex_enc j hj
  exact enc_lit _ _ _ (exW j) (exR j) w h.1 (by omega) (by omega) (by omega)
theorem de_lit (l : List UInt8) (x y : Int) (m : List UInt8) (c : Int) (w : World) (h : decR ⟨l.toArray⟩ = (x, y, ⟨m.toArray⟩, c)) (hl : l.length ≤ 100) :
    Calls Tryd.prog 14 #[.string ⟨l.toArray⟩] w fun e w' => e = .returned (.tuple #[.agg #[.int .u8 x, .int .u8 y, .string ⟨m.toArray⟩], .int .i64 c]) ∧ Only [] w w' := by
  have := dec_any ⟨l.toArray⟩ w (by simp [ByteArray.size]; omega)
  unfold decV at this
  rw [h] at this
  exact this
theorem round1 (j : Nat) (hj : j < 8) : ∃ SP SE : ByteArray, bs (exP j) = .string SP ∧ bs (exE j) = .string SE ∧ (∀ w, Calls Tryd.prog 12 #[.string SE] w fun e w' => e = .returned (.tuple #[.string SP, .int .i64 0]) ∧ Only [] w w') ∧
    (∀ w, Calls Tryd.prog 16 #[.string SP] w fun e w' => e = .returned (.string SE) ∧ Only [] w w') :=
  ⟨_, _, rfl, rfl, un_yes j hj, es_yes j hj⟩
theorem round2 (j : Nat) (hj : j < 5) : ∃ SN : ByteArray, bs (exN j) = .string SN ∧ (∀ w, Calls Tryd.prog 12 #[.string SN] w fun e w' => e = .returned (.tuple #[.string ⟨#[]⟩, .int .i64 4]) ∧ Only [] w w') :=
  ⟨_, rfl, un_no j hj⟩

/-- The table of units, what is wanted, and the errors. -/
def Tab (w : World) (q : Nat) (j : Nat) : Prop := w.cell? ⟨q, j * 3, none⟩ = some (.int .u8 (exU j).1) ∧ w.cell? ⟨q, j * 3 + 1, none⟩ = some (.int .u8 (exU j).2.1) ∧ w.cell? ⟨q, j * 3 + 2, none⟩ = some (bs (exU j).2.2) ∧
  w.cell? ⟨q + 1, j, none⟩ = some (bs (exW j)) ∧ w.cell? ⟨q + 1 + 1, j, none⟩ = some (.int .i64 (exR j))
theorem Tab.only {w w' : World} {q j : Nat} (h : Tab w q j) (k : Only [] w w') : Tab w' q j :=
  ⟨k.cell h.1 (by simp), k.cell h.2.1 (by simp), k.cell h.2.2.1 (by simp), k.cell h.2.2.2.1 (by simp), k.cell h.2.2.2.2 (by simp)⟩
theorem row_u (w : World) : ∀ j, j < 7 → Tab (((w.alloc (.cells #[.int .u8 1, .int .u8 7, .string ⟨#[77, 0]⟩, .int .u8 3, .int .u8 5, .string ⟨#[128, 0, 0]⟩, .int .u8 0, .int .u8 9, .string ⟨#[]⟩, .int .u8 4, .int .u8 1, .string ⟨#[]⟩, .int .u8 0, .int .u8 0, .string ⟨#[1]⟩, .int .u8 0, .int .u8 32, .string ⟨#[]⟩, .int .u8 3, .int .u8 31, .string ⟨#[]⟩] 27)).alloc (.cells #[.string ⟨#[]⟩, .string ⟨#[101, 128, 0, 0, 3]⟩, .string ⟨#[9]⟩, .string ⟨#[]⟩, .string ⟨#[]⟩, .string ⟨#[]⟩, .string ⟨#[127]⟩] 9)).alloc (.cells #[.int .i64 4, .int .i64 0, .int .i64 0, .int .i64 3, .int .i64 4, .int .i64 3, .int .i64 0] 23)) w.heap.size j := by
  intro j hj
  have a1 : ∀ (w : World) (o1 o2 : Obj) (b i : Nat), b < w.heap.size → ((w.alloc o1).alloc o2).cell? ⟨b, i, none⟩ = w.cell? ⟨b, i, none⟩ := fun w o1 o2 b i hb => by rw [World.cell?_alloc_lt _ _ _ (by simp; omega), World.cell?_alloc_lt _ _ _ hb]
  have n1 : ∀ (w : World) (o1 : Obj) (c : Array Value) (t : TypeId) (i : Nat), ((w.alloc o1).alloc (.cells c t)).cell? ⟨w.heap.size + 1, i, none⟩ = c[i]? := fun w o1 c t i => by
    have := World.cell?_alloc_new (w.alloc o1) c t i
    rwa [World.size_alloc] at this
  refine ⟨?_, ?_, ?_, ?_, ?_⟩
  · rw [a1 _ _ _ _ _ (by simp), World.cell?_alloc_new]
    obtain rfl | rfl | rfl | rfl | rfl | rfl | rfl : j = 0 ∨ j = 1 ∨ j = 2 ∨ j = 3 ∨ j = 4 ∨ j = 5 ∨ j = 6 := by omega
    all_goals rfl
  · rw [a1 _ _ _ _ _ (by simp), World.cell?_alloc_new]
    obtain rfl | rfl | rfl | rfl | rfl | rfl | rfl : j = 0 ∨ j = 1 ∨ j = 2 ∨ j = 3 ∨ j = 4 ∨ j = 5 ∨ j = 6 := by omega
    all_goals rfl
  · rw [a1 _ _ _ _ _ (by simp), World.cell?_alloc_new]
    obtain rfl | rfl | rfl | rfl | rfl | rfl | rfl : j = 0 ∨ j = 1 ∨ j = 2 ∨ j = 3 ∨ j = 4 ∨ j = 5 ∨ j = 6 := by omega
    all_goals rfl
  · rw [World.cell?_alloc_lt _ _ _ (by simp), n1]
    obtain rfl | rfl | rfl | rfl | rfl | rfl | rfl : j = 0 ∨ j = 1 ∨ j = 2 ∨ j = 3 ∨ j = 4 ∨ j = 5 ∨ j = 6 := by omega
    all_goals rfl
  · have h2 : w.heap.size + 1 + 1 = (w.alloc (.cells #[.int .u8 1, .int .u8 7, .string ⟨#[77, 0]⟩, .int .u8 3, .int .u8 5, .string ⟨#[128, 0, 0]⟩, .int .u8 0, .int .u8 9, .string ⟨#[]⟩, .int .u8 4, .int .u8 1, .string ⟨#[]⟩, .int .u8 0, .int .u8 0, .string ⟨#[1]⟩, .int .u8 0, .int .u8 32, .string ⟨#[]⟩, .int .u8 3, .int .u8 31, .string ⟨#[]⟩] 27)).heap.size + 1 := by simp
    rw [h2, n1]
    obtain rfl | rfl | rfl | rfl | rfl | rfl | rfl : j = 0 ∨ j = 1 ∨ j = 2 ∨ j = 3 ∨ j = 4 ∨ j = 5 ∨ j = 6 := by omega
    all_goals rfl
theorem round3 (j : Nat) (hj : j < 7) : ∃ (a b : Nat) (SU SW : ByteArray) (c : Int), ((exU j).1 : Int) = (a : Int) ∧ ((exU j).2.1 : Int) = (b : Int) ∧ bs (exU j).2.2 = .string SU ∧ bs (exW j) = .string SW ∧ exR j = c ∧
    (∀ w, Calls Tryd.prog 18 #[.agg #[.int .u8 a, .int .u8 b, .string SU]] w fun e w' => e = .returned (.tuple #[.string SW, .int .i64 c]) ∧ Only [] w w') :=
  ⟨(exU j).1, (exU j).2.1, _, _, _, rfl, rfl, rfl, rfl, rfl, en_yes j hj⟩

set_option maxRecDepth 100000 in
set_option maxHeartbeats 4000000 in
theorem examples_walk (w : World) : Calls Tryd.prog 5 #[] w fun e w' => e = .returned (.bool true) ∧ Only [] w w' := by
  have KN := hid (fun w => known_any w)
  have R1 := hid round1
  have R2 := hid round2
  have R3 := hid round3
  go_enter Tryd.func5, Tryd.ntmps5
  go_wp2_with fail
  have TR : ∀ j, j < 8 → ((w.alloc (.cells #[.string ⟨#[0, 0, 0]⟩, .string ⟨#[0, 0, 1, 0, 0]⟩, .string ⟨#[0, 0, 4]⟩, .string ⟨#[0, 0, 3]⟩, .string ⟨#[0, 0, 0, 0]⟩, .string ⟨#[]⟩, .string ⟨#[0]⟩, .string ⟨#[1, 0, 0]⟩] 9)).alloc (.cells #[.string ⟨#[0, 0, 3, 0]⟩, .string ⟨#[0, 0, 3, 1, 0, 0, 3]⟩, .string ⟨#[0, 0, 4]⟩, .string ⟨#[0, 0, 3, 3]⟩, .string ⟨#[0, 0, 3, 0, 0, 3]⟩, .string ⟨#[]⟩, .string ⟨#[0]⟩, .string ⟨#[1, 0, 0, 3]⟩] 9)).cell? ⟨w.heap.size, j, none⟩ = some (bs (exP j)) ∧
      ((w.alloc (.cells #[.string ⟨#[0, 0, 0]⟩, .string ⟨#[0, 0, 1, 0, 0]⟩, .string ⟨#[0, 0, 4]⟩, .string ⟨#[0, 0, 3]⟩, .string ⟨#[0, 0, 0, 0]⟩, .string ⟨#[]⟩, .string ⟨#[0]⟩, .string ⟨#[1, 0, 0]⟩] 9)).alloc (.cells #[.string ⟨#[0, 0, 3, 0]⟩, .string ⟨#[0, 0, 3, 1, 0, 0, 3]⟩, .string ⟨#[0, 0, 4]⟩, .string ⟨#[0, 0, 3, 3]⟩, .string ⟨#[0, 0, 3, 0, 0, 3]⟩, .string ⟨#[]⟩, .string ⟨#[0]⟩, .string ⟨#[1, 0, 0, 3]⟩] 9)).cell? ⟨w.heap.size + 1, j, none⟩ = some (bs (exE j)) := by
    intro j hj
    constructor
    · rw [World.cell?_alloc_lt _ _ _ (by simp)]
      exact row_p w _ j hj
    · have := row_e (w.alloc (.cells #[.string ⟨#[0, 0, 0]⟩, .string ⟨#[0, 0, 1, 0, 0]⟩, .string ⟨#[0, 0, 4]⟩, .string ⟨#[0, 0, 3]⟩, .string ⟨#[0, 0, 0, 0]⟩, .string ⟨#[]⟩, .string ⟨#[0]⟩, .string ⟨#[1, 0, 0]⟩] 9)) 9 j hj
      rw [World.size_alloc] at this
      exact this
  have ox : Only [] w ((w.alloc (.cells #[.string ⟨#[0, 0, 0]⟩, .string ⟨#[0, 0, 1, 0, 0]⟩, .string ⟨#[0, 0, 4]⟩, .string ⟨#[0, 0, 3]⟩, .string ⟨#[0, 0, 0, 0]⟩, .string ⟨#[]⟩, .string ⟨#[0]⟩, .string ⟨#[1, 0, 0]⟩] 9)).alloc (.cells #[.string ⟨#[0, 0, 3, 0]⟩, .string ⟨#[0, 0, 3, 1, 0, 0, 3]⟩, .string ⟨#[0, 0, 4]⟩, .string ⟨#[0, 0, 3, 3]⟩, .string ⟨#[0, 0, 3, 0, 0, 3]⟩, .string ⟨#[]⟩, .string ⟨#[0]⟩, .string ⟨#[1, 0, 0, 3]⟩] 9)) := ((Only.refl [] w).alloc _).alloc _
  generalize World.alloc (World.alloc w _) _ = wx at TR ox ⊢
  have TR' := hid TR
  have OX := hid ox
  clear TR ox
  obtain ⟨p, hp⟩ : ∃ p, p = w.heap.size := ⟨_, rfl⟩
  rw [← hp] at TR' ⊢
  clear hp
  go_loopg [3] 8 (fun g i wr => ∃ j : Nat, j + g = 8 ∧ i = .int .i64 j ∧ (∀ j, j < 8 → wr.cell? ⟨p, j, none⟩ = some (bs (exP j)) ∧ wr.cell? ⟨p + 1, j, none⟩ = some (bs (exE j))) ∧ Only [] w wr)
  case atStart => exact ⟨0, by omega, rfl, TR'.out, OX.out⟩
  case round =>
    obtain ⟨j, hj, rfl, hT, hO⟩ := hrel
    have T := hid hT
    have O := hid hO
    have J := hid hj
    clear hT hO
    by_cases hg : gk = 0
    · subst hg
      obtain rfl : j = 8 := by omega
      clear hj
      go_wp2_with fail
      have N0 := row_n wr 9
      have o2 := O.out.alloc (.cells #[.string ⟨#[0, 0, 3, 4]⟩, .string ⟨#[0, 0, 1]⟩, .string ⟨#[0, 0]⟩, .string ⟨#[0, 0, 0]⟩, .string ⟨#[0, 0, 2, 1]⟩] 9)
      generalize World.alloc wr _ = w2 at N0 o2 ⊢
      generalize wr.heap.size = q at *
      have N1 := hid N0
      have O2 := hid o2
      clear N0 o2 T O J
      go_loopg [7] 5 (fun g i wr => ∃ j : Nat, j + g = 5 ∧ i = .int .i64 j ∧ (∀ j, j < 5 → wr.cell? ⟨q, j, none⟩ = some (bs (exN j))) ∧ Only [] w wr)
      case atStart => exact ⟨0, by omega, rfl, N1.out, O2.out⟩
      case round =>
        obtain ⟨j, hj, rfl, hT, hO⟩ := hrel
        have T := hid hT
        have O := hid hO
        have J := hid hj
        clear hT hO N1 O2
        by_cases hg : gk = 0
        · subst hg
          obtain rfl : j = 5 := by omega
          clear hj
          go_wp2_with fail
          have N0 := row_u wr
          have o3 := ((O.out.alloc (.cells #[.int .u8 1, .int .u8 7, .string ⟨#[77, 0]⟩, .int .u8 3, .int .u8 5, .string ⟨#[128, 0, 0]⟩, .int .u8 0, .int .u8 9, .string ⟨#[]⟩, .int .u8 4, .int .u8 1, .string ⟨#[]⟩, .int .u8 0, .int .u8 0, .string ⟨#[1]⟩, .int .u8 0, .int .u8 32, .string ⟨#[]⟩, .int .u8 3, .int .u8 31, .string ⟨#[]⟩] 27)).alloc (.cells #[.string ⟨#[]⟩, .string ⟨#[101, 128, 0, 0, 3]⟩, .string ⟨#[9]⟩, .string ⟨#[]⟩, .string ⟨#[]⟩, .string ⟨#[]⟩, .string ⟨#[127]⟩] 9)).alloc (.cells #[.int .i64 4, .int .i64 0, .int .i64 0, .int .i64 3, .int .i64 4, .int .i64 3, .int .i64 0] 23)
          generalize World.alloc (World.alloc (World.alloc wr _) _) _ = w3 at N0 o3 ⊢
          generalize wr.heap.size = v at *
          have N1 := hid N0
          have O3 := hid o3
          clear N0 o3 T O J
          go_loopg [13] 7 (fun g i wr => ∃ j : Nat, j + g = 7 ∧ i = .int .i64 j ∧ (∀ j, j < 7 → Tab wr v j) ∧ Only [] w wr)
          case atStart => exact ⟨0, by omega, rfl, N1.out, O3.out⟩
          case round =>
            obtain ⟨j, hj, rfl, hT, hO⟩ := hrel
            have T := hid hT
            have O := hid hO
            have J := hid hj
            clear hT hO N1 O3
            by_cases hg : gk = 0
            · subst hg
              obtain rfl : j = 7 := by omega
              clear hj
              have D1 := hid (fun w => de_lit [] 0 0 [] 5 w (by decide +kernel) (by decide))
              have D2 := hid (fun w => de_lit [229] 0 0 [] 4 w (by decide +kernel) (by decide))
              have D3 := hid (fun w => de_lit [0, 1] 0 0 [] 4 w (by decide +kernel) (by decide))
              have D4 := hid (fun w => de_lit [39, 77] 1 7 [77] 0 w (by decide +kernel) (by decide))
              go_wp2_with fail
              refine (D1.out _).mono ?_
              rintro e x1 ⟨rfl, h1⟩
              have X1 := hid (O.out.trans h1)
              clear h1
              go_wp2_with fail
              refine (D2.out _).mono ?_
              rintro e x2 ⟨rfl, h2⟩
              have X2 := hid ((X1.out.alloc _).trans h2)
              clear h2
              go_wp2_with fail
              refine (D3.out _).mono ?_
              rintro e x3 ⟨rfl, h3⟩
              have X3 := hid ((X2.out.alloc _).trans h3)
              clear h3
              go_wp2_with fail
              refine (D4.out _).mono ?_
              rintro e x4 ⟨rfl, h4⟩
              have X4 := hid ((X3.out.alloc _).trans h4)
              clear h4
              go_wp2_with fail
              refine (KN.out _).mono ?_
              rintro e x5 ⟨rfl, h5⟩
              go_wp2_with fail
              go_ret
              exact ⟨rfl, (X4.out.alloc _).trans h5⟩
            · have i1 : (j : Int) < 7 := by omega
              have i0 : (0 : Int) ≤ (j : Int) := by omega
              have hj7 : j < 7 := by omega
              obtain ⟨a, b, SU, SW, c, e1, e2, e3, e4, e5, CU⟩ := R3.out j hj7
              obtain ⟨t0, t1, t2, t3, t4⟩ := T.out j hj7
              rw [e1] at t0
              rw [e2] at t1
              rw [e3] at t2
              rw [e4] at t3
              rw [e5] at t4
              have CU := hid CU
              clear hj e1 e2 e3 e4 e5
              go_wp2_with (go_at_call 18; refine (CU.out _).mono ?_; rintro e w4 ⟨rfl, ho4⟩; have s3 := ho4.cell t3 (by simp); have s4 := ho4.cell t4 (by simp); have O4 := hid ho4; clear ho4)
              go_roundg (gk - 1)
              case measure => omega
              case rel => exact ⟨j + 1, by have := J.out; omega, by go_num, fun i hi => (T.out i hi).only O4.out, O.out.trans O4.out⟩
        · have i1 : (j : Int) < 5 := by omega
          have i0 : (0 : Int) ≤ (j : Int) := by omega
          have hj5 : j < 5 := by omega
          obtain ⟨SN, e1, CU⟩ := R2.out j hj5
          have t1 := T.out j hj5
          rw [e1] at t1
          have CU := hid CU
          clear hj e1
          go_wp2_with (go_at_call 12; refine (CU.out _).mono ?_; rintro e w4 ⟨rfl, ho4⟩; have O4 := hid ho4; clear ho4)
          go_roundg (gk - 1)
          case measure => omega
          case rel => exact ⟨j + 1, by have := J.out; omega, by go_num, fun i hi => O4.out.cell (T.out i hi) (by simp), O.out.trans O4.out⟩
    · have i1 : (j : Int) < 8 := by omega
      have i0 : (0 : Int) ≤ (j : Int) := by omega
      have hj8 : j < 8 := by omega
      obtain ⟨SP, SE, e1, e2, CU, CE⟩ := R1.out j hj8
      obtain ⟨t1, t2⟩ := T.out j hj8
      rw [e1] at t1
      rw [e2] at t2
      have CU := hid CU
      have CE := hid CE
      clear hj e1 e2
      go_wp2_with (go_at_call 12; refine (CU.out _).mono ?_; rintro e w4 ⟨rfl, ho4⟩; have s1 := ho4.cell t1 (by simp); have s2 := ho4.cell t2 (by simp); have O4 := hid ho4; clear ho4)
      have c0 : ∀ x : OnlyOf w4, x.at.cell? ⟨p, j, none⟩ = some (.string SP) := fun x => x.only.cell s1 (by simp)
      have c1 : ∀ x : OnlyOf w4, x.at.cell? ⟨p + 1, j, none⟩ = some (.string SE) := fun x => x.only.cell s2 (by simp)
      refine wp_region_only (by kernel_rfl) (by kernel_rfl) ?_
      repeat (go_big_quiet_step ((go_at_call 16; with_reducible exact Calls.only_of (CE.out _))))
      refine wpQuiet_nil ?_
      rintro _ ⟨y8, rfl⟩
      have O8 := hid y8.only
      generalize y8.at = w8 at O8 ⊢
      clear c0 c1 s1 s2 t1 t2
      go_wp2_with fail
      go_roundg (gk - 1)
      case measure => omega
      case rel => exact ⟨j + 1, by have := J.out; omega, by go_num, fun i hi => ⟨(O4.out.trans O8.out).cell (T.out i hi).1 (by simp), (O4.out.trans O8.out).cell (T.out i hi).2 (by simp)⟩, (O.out.trans O4.out).trans O8.out⟩
theorem nalExamples_core (W : World) (base : Nat) : Calls Tryd.prog 5 #[] W fun e w' => e = .returned (.bool true) ∧ Below W.heap.size W w' :=
  (examples_walk W).mono fun e w' ⟨he, ho⟩ => ⟨he, ho.below (Nat.le_refl _) (by simp)⟩
end Go.Proofs.YtghdnefaempigaaDoor

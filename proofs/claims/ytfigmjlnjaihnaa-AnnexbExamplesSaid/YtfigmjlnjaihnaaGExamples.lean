/- AnnexbExamples' walk. -/
import Derived.Test.YtfigmjlnjaihnaaKnown4
import Derived.Test.YtfigmjlnjaihnaaPart
import Derived.Deep.LoopGhost
import Derived.ProofKit
namespace Go.Proofs.Ytfigmjlnjaihnaa
open Go.RowKit
set_option linter.unusedVariables false

/- The chapter's examples. -/
def exS : Nat → List UInt8
  | 0 => [0, 0, 1, 9] | 1 => [0, 0, 0, 0, 1, 9, 0, 0] | 2 => [0, 0, 1, 9, 0, 0, 1, 39, 77] | 3 => [0, 0, 1, 9, 0, 0, 0, 1, 39, 77] | 4 => [0, 0, 1, 9, 0, 5] | 5 => [] | 6 => [0] | _ => [0, 0, 0]
def exU : Nat → List (List UInt8)
  | 0 => [[9]] | 1 => [[9]] | 2 => [[9], [39, 77]] | 3 => [[9], [39, 77]] | 4 => [[9, 0, 5]] | _ => []
def exN : Nat → List UInt8
  | 0 => [9] | 1 => [0, 1, 9] | 2 => [0, 0, 1] | 3 => [0, 0, 1, 0, 0, 1, 9] | 4 => [0, 0, 1, 9, 0, 0, 2] | 5 => [0, 0, 2, 9] | _ => [0, 0, 1, 0]
theorem ex_yes : ∀ j, j < 8 → splitR (strOf (exS j)) = ((exU j).map strOf, 0) ∧ (strOf (exS j)).size ≤ 10 ∧ (exU j).length ≤ 2 := by decide +kernel
theorem ex_no : ∀ j, j < 7 → splitR (strOf (exN j)) = ([], 4) ∧ (strOf (exN j)).size ≤ 10 := by decide +kernel
theorem ex_j1 : joinR [⟨#[9]⟩, ⟨#[39, 77]⟩, ⟨#[9]⟩] = (⟨#[0, 0, 0, 1, 9, 0, 0, 0, 1, 39, 77, 0, 0, 1, 9]⟩, 0) := by decide +kernel
theorem ex_j2 : joinR [⟨#[9, 0]⟩] = (⟨#[]⟩, 4) := by decide +kernel
theorem ex_j3 : joinR [⟨#[9]⟩, ⟨#[]⟩] = (⟨#[]⟩, 4) := by decide +kernel
theorem ex_j4 : joinR [⟨#[9, 0, 0, 3]⟩] = (⟨#[0, 0, 0, 1, 9, 0, 0, 3]⟩, 0) := by decide +kernel
theorem ex_j5 : joinR [] = (⟨#[]⟩, 0) := by decide +kernel
/-- The table of streams, and of their units. -/
def Tab (p : Nat) (w : World) : Prop := ∀ j, j < 8 → w.cell? ⟨p, j, none⟩ = some (.string (strOf (exS j))) ∧ ∃ sv, w.cell? ⟨p + 1 + 1 + 1 + 1 + 1 + 1, j, none⟩ = some sv ∧ Holds w sv ((exU j).map strOf)
theorem Tab.only {p : Nat} {w w' : World} (h : Tab p w) (o : Only [] w w') : Tab p w' := fun j hj => by
  obtain ⟨a, sv, b, c⟩ := h j hj
  exact ⟨o.cell a (by simp), sv, o.cell b (by simp), c.only o (by simp)⟩
theorem tab_any (w : World) : Tab w.heap.size (((((((w.alloc (.cells #[.string ⟨#[0, 0, 1, 9]⟩, .string ⟨#[0, 0, 0, 0, 1, 9, 0, 0]⟩, .string ⟨#[0, 0, 1, 9, 0, 0, 1, 39, 77]⟩, .string ⟨#[0, 0, 1, 9, 0, 0, 0, 1, 39, 77]⟩, .string ⟨#[0, 0, 1, 9, 0, 5]⟩, .string ⟨#[]⟩, .string ⟨#[0]⟩, .string ⟨#[0, 0, 0]⟩] 9)).alloc (.cells #[.string ⟨#[9]⟩] 9)).alloc (.cells #[.string ⟨#[9]⟩] 9)).alloc (.cells #[.string ⟨#[9]⟩, .string ⟨#[39, 77]⟩] 9)).alloc (.cells #[.string ⟨#[9]⟩, .string ⟨#[39, 77]⟩] 9)).alloc (.cells #[.string ⟨#[9, 0, 5]⟩] 9)).alloc (.cells #[.slice (some ⟨w.heap.size + 1, 0, none⟩) 1 1, .slice (some ⟨w.heap.size + 1 + 1, 0, none⟩) 1 1, .slice (some ⟨w.heap.size + 1 + 1 + 1, 0, none⟩) 2 2, .slice (some ⟨w.heap.size + 1 + 1 + 1 + 1, 0, none⟩) 2 2, .slice (some ⟨w.heap.size + 1 + 1 + 1 + 1 + 1, 0, none⟩) 1 1, .slice none 0 0, .slice none 0 0, .slice none 0 0] 23)) ∧ Only [] w (((((((w.alloc (.cells #[.string ⟨#[0, 0, 1, 9]⟩, .string ⟨#[0, 0, 0, 0, 1, 9, 0, 0]⟩, .string ⟨#[0, 0, 1, 9, 0, 0, 1, 39, 77]⟩, .string ⟨#[0, 0, 1, 9, 0, 0, 0, 1, 39, 77]⟩, .string ⟨#[0, 0, 1, 9, 0, 5]⟩, .string ⟨#[]⟩, .string ⟨#[0]⟩, .string ⟨#[0, 0, 0]⟩] 9)).alloc (.cells #[.string ⟨#[9]⟩] 9)).alloc (.cells #[.string ⟨#[9]⟩] 9)).alloc (.cells #[.string ⟨#[9]⟩, .string ⟨#[39, 77]⟩] 9)).alloc (.cells #[.string ⟨#[9]⟩, .string ⟨#[39, 77]⟩] 9)).alloc (.cells #[.string ⟨#[9, 0, 5]⟩] 9)).alloc (.cells #[.slice (some ⟨w.heap.size + 1, 0, none⟩) 1 1, .slice (some ⟨w.heap.size + 1 + 1, 0, none⟩) 1 1, .slice (some ⟨w.heap.size + 1 + 1 + 1, 0, none⟩) 2 2, .slice (some ⟨w.heap.size + 1 + 1 + 1 + 1, 0, none⟩) 2 2, .slice (some ⟨w.heap.size + 1 + 1 + 1 + 1 + 1, 0, none⟩) 1 1, .slice none 0 0, .slice none 0 0, .slice none 0 0] 23)) := by
  obtain ⟨w1, e1⟩ : ∃ w1, w1 = w.alloc (.cells #[.string ⟨#[0, 0, 1, 9]⟩, .string ⟨#[0, 0, 0, 0, 1, 9, 0, 0]⟩, .string ⟨#[0, 0, 1, 9, 0, 0, 1, 39, 77]⟩, .string ⟨#[0, 0, 1, 9, 0, 0, 0, 1, 39, 77]⟩, .string ⟨#[0, 0, 1, 9, 0, 5]⟩, .string ⟨#[]⟩, .string ⟨#[0]⟩, .string ⟨#[0, 0, 0]⟩] 9) := ⟨_, rfl⟩
  rw [← e1]
  have s1 : w1.heap.size = w.heap.size + 1 := by rw [e1, World.size_alloc]
  obtain ⟨w2, e2⟩ : ∃ w2, w2 = w1.alloc (.cells #[.string ⟨#[9]⟩] 9) := ⟨_, rfl⟩
  rw [← e2]
  have s2 : w2.heap.size = w.heap.size + 1 + 1 := by rw [e2, World.size_alloc, s1]
  obtain ⟨w3, e3⟩ : ∃ w3, w3 = w2.alloc (.cells #[.string ⟨#[9]⟩] 9) := ⟨_, rfl⟩
  rw [← e3]
  have s3 : w3.heap.size = w.heap.size + 1 + 1 + 1 := by rw [e3, World.size_alloc, s2]
  obtain ⟨w4, e4⟩ : ∃ w4, w4 = w3.alloc (.cells #[.string ⟨#[9]⟩, .string ⟨#[39, 77]⟩] 9) := ⟨_, rfl⟩
  rw [← e4]
  have s4 : w4.heap.size = w.heap.size + 1 + 1 + 1 + 1 := by rw [e4, World.size_alloc, s3]
  obtain ⟨w5, e5⟩ : ∃ w5, w5 = w4.alloc (.cells #[.string ⟨#[9]⟩, .string ⟨#[39, 77]⟩] 9) := ⟨_, rfl⟩
  rw [← e5]
  have s5 : w5.heap.size = w.heap.size + 1 + 1 + 1 + 1 + 1 := by rw [e5, World.size_alloc, s4]
  obtain ⟨w6, e6⟩ : ∃ w6, w6 = w5.alloc (.cells #[.string ⟨#[9, 0, 5]⟩] 9) := ⟨_, rfl⟩
  rw [← e6]
  have s6 : w6.heap.size = w.heap.size + 1 + 1 + 1 + 1 + 1 + 1 := by rw [e6, World.size_alloc, s5]
  obtain ⟨w7, e7⟩ : ∃ w7, w7 = w6.alloc (.cells #[.slice (some ⟨w.heap.size + 1, 0, none⟩) 1 1, .slice (some ⟨w.heap.size + 1 + 1, 0, none⟩) 1 1, .slice (some ⟨w.heap.size + 1 + 1 + 1, 0, none⟩) 2 2, .slice (some ⟨w.heap.size + 1 + 1 + 1 + 1, 0, none⟩) 2 2, .slice (some ⟨w.heap.size + 1 + 1 + 1 + 1 + 1, 0, none⟩) 1 1, .slice none 0 0, .slice none 0 0, .slice none 0 0] 23) := ⟨_, rfl⟩
  rw [← e7]
  have s7 : w7.heap.size = w.heap.size + 1 + 1 + 1 + 1 + 1 + 1 + 1 := by rw [e7, World.size_alloc, s6]
  have o7 : Only [] w7 w7 := Only.refl _ _
  have q7 : Only [] (w6.alloc (.cells #[.slice (some ⟨w.heap.size + 1, 0, none⟩) 1 1, .slice (some ⟨w.heap.size + 1 + 1, 0, none⟩) 1 1, .slice (some ⟨w.heap.size + 1 + 1 + 1, 0, none⟩) 2 2, .slice (some ⟨w.heap.size + 1 + 1 + 1 + 1, 0, none⟩) 2 2, .slice (some ⟨w.heap.size + 1 + 1 + 1 + 1 + 1, 0, none⟩) 1 1, .slice none 0 0, .slice none 0 0, .slice none 0 0] 23)) w7 := by rw [← e7]; exact o7
  have o6 : Only [] w6 w7 := ((Only.refl [] w6).alloc _).trans q7
  have q6 : Only [] (w5.alloc (.cells #[.string ⟨#[9, 0, 5]⟩] 9)) w7 := by rw [← e6]; exact o6
  have o5 : Only [] w5 w7 := ((Only.refl [] w5).alloc _).trans q6
  have q5 : Only [] (w4.alloc (.cells #[.string ⟨#[9]⟩, .string ⟨#[39, 77]⟩] 9)) w7 := by rw [← e5]; exact o5
  have o4 : Only [] w4 w7 := ((Only.refl [] w4).alloc _).trans q5
  have q4 : Only [] (w3.alloc (.cells #[.string ⟨#[9]⟩, .string ⟨#[39, 77]⟩] 9)) w7 := by rw [← e4]; exact o4
  have o3 : Only [] w3 w7 := ((Only.refl [] w3).alloc _).trans q4
  have q3 : Only [] (w2.alloc (.cells #[.string ⟨#[9]⟩] 9)) w7 := by rw [← e3]; exact o3
  have o2 : Only [] w2 w7 := ((Only.refl [] w2).alloc _).trans q3
  have q2 : Only [] (w1.alloc (.cells #[.string ⟨#[9]⟩] 9)) w7 := by rw [← e2]; exact o2
  have o1 : Only [] w1 w7 := ((Only.refl [] w1).alloc _).trans q2
  have q1 : Only [] (w.alloc (.cells #[.string ⟨#[0, 0, 1, 9]⟩, .string ⟨#[0, 0, 0, 0, 1, 9, 0, 0]⟩, .string ⟨#[0, 0, 1, 9, 0, 0, 1, 39, 77]⟩, .string ⟨#[0, 0, 1, 9, 0, 0, 0, 1, 39, 77]⟩, .string ⟨#[0, 0, 1, 9, 0, 5]⟩, .string ⟨#[]⟩, .string ⟨#[0]⟩, .string ⟨#[0, 0, 0]⟩] 9)) w7 := by rw [← e1]; exact o1
  refine ⟨fun j hj => ?_, ?_⟩
  · obtain rfl | rfl | rfl | rfl | rfl | rfl | rfl | rfl : j = 0 ∨ j = 1 ∨ j = 2 ∨ j = 3 ∨ j = 4 ∨ j = 5 ∨ j = 6 ∨ j = 7 := by omega
    · exact ⟨alloc_cell w _ _ w7 q1 _ 0 rfl _ rfl, _, alloc_cell w6 _ _ w7 q7 _ 0 s6.symm _ rfl, holds_new w1 [⟨#[9]⟩] w7 q2 _ s1.symm⟩
    · exact ⟨alloc_cell w _ _ w7 q1 _ 1 rfl _ rfl, _, alloc_cell w6 _ _ w7 q7 _ 1 s6.symm _ rfl, holds_new w2 [⟨#[9]⟩] w7 q3 _ s2.symm⟩
    · exact ⟨alloc_cell w _ _ w7 q1 _ 2 rfl _ rfl, _, alloc_cell w6 _ _ w7 q7 _ 2 s6.symm _ rfl, holds_new w3 [⟨#[9]⟩, ⟨#[39, 77]⟩] w7 q4 _ s3.symm⟩
    · exact ⟨alloc_cell w _ _ w7 q1 _ 3 rfl _ rfl, _, alloc_cell w6 _ _ w7 q7 _ 3 s6.symm _ rfl, holds_new w4 [⟨#[9]⟩, ⟨#[39, 77]⟩] w7 q5 _ s4.symm⟩
    · exact ⟨alloc_cell w _ _ w7 q1 _ 4 rfl _ rfl, _, alloc_cell w6 _ _ w7 q7 _ 4 s6.symm _ rfl, holds_new w5 [⟨#[9, 0, 5]⟩] w7 q6 _ s5.symm⟩
    · exact ⟨alloc_cell w _ _ w7 q1 _ 5 rfl _ rfl, _, alloc_cell w6 _ _ w7 q7 _ 5 s6.symm _ rfl, holds_none _⟩
    · exact ⟨alloc_cell w _ _ w7 q1 _ 6 rfl _ rfl, _, alloc_cell w6 _ _ w7 q7 _ 6 s6.symm _ rfl, holds_none _⟩
    · exact ⟨alloc_cell w _ _ w7 q1 _ 7 rfl _ rfl, _, alloc_cell w6 _ _ w7 q7 _ 7 s6.symm _ rfl, holds_none _⟩
  · exact ((Only.refl [] w).alloc _).trans q1
/-- The table of strings that are no streams. -/
def TabN (q : Nat) (w : World) : Prop := ∀ j, j < 7 → w.cell? ⟨q, j, none⟩ = some (.string (strOf (exN j)))
theorem TabN.only {q : Nat} {w w' : World} (h : TabN q w) (o : Only [] w w') : TabN q w' := fun j hj => o.cell (h j hj) (by simp)
theorem tabN_any (w : World) : TabN w.heap.size (w.alloc (.cells #[.string ⟨#[9]⟩, .string ⟨#[0, 1, 9]⟩, .string ⟨#[0, 0, 1]⟩, .string ⟨#[0, 0, 1, 0, 0, 1, 9]⟩, .string ⟨#[0, 0, 1, 9, 0, 0, 2]⟩, .string ⟨#[0, 0, 2, 9]⟩, .string ⟨#[0, 0, 1, 0]⟩] 9)) := fun j hj => by
  rw [World.cell?_alloc_new]
  obtain rfl | rfl | rfl | rfl | rfl | rfl | rfl : j = 0 ∨ j = 1 ∨ j = 2 ∨ j = 3 ∨ j = 4 ∨ j = 5 ∨ j = 6 := by omega
  all_goals rfl
/-- One unit, many times. -/
def manyU (n : Nat) : List ByteArray := List.replicate n ⟨#[9]⟩
theorem many_mem {n : Nat} {u : ByteArray} (h : u ∈ manyU n) : u = ⟨#[9]⟩ := (List.mem_replicate.1 h).2
theorem many_may (n : Nat) : mayAll (manyU n) = true := List.all_eq_true.2 fun u hu => by rw [many_mem hu]; decide
theorem many_len (n : Nat) : (manyU n).length = n := List.length_replicate
theorem many_bare (n : Nat) : (joinF true (manyU n)).length ≤ 5 * n := by
  have h1 := bare_le (manyU n) 1 (fun u hu => by rw [many_mem hu]; decide)
  have h2 := join_len (manyU n) true
  rw [many_len] at h1 h2
  omega
theorem many_snoc (n : Nat) : manyU n ++ [⟨#[9]⟩] = manyU (n + 1) := (List.replicate_succ' ..).symm
theorem many_drop (n : Nat) : (manyU (n + 1)).drop 1 = manyU n := by unfold manyU; rw [List.drop_replicate]; rfl
theorem join_many (n : Nat) (h : 4096 < n) : joinR (manyU n) = (⟨#[]⟩, 6) := by
  unfold joinR
  rw [if_pos (by rw [many_len]; exact h)]
theorem split_more (n : Nat) (h1 : 4096 < n + 1) (h2 : n ≤ 10000) : splitR (strOf (joinF true (manyU n)) ++ (⟨#[0, 0, 1, 9]⟩ : ByteArray)) = ([], 6) := by
  have hs : Stream (datas (manyU (n + 1))) (strOf (joinF true (manyU n)) ++ (⟨#[0, 0, 1, 9]⟩ : ByteArray)).data.toList := by
    have := stream_append (datas (manyU n)) (datas [⟨#[9]⟩]) [0, 0, 1, 9] ⟨0, [], by simp [zerosL], ⟨0, rfl⟩⟩ _ (stream_join (manyU n) true)
    rw [← many_snoc]
    simpa [datas, strOf] using this
  have hz : (strOf (joinF true (manyU n)) ++ (⟨#[0, 0, 1, 9]⟩ : ByteArray)).size ≤ 100000 := by
    have := many_bare n
    rw [ByteArray.size_append, strOf_size, show (⟨#[0, 0, 1, 9]⟩ : ByteArray).size = 4 from rfl]
    omega
  rw [splitR_some (by omega) (manyU (n + 1)) ((parse_spec _ _).2 ⟨mayAll_mem (many_may (n + 1)), hs⟩), if_pos (by rw [many_len]; exact h1)]
/-- Contracts at bytes written out. -/
theorem sp_yes (j : Nat) (hj : j < 8) (w : World) (hM : MaxL w) : Calls Try.prog 12 #[.string (strOf (exS j))] w fun e w' => ∃ sv, e = .returned (.tuple #[sv, .int .i64 0]) ∧ Holds w' sv ((exU j).map strOf) ∧ Only [] w w' := by
  obtain ⟨h1, h2, _⟩ := ex_yes j hj
  have := split_any (strOf (exS j)) w hM (by omega)
  rw [h1] at this
  exact this
theorem sp_no (j : Nat) (hj : j < 7) (w : World) (hM : MaxL w) : Calls Try.prog 12 #[.string (strOf (exN j))] w fun e w' => ∃ a c, e = .returned (.tuple #[.slice a 0 c, .int .i64 4]) ∧ Only [] w w' := by
  obtain ⟨h1, h2⟩ := ex_no j hj
  have := split_any (strOf (exN j)) w hM (by omega)
  rw [h1] at this
  exact this.mono fun e w' ⟨sv, he, hh, ho⟩ => by
    obtain ⟨a, c, rfl, _⟩ := hh
    exact ⟨a, c, he, ho⟩
theorem jo_lit (v : Value) (us : List ByteArray) (r : ByteArray) (k : Int) (w : World) (hM : MaxL w) (hv : Holds w v us) (hr : joinR us = (r, k)) (hl : us.length ≤ 5) (hs : ∀ u, u ∈ us → u.size ≤ 5) :
    Calls Try.prog 16 #[v] w fun e w' => e = .returned (.tuple #[.string r, .int .i64 k]) ∧ Only [] w w' := by
  have := join_any v us w hM hv (by omega) (fun j u hj => by have := hs u (List.mem_of_getElem? hj); omega)
  rw [hr] at this
  exact this
set_option maxRecDepth 100000 in
set_option maxHeartbeats 8000000 in
theorem examples_walk (w : World) (hM : MaxL w) : Calls Try.prog 5 #[] w fun e w' => e = .returned (.bool true) ∧ Only [] w w' := by
  have KN := hid (fun v (o : Only [] w v) => known_any v (hM.only0 o))
  have ML := hid (fun v (o : Only [] w v) => hM.only0 o)
  obtain ⟨ht, ho⟩ := tab_any w
  go_enter Try.func5, Try.ntmps5
  have HT := hid ht
  have HO := hid ho
  clear ht ho
  go_wp2_with fail
  have ht := HT.out
  have ho := HO.out
  clear HT HO
  generalize World.alloc (World.alloc (World.alloc (World.alloc (World.alloc (World.alloc (World.alloc w _) _) _) _) _) _) _ = wx at ht ho ⊢
  have T0 := hid ht
  have OX := hid ho
  clear ht ho
  obtain ⟨p, hp⟩ : ∃ p, p = w.heap.size := ⟨_, rfl⟩
  rw [← hp] at T0 ⊢
  clear hp
  go_loopg [3] 8 (fun g i wr => ∃ j : Nat, j + g = 8 ∧ i = .int .i64 j ∧ Tab p wr ∧ Only [] w wr)
  case atStart => exact ⟨0, by omega, rfl, T0.out, OX.out⟩
  case round =>
    obtain ⟨j, hj, rfl, hT, hO⟩ := hrel
    have T := hid hT
    have O := hid hO
    have J := hid hj
    clear hT hO
    by_cases hg : gk = 0
    · subst hg
      obtain rfl : j = 8 := by omega
      clear hj T
      go_wp2_with fail
      have N0 := tabN_any wr
      have o2 := O.out.alloc (.cells #[.string ⟨#[9]⟩, .string ⟨#[0, 1, 9]⟩, .string ⟨#[0, 0, 1]⟩, .string ⟨#[0, 0, 1, 0, 0, 1, 9]⟩, .string ⟨#[0, 0, 1, 9, 0, 0, 2]⟩, .string ⟨#[0, 0, 2, 9]⟩, .string ⟨#[0, 0, 1, 0]⟩] 9)
      generalize World.alloc wr _ = w2 at N0 o2 ⊢
      generalize wr.heap.size = q at *
      have N1 := hid N0
      have O2 := hid o2
      clear N0 o2 O J
      go_loopg [7] 7 (fun g i wr => ∃ j : Nat, j + g = 7 ∧ i = .int .i64 j ∧ TabN q wr ∧ Only [] w wr)
      case atStart => exact ⟨0, by omega, rfl, N1.out, O2.out⟩
      case round =>
        obtain ⟨j, hj, rfl, hT, hO⟩ := hrel
        have T := hid hT
        have O := hid hO
        have J := hid hj
        clear hT hO N1 O2
        by_cases hg : gk = 0
        · subst hg
          obtain rfl : j = 7 := by omega
          clear hj T J
          go_wp2_with fail
          refine (jo_lit _ [⟨#[9]⟩, ⟨#[39, 77]⟩, ⟨#[9]⟩] _ _ _ (ML.out _ (O.out.alloc _)) (holds_lit wr [⟨#[9]⟩, ⟨#[39, 77]⟩, ⟨#[9]⟩]) ex_j1 (by simp) (by decide)).mono ?_
          rintro e w3 ⟨rfl, h⟩
          have O3 := hid ((O.out.alloc _).trans h)
          clear h
          go_wp2_with fail
          refine (jo_lit _ [⟨#[9, 0]⟩] _ _ _ (ML.out _ (O3.out.alloc _)) (holds_lit w3 [⟨#[9, 0]⟩]) ex_j2 (by simp) (by decide)).mono ?_
          rintro e w4 ⟨rfl, h⟩
          have O4 := hid ((O3.out.alloc _).trans h)
          clear h
          go_wp2_with fail
          refine (jo_lit _ [⟨#[9]⟩, ⟨#[]⟩] _ _ _ (ML.out _ (O4.out.alloc _)) (holds_lit w4 [⟨#[9]⟩, ⟨#[]⟩]) ex_j3 (by simp) (by decide)).mono ?_
          rintro e w5 ⟨rfl, h⟩
          have O5 := hid ((O4.out.alloc _).trans h)
          clear h
          go_wp2_with fail
          refine (jo_lit _ [⟨#[9, 0, 0, 3]⟩] _ _ _ (ML.out _ (O5.out.alloc _)) (holds_lit w5 [⟨#[9, 0, 0, 3]⟩]) ex_j4 (by simp) (by decide)).mono ?_
          rintro e w6 ⟨rfl, h⟩
          have O6 := hid ((O5.out.alloc _).trans h)
          clear h
          go_wp2_with fail
          refine (jo_lit _ [] _ _ _ (ML.out _ O6.out) (holds_none w6) ex_j5 (by simp) (by simp)).mono ?_
          rintro e w7 ⟨rfl, h⟩
          have O7 := hid (O6.out.trans h)
          clear h
          go_wp2_with fail
          obtain ⟨m, hm⟩ : ∃ m : Nat, m = 4096 := ⟨_, rfl⟩
          obtain ⟨M, hMm⟩ : ∃ M : Nat, M = m + 1 := ⟨_, rfl⟩
          have m1 : (m : Int) = 4096 := by omega
          have M1 : (M : Int) = 4097 := by omega
          have mn : M ≤ 5000 := by omega
          have MN := hid mn
          have JA := hid (join_of (manyU m) (many_may m) (by have := many_bare m; omega) (by rw [many_len]; omega))
          have JB := hid (join_many M (by omega))
          have BA := hid (back_of (manyU m) (many_may m) (by have := many_bare m; omega) (by rw [many_len]; omega))
          have SM := hid (split_more m (by omega) (by omega))
          have sz : (strOf (joinF true (manyU m))).size ≤ 100000 := by have := many_bare m; rw [strOf_size]; omega
          have SZ := hid sz
          have MD := hid (many_drop m)
          rw [← hMm] at MD
          have LM := hid (many_len m)
          have LB := hid (many_len M)
          have M1 := hid M1
          have m1 := hid m1
          have Mm := hid hMm
          clear hm hMm mn sz
          go_loopg [20, 21] M (fun g sv t wr => ∃ j : Nat, j + g = M ∧ t = .int .i64 j ∧ RowS wr sv (manyU j) ∧ (∀ g, g ∈ ownOf sv → w.heap.size ≤ g) ∧ Only [] w wr)
          case atStart => exact ⟨0, by omega, rfl, ⟨rfl, .inl ⟨rfl, rfl⟩⟩, by simp [ownOf, Value.ownBlock], O7.out⟩
          case round =>
            obtain ⟨j, hj, rfl, hR, hF, hO⟩ := hrel
            have R := hid hR
            have F := hid hF
            have O := hid hO
            have J := hid hj
            have jb : (j : Int) ≤ 5000 := by have := MN.out; omega
            have j0 : (0 : Int) ≤ (j : Int) := by omega
            by_cases hg : gk = 0
            · have jm : ¬ (j : Int) ≤ 4096 := by have := M1.out; omega
              obtain rfl : j = M := by omega
              obtain ⟨a, c, rfl, hc⟩ := hR.form
              have P2 := holds_part2 hR.holds 1 (by rw [LB.out]; have := M1.out; omega) hc
              rw [MD.out] at P2
              have nl := LB.out
              obtain ⟨n, hn⟩ : ∃ n, n = (manyU j).length := ⟨_, rfl⟩
              have P0 := hR.holds
              rw [← hn] at P2 P0 hc nl ⊢
              have c1 : ¬ c = 1 := by have := M1.out; omega
              rw [if_neg c1] at P2
              have n1 : (1 : Int) ≤ (n : Int) := by have := M1.out; omega
              have n2 : (n : Int) ≤ (c : Int) := by omega
              have n3 : 1 ≤ n := by omega
              have P2 := hid P2
              have P0 := hid P0
              clear hj hg hR hF hO nl hn
              go_wp2_with fail
              refine (join_any _ (manyU m) _ (ML.out _ O.out) P2.out (by rw [LM.out]; have := m1.out; omega) (fun j u hj => by rw [many_mem (List.mem_of_getElem? hj)]; decide)).mono ?_
              rw [JA.out]
              rintro e w8 ⟨rfl, h⟩
              have O8 := hid (O.out.trans h)
              have P8 := hid (P0.out.only h (by simp))
              clear h
              go_wp2_with fail
              refine (join_any _ (manyU j) _ (ML.out _ O8.out) P8.out (by rw [LB.out]; have := M1.out; omega) (fun j u hj => by rw [many_mem (List.mem_of_getElem? hj)]; decide)).mono ?_
              rw [JB.out]
              rintro e w9 ⟨rfl, h⟩
              have O9 := hid (O8.out.trans h)
              clear h
              go_wp2_with fail
              refine (split_any _ _ (ML.out _ O9.out) (by have := SZ.out; omega)).mono ?_
              rw [BA.out]
              rintro e w10 ⟨sv, rfl, hh, h⟩
              obtain ⟨a2, c2, rfl, _⟩ := hh
              have O10 := hid (O9.out.trans h)
              rw [LM.out]
              have s1 := SZ.out
              have s0 : (strOf (joinF true (manyU m))).size + (⟨#[0, 0, 1, 9]⟩ : ByteArray).size ≤ 9223372036854775807 := by rw [show (⟨#[0, 0, 1, 9]⟩ : ByteArray).size = 4 from rfl]; omega
              have s2 : ((strOf (joinF true (manyU m))).size : Int) + 4 ≤ 9223372036854775807 := by omega
              have s3 : (strOf (joinF true (manyU m)) ++ (⟨#[0, 0, 1, 9]⟩ : ByteArray)).size ≤ 100000000 := by rw [ByteArray.size_append, show (⟨#[0, 0, 1, 9]⟩ : ByteArray).size = 4 from rfl]; omega
              have S3 := hid s3
              clear h s3
              go_wp2_with fail
              refine (split_any _ _ (ML.out _ O10.out) S3.out).mono ?_
              rw [SM.out]
              rintro e w11 ⟨sv, rfl, hh, h⟩
              have O11 := hid (O10.out.trans h)
              have mm := m1.out
              clear h hh s0 s1 s2
              have L1 := hid (fun v => long_any 7 false v (by omega) (by omega))
              have L2 := hid (fun v => long_any 1 true v (by omega) (by omega))
              have L3 := hid (fun v => long_any 1 false v (by omega) (by omega))
              have L4 := hid (fun v => long_any 39 false v (by omega) (by omega))
              rw [show longB 7 false = true from rfl] at L1
              rw [show longB 1 true = true from rfl] at L2
              rw [show longB 1 false = false from rfl] at L3
              rw [show longB 39 false = false from rfl] at L4
              go_wp2_with fail
              refine (L1.out _).mono ?_
              rintro e w' ⟨rfl, rfl⟩
              go_wp2_with fail
              refine (L2.out _).mono ?_
              rintro e w' ⟨rfl, rfl⟩
              go_wp2_with fail
              refine (L3.out _).mono ?_
              rintro e w' ⟨rfl, rfl⟩
              go_wp2_with fail
              refine (L4.out _).mono ?_
              rintro e w' ⟨rfl, rfl⟩
              go_wp2_with fail
              refine (KN.out _ O11.out).mono ?_
              rintro e w12 ⟨rfl, h⟩
              have O12 := hid (O11.out.trans h)
              clear h
              go_wp2_with fail
              go_ret
              exact ⟨rfl, O12.out⟩
            · have jm : (j : Int) ≤ 4096 := by have := M1.out; omega
              obtain ⟨g, rfl⟩ : ∃ g, gk = g + 1 := ⟨gk - 1, by omega⟩
              obtain ⟨a, c, rfl, hc⟩ := hR.form
              obtain ⟨sv2, w8, hrun, hrow, honly, hown⟩ := append_str wr _ (manyU j) ⟨#[9]⟩ R.out (by rw [many_len]; have := MN.out; omega)
              rw [many_snoc] at hrow
              have R2 := hid hrow
              have O2 := hid (O.out.trans2 honly (fun x hx => .inr (F.out x hx)))
              have F2 := hid (show ∀ g, g ∈ ownOf sv2 → w.heap.size ≤ g from fun g hg => by
                rcases hown g hg with e | e
                · exact F.out g e
                · exact Nat.le_trans O.out.size e)
              clear hj hg hR hF hO hrow honly hown
              go_wp2_with (at_builtin; refine Lib.wpList_append_run _ rfl _ _ _ _ rfl _ _ rfl rfl _ _ hrun ?_)
              go_roundg g
              case measure => omega
              case rel => exact ⟨j + 1, by have := J.out; omega, by go_num, R2.out, F2.out, O2.out⟩
        · have i1 : (j : Int) < 7 := by omega
          have i0 : (0 : Int) ≤ (j : Int) := by omega
          have hj7 : j < 7 := by omega
          have t1 := T.out j hj7
          have CU := hid (sp_no j hj7)
          obtain ⟨SN, hs⟩ : ∃ SN, SN = strOf (exN j) := ⟨_, rfl⟩
          rw [← hs] at t1 CU
          clear hj hs
          go_wp2_with fail
          refine (CU.out _ (ML.out _ O.out)).mono ?_
          rintro e w4 ⟨a, c, rfl, ho4⟩
          have O4 := hid ho4
          clear ho4
          go_wp2_with fail
          go_roundg (gk - 1)
          case measure => omega
          case rel => exact ⟨j + 1, by have := J.out; omega, by go_num, T.out.only O4.out, O.out.trans O4.out⟩
    · have i1 : (j : Int) < 8 := by omega
      have i0 : (0 : Int) ≤ (j : Int) := by omega
      have hj8 : j < 8 := by omega
      obtain ⟨t1, sv, t2, th⟩ := T.out j hj8
      have l2 := (ex_yes j hj8).2.2
      have CU := hid (sp_yes j hj8)
      obtain ⟨SP, hs⟩ : ∃ SP, SP = strOf (exS j) := ⟨_, rfl⟩
      rw [← hs] at t1 CU
      have lu : ((exU j).map strOf).length ≤ 1000000 := by rw [List.length_map]; omega
      generalize (exU j).map strOf = us at *
      obtain ⟨a1, c1, rfl, hc⟩ := th
      have TH := hid (show Holds wr (.slice a1 us.length c1) us from ⟨_, _, rfl, hc⟩)
      have LU := hid lu
      clear hj hs hc l2 lu
      go_wp2_with fail
      refine (CU.out _ (ML.out _ O.out)).mono ?_
      rintro e w4 ⟨sv4, rfl, hh, ho4⟩
      have O4 := hid ho4
      have H4 := hid hh
      have x2 := ho4.cell t2 (by simp)
      clear ho4 hh
      go_wp2_with fail
      refine (eqs_any _ _ _ _ _ H4.out (TH.out.only O4.out (by simp)) LU.out LU.out).mono ?_
      rintro e w5 ⟨rfl, ho5⟩
      have O5 := hid (O4.out.trans ho5)
      have ED : decide (us = us) = true := decide_eq_true rfl
      clear ho5
      rw [ED]
      clear ED
      go_wp2_with fail
      go_roundg (gk - 1)
      case measure => omega
      case rel => exact ⟨j + 1, by have := J.out; omega, by go_num, T.out.only O5.out, O.out.trans O5.out⟩
theorem annexbExamples_core (W : World) (hM : MaxL W) (base : Nat) : Calls Try.prog 5 #[] W fun e w' => e = .returned (.bool true) ∧ Below W.heap.size W w' :=
  (examples_walk W hM).mono fun e w' ⟨he, ho⟩ => ⟨he, ho.below (Nat.le_refl _) (by simp)⟩
end Go.Proofs.Ytfigmjlnjaihnaa

/- Parts of slices of strings; slices of strings that are written out. -/
import Derived.Test.YtfigmjlnjaihnaaApS
namespace Go.Proofs.Ytfigmjlnjaihnaa
open Go.RowKit
set_option linter.unusedVariables false

theorem holds_part1 {w : World} {a : Option Addr} {c : Nat} {us : List ByteArray} (h : Holds w (.slice a us.length c) us) (k : Nat) (hk : k ≤ us.length) : Holds w (.slice a k c) (us.take k) := by
  obtain ⟨a2, c2, e, hc⟩ := h
  cases e
  refine ⟨a, c, by rw [List.length_take, Nat.min_eq_left hk], fun j x hj => hc j x ?_⟩
  obtain ⟨hlt, hv⟩ := List.getElem?_eq_some_iff.1 hj
  rw [List.length_take] at hlt
  rw [← hj, List.getElem?_take, if_pos (by omega)]
theorem add_add (a : Addr) (k j : Nat) : (a.add k).add j = a.add (k + j) := by
  cases k with
  | zero => rw [Nat.zero_add]; rfl
  | succ k =>
    cases j with
    | zero => rfl
    | succ j => simp [Addr.add, Nat.add_assoc]
theorem holds_part2 {w : World} {a : Option Addr} {c : Nat} {us : List ByteArray} (h : Holds w (.slice a us.length c) us) (k : Nat) (hk : k ≤ us.length) (hc : us.length ≤ c) :
    Holds w (.slice (if c = k then a else Option.map (fun x => x.add k) a) (us.length - k) (c - k)) (us.drop k) := by
  obtain ⟨a2, c2, e, hh⟩ := h
  cases e
  refine ⟨_, _, by rw [List.length_drop], fun j x hj => ?_⟩
  rw [List.getElem?_drop] at hj
  obtain ⟨ad, rfl, hx⟩ := hh (k + j) x hj
  have := (List.getElem?_eq_some_iff.1 hj).1
  rw [if_neg (by omega)]
  exact ⟨ad.add k, rfl, by rw [add_add]; exact hx⟩
theorem holds_one (w : World) (odd : ByteArray) : Holds (w.alloc (.cells #[.string odd] 9)) (.slice (some ⟨w.heap.size, 0, none⟩) 1 1) [odd] :=
  ⟨_, _, rfl, fun j x hj => by
    have : j = 0 := by have := (List.getElem?_eq_some_iff.1 hj).1; simp at this; omega
    subst this
    refine ⟨_, rfl, ?_⟩
    rw [addr_add, World.cell?_alloc_new]
    simpa using hj⟩
theorem holds_lit (w : World) (us : List ByteArray) : Holds (w.alloc (.cells (us.map Value.string).toArray 9)) (.slice (some ⟨w.heap.size, 0, none⟩) us.length us.length) us :=
  ⟨_, _, rfl, fun j x hj => by
    refine ⟨_, rfl, ?_⟩
    rw [addr_add, World.cell?_alloc_new]
    simp [hj]⟩
theorem holds_none (w : World) : Holds w (.slice none 0 0) [] := ⟨none, 0, rfl, fun j x hj => by simp at hj⟩
/-- A new block's cells, later on. -/
theorem alloc_cell (v : World) (c : Array Value) (t : TypeId) (v' : World) (o : Only [] (v.alloc (.cells c t)) v') (b j : Nat) (hb : b = v.heap.size) (x : Value) (h : c[j]? = some x) : v'.cell? ⟨b, j, none⟩ = some x := by
  subst hb
  exact o.cell (by rw [World.cell?_alloc_new]; exact h) (by simp)
theorem holds_new (v : World) (us : List ByteArray) (v' : World) (o : Only [] (v.alloc (.cells (us.map Value.string).toArray 9)) v') (b : Nat) (hb : b = v.heap.size) : Holds v' (.slice (some ⟨b, 0, none⟩) us.length us.length) us := by
  subst hb
  exact (holds_lit v us).only o (by simp)
end Go.Proofs.Ytfigmjlnjaihnaa

/- Frames: what a call may have changed; and facts about blocks that hold a few cells. Plain: nothing of the translation stands here. -/
import Derived.WalkKit
import Derived.WalkSpells
import Derived.WalkLawsBesides
namespace Go.Proofs.Ytfmfknjjhemnoaa
open Go.RowKit

/-- The world w' is w, but for the blocks of S and for new ones. -/
structure Only (S : List Nat) (w w' : World) : Prop where
  os : w'.os = w.os
  tape : w'.tape = w.tape
  output : w'.output = w.output
  size : w.heap.size ≤ w'.heap.size
  block : ∀ k, k < w.heap.size → k ∉ S → w'.heap[k]? = w.heap[k]?

theorem Only.refl (S : List Nat) (w : World) : Only S w w := ⟨rfl, rfl, rfl, Nat.le_refl _, fun _ _ _ => rfl⟩
theorem Only.trans {S : List Nat} {a b c : World} (h : Only S a b) (k : Only S b c) : Only S a c :=
  ⟨k.os.trans h.os, k.tape.trans h.tape, k.output.trans h.output, Nat.le_trans h.size k.size, fun i hi hs => (k.block i (Nat.lt_of_lt_of_le hi h.size) hs).trans (h.block i hi hs)⟩
/-- The second step may change what the first has made. -/
theorem Only.trans2 {S T : List Nat} {a b c : World} (h : Only S a b) (k : Only T b c) (ht : ∀ x, x ∈ T → x ∈ S ∨ a.heap.size ≤ x) : Only S a c :=
  ⟨k.os.trans h.os, k.tape.trans h.tape, k.output.trans h.output, Nat.le_trans h.size k.size, fun i hi hs => (k.block i (Nat.lt_of_lt_of_le hi h.size) (fun e => by rcases ht i e with h | h; exact hs h; omega)).trans (h.block i hi hs)⟩
theorem Only.mono {S T : List Nat} {w w' : World} (h : Only S w w') (hst : ∀ k, k < w.heap.size → k ∈ S → k ∈ T) : Only T w w' :=
  ⟨h.os, h.tape, h.output, h.size, fun k hk hn => h.block k hk (fun hs => hn (hst k hk hs))⟩
theorem Only.drew {S : List Nat} {a w : World} (h : Only S a w) : Only S a w.drew := ⟨h.os, h.tape, h.output, h.size, h.block⟩
theorem Only.drewN {S : List Nat} {a w : World} (h : Only S a w) (n : Nat) : Only S a (w.drewN n) := ⟨h.os, h.tape, h.output, h.size, h.block⟩
theorem Only.alloc {S : List Nat} {a w : World} (h : Only S a w) (o : Obj) : Only S a (w.alloc o) :=
  h.trans ⟨rfl, rfl, rfl, by simp, fun k hk _ => Below.heap_alloc _ _ _ (by omega)⟩
theorem Only.setCell {S : List Nat} {a w : World} (h : Only S a w) {p : Addr} (hp : p.block ∈ S ∨ a.heap.size ≤ p.block) (u : Value) : Only S a (w.setCell p u) :=
  ⟨h.os, h.tape, h.output, by have := h.size; simp; omega, fun k hk hs => by
    rw [Below.heap_setCell _ _ _ _ (fun e => by rcases hp with hp | hp; exact hs (e ▸ hp); omega)]; exact h.block k hk hs⟩
theorem Only.cell {S : List Nat} {w w' : World} (h : Only S w w') {p : Addr} {v : Value} (hc : w.cell? p = some v) (hp : p.block ∉ S) : w'.cell? p = some v := by
  rw [← hc]; exact World.cell?_of_block (w := w) (h.block p.block (World.block_lt_of_cell? _ _ hc) hp)
theorem Only.frozen {S : List Nat} {w w' : World} (h : Only S w w') {p : Addr} (hl : p.block < w.heap.size) (hp : p.block ∉ S) : w'.frozen? p = w.frozen? p :=
  World.frozen?_of_block (w := w) (h.block p.block hl hp)
theorem Only.below {S : List Nat} {w w' : World} {B : Nat} (h : Only S w w') (hB : B ≤ w.heap.size) (hs : ∀ k, k ∈ S → B ≤ k) : Below B w w' :=
  ⟨h.os, h.tape, h.output, h.size, fun k hk => h.block k (by omega) (fun e => by have := hs k e; omega)⟩
/-- What is only new blocks and those of S, on top of a world that is Below B. -/
theorem Below.only {S : List Nat} {B : Nat} {a w w' : World} (h : Below B a w) (k : Only S w w') (hB : B ≤ w.heap.size) (hs : ∀ k, k ∈ S → B ≤ k) : Below B a w' :=
  h.trans (k.below hB hs)

/-- A reader (of the program, or of the reference) at block b: a string, and how many of its bits were read. -/
structure Rd (w : World) (b : Nat) (s : ByteArray) (pos : Nat) : Prop where
  hs : w.cell? ⟨b, 0, none⟩ = some (.string s)
  hp : w.cell? ⟨b, 1, none⟩ = some (.int .i64 pos)
  hf : w.frozen? ⟨b, 1, none⟩ = false
  le : pos ≤ 8 * s.size
  sz : s.size ≤ 140737488351232

theorem Rd.lt {w : World} {b : Nat} {s : ByteArray} {pos : Nat} (h : Rd w b s pos) : b < w.heap.size := World.block_lt_of_cell? _ _ h.hs
theorem Rd.only {S : List Nat} {w w' : World} {b : Nat} {s : ByteArray} {pos : Nat} (h : Rd w b s pos) (k : Only S w w') (hb : b ∉ S) : Rd w' b s pos :=
  ⟨k.cell h.hs hb, k.cell h.hp hb, (k.frozen h.lt hb).trans h.hf, h.le, h.sz⟩
theorem Rd.drew {w : World} {b : Nat} {s : ByteArray} {pos : Nat} (h : Rd w b s pos) : Rd w.drew b s pos := ⟨h.hs, h.hp, h.hf, h.le, h.sz⟩
theorem Rd.drewN {w : World} {b : Nat} {s : ByteArray} {pos : Nat} (h : Rd w b s pos) (n : Nat) : Rd (w.drewN n) b s pos := ⟨h.hs, h.hp, h.hf, h.le, h.sz⟩
theorem Rd.set {w : World} {b : Nat} {s : ByteArray} {pos : Nat} (h : Rd w b s pos) (q : Nat) (hq : q ≤ 8 * s.size) : Rd (w.setCell ⟨b, 1, none⟩ (.int .i64 q)) b s q :=
  ⟨by rw [World.cell?_setCell_other _ _ _ _ (by simp)]; exact h.hs, World.cell?_setCell_same _ _ _ h.hp, by simp [h.hf], hq, h.sz⟩

/-- The bit i of a string, and the number of n bits from the bit pos on. -/
def bitAt (s : ByteArray) (i : Nat) : Bool := ((s.data.getD (i / 8) 0).toNat).testBit (7 - i % 8)
def valOf (s : ByteArray) (pos : Nat) : Nat → Nat
  | 0 => 0
  | n + 1 => 2 * valOf s pos n + (bitAt s (pos + n)).toNat

theorem ret_int {k : IntKind} {a b : Int} (h : a = b) : Ending.returned (.int k a) = .returned (.int k b) := by rw [h]
theorem hid {p : Prop} (h : p) : Hid p := h

/-- What U answers: the number, the error, the place behind it. -/
def rdU (s : ByteArray) (pos : Nat) (n : Int) : Nat × Int × Nat :=
  if n < 0 ∨ 64 < n then (0, 3, pos) else if 8 * s.size < pos + n.toNat then (0, 5, pos) else (valOf s pos n.toNat, 0, pos + n.toNat)

theorem valOf_lt (s : ByteArray) (pos n : Nat) : valOf s pos n < 2 ^ n := by
  induction n with
  | zero => simp [valOf]
  | succ n ih => simp only [valOf, Nat.pow_succ]; have : (bitAt s (pos + n)).toNat ≤ 1 := Bool.toNat_le _; omega
end Go.Proofs.Ytfmfknjjhemnoaa

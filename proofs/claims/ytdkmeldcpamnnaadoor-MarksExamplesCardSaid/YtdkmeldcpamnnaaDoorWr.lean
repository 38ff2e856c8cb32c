/- A writer of package bits; 'add', which appends bytes that are whole. -/
import Derived.Test.YtdkmeldcpamnnaaDoorGrow
import Derived.Test.YtdkmeldcpamnnaaDoorPack
import Derived.Laws.CopyOwn
import Derived.RegionTactic
import Derived.ChangeAlike
import Derived.Deep.QuietTactic
import Derived.BigQuiet
namespace Go.Proofs.YtdkmeldcpamnnaaDoor
open Go.RowKit
set_option linter.unusedVariables false

def byteV (x : UInt8) : Value := .int .u8 x.toNat
def ownOf (v : Value) : List Nat := match v.ownBlock with
  | some g => [g]
  | none => []

/-- sv is a slice of the bytes bs, which nobody else holds. -/
def Row (w : World) (sv : Value) (bs : List UInt8) : Prop := w.ownsRow 0 5 1 sv bs.length (bs.map byteV)

structure Wr (w : World) (b : Nat) (sv : Value) (l : List Bool) : Prop where
  c0 : w.cell? ⟨b, 0, none⟩ = some sv
  c1 : w.cell? ⟨b, 1, none⟩ = some (.int .u8 (byteL l (l.length / 8)))
  c2 : w.cell? ⟨b, 2, none⟩ = some (.int .i64 (l.length % 8 : Nat))
  f0 : w.frozen? ⟨b, 0, none⟩ = false
  f1 : w.frozen? ⟨b, 1, none⟩ = false
  f2 : w.frozen? ⟨b, 2, none⟩ = false
  row : Row w sv (packN l (l.length / 8))
  apart : b ∉ ownOf sv
  sz : l.length ≤ 281474976710656

theorem Row.lt {w : World} {sv : Value} {bs : List UInt8} (h : Row w sv bs) : ∀ g, g ∈ ownOf sv → g < w.heap.size := by
  intro g hg
  rcases h.2 with ⟨rfl, _⟩ | ⟨g', cap, cur, rfl, _, hh, _⟩
  · simp [ownOf, Value.ownBlock] at hg
  · simp [ownOf, Value.ownBlock] at hg
    subst hg
    exact (Array.getElem?_eq_some_iff.1 hh).1
theorem Row.only {S : List Nat} {w w' : World} {sv : Value} {bs : List UInt8} (h : Row w sv bs) (k : Only S w w') (hd : ∀ g, g ∈ ownOf sv → g ∉ S) : Row w' sv bs := by
  refine ⟨h.1, ?_⟩
  rcases h.2 with ⟨rfl, h0⟩ | ⟨g', cap, cur, rfl, hb, hh, r⟩
  · exact .inl ⟨rfl, h0⟩
  · exact .inr ⟨g', cap, cur, rfl, hb, by rw [k.block g' (Array.getElem?_eq_some_iff.1 hh).1 (hd g' (by simp [ownOf, Value.ownBlock]))]; exact hh, r⟩
theorem Wr.lt {w : World} {b : Nat} {sv : Value} {l : List Bool} (h : Wr w b sv l) : b < w.heap.size := World.block_lt_of_cell? _ _ h.c0
theorem Wr.only {S : List Nat} {w w' : World} {b : Nat} {sv : Value} {l : List Bool} (h : Wr w b sv l) (k : Only S w w') (hb : b ∉ S) (hd : ∀ g, g ∈ ownOf sv → g ∉ S) : Wr w' b sv l :=
  ⟨k.cell h.c0 hb, k.cell h.c1 hb, k.cell h.c2 hb, (k.frozen h.lt hb).trans h.f0, (k.frozen h.lt hb).trans h.f1, (k.frozen h.lt hb).trans h.f2, h.row.only k hd, h.apart, h.sz⟩

theorem Only.setRow {S : List Nat} {a w : World} (h : Only S a w) {g : Nat} (hp : g ∈ S ∨ a.heap.size ≤ g) (cs : Array Value) : Only S a (w.setRow g cs) :=
  ⟨h.os, h.tape, h.output, by have := h.size; simp [World.setRow]; omega, fun k hk hs => by
    have e : k ≠ g := fun e => by rcases hp with hp | hp; exact hs (e ▸ hp); omega
    rw [← h.block k hk hs]
    simp only [World.setRow, Array.getElem?_modify]
    rw [if_neg (by omega)]⟩

theorem byteV_one (x : UInt8) : (byteV x).oneCell' = true := rfl

/-- copy of k bytes to the place off of a block that the call may write: what the block holds behind it; nothing else has changed. -/
theorem copy_only {P : Program} {w : World} {ops : Array Oper} {rest : List Oper} {o : Oper} {a : Act} {Q : Exit → Act → World → Prop} (hgd : o.guard = none) (d s : Operand) (dT sT : TypeId)
    (ho : o.op = .call { callee := .builtin .copy, args := #[d, s], argTypes := #[dT, sT] }) (elem : TypeId) (hu : P.underlying dT = some (.slice elem)) (hsz : (P.info? elem).map (·.size) = some 1)
    (g off dLen dCap : Nat) (ad : Addr) (sLen sCap : Nat) (hd : a.eval d = .slice (some ⟨g, off, none⟩) dLen dCap) (hs : a.eval s = .slice (some ad) sLen sCap)
    (cur : List Value) (t : TypeId) (hg : w.heap[g]? = some (.cells cur.toArray t (0, 0))) (cs : List Value) (hn : cs.length = Nat.min sLen dLen)
    (hsrc : ∀ j v, cs[j]? = some v → w.cell? (ad.add j) = some v) (hfit : off + cs.length ≤ cur.length) (h1 : ∀ v ∈ cs, v.oneCell' = true)
    (h : ∀ w', Hid (w'.heap[g]? = some (.cells (splice cur off cs).toArray t (0, 0))) → Hid (Only [g] w w') → wpList P ops Q rest (a.put o.dst (goInt cs.length)) w') : wpList P ops Q (o :: rest) a w := by
  refine wpList_copy_own hgd d s dT sT ho elem hu hsz g off dLen dCap ad sLen sCap hd hs cur.toArray t hg cs hn hsrc (by simpa using hfit) h1 ?_
  exact h _ (show _ = _ by simpa [splice] using setRow_heap w g _ _ t _ hg) (show Only _ _ _ from (Only.refl _ _).setRow (.inl (by simp)) _)
end Go.Proofs.YtdkmeldcpamnnaaDoor

/- A reader and a writer, in one world. -/
import Derived.Test.YtgfcooaobfpdiaaLit
namespace Go.Proofs.Ytgfcooaobfpdiaa
open Go.RowKit
set_option linter.unusedVariables false

structure St (w0 : World) (r c : Nat) (s : ByteArray) (w : World) (pos : Nat) (sv : Value) (l : List Bool) : Prop where
  rd : Rd w r s pos
  wr : Wr w c sv l
  own : ∀ g, g ∈ ownOf sv → w0.heap.size ≤ g
  rown : r ∉ ownOf sv
  ne : r ≠ c
  hr : w0.heap.size ≤ r
  hc : w0.heap.size ≤ c
  only : Only [] w0 w

variable {w0 : World} {r c : Nat} {s : ByteArray} {w w' : World} {pos : Nat} {sv : Value} {l : List Bool}
theorem St.keep (h : St w0 r c s w pos sv l) (k : Only [] w w') : St w0 r c s w' pos sv l :=
  ⟨h.rd.only k (by simp), h.wr.only k (by simp) (by simp), h.own, h.rown, h.ne, h.hr, h.hc, h.only.trans k⟩
theorem St.drewN (h : St w0 r c s w pos sv l) (n : Nat) : St w0 r c s (w.drewN n) pos sv l := h.keep ((Only.refl [] w).drewN n)
theorem St.read (h : St w0 r c s w pos sv l) {p : Nat} (hR : Rd w' r s p) (k : Only [r] w w') : St w0 r c s w' p sv l :=
  ⟨hR, h.wr.only k (fun e => h.ne (List.mem_singleton.1 e).symm) (fun g hg e => h.rown (List.mem_singleton.1 e ▸ hg)), h.own, h.rown, h.ne, h.hr, h.hc, h.only.trans2 k (fun x hx => .inr (by rw [List.mem_singleton.1 hx]; exact h.hr))⟩
theorem St.put (h : St w0 r c s w pos sv l) {sv' : Value} {l' : List Bool} (hW : Wr w' c sv' l') (hS : ∀ g, g ∈ ownOf sv' → g ∈ ownOf sv ∨ w.heap.size ≤ g) (k : Only (c :: ownOf sv) w w') : St w0 r c s w' pos sv' l' :=
  ⟨h.rd.only k (fun e => by rcases List.mem_cons.1 e with e | e; exact h.ne e; exact h.rown e), hW,
    fun g hg => by rcases hS g hg with e | e; exact h.own g e; exact Nat.le_trans h.only.size e,
    fun e => by rcases hS r e with e | e; exact h.rown e; exact Nat.not_lt.2 e h.rd.lt,
    h.ne, h.hr, h.hc, h.only.trans2 k (fun x hx => .inr (by rcases List.mem_cons.1 hx with e | e; rw [e]; exact h.hc; exact h.own x e))⟩
end Go.Proofs.Ytgfcooaobfpdiaa

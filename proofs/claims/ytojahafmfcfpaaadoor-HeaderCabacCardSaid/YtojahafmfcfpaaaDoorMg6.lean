/- The reference's Has, End and Check. -/
/- The reference's writer of codes. -/
/- The reference's Put. -/
import Derived.Test.YtojahafmfcfpaaaDoorMg5
import Derived.Test.YtojahafmfcfpaaaDoorMg4
import Derived.Deep.LoopGhost
section
set_option maxRecDepth 20000
namespace Go.Proofs.YtojahafmfcfpaaaDoor
open Go.RowKit
set_option linter.unusedVariables false

/-- The commands' fields have their types' bounds. -/
def OkM (x : Int × Int × Int) : Prop := (0 ≤ x.1 ∧ x.1 ≤ 255) ∧ (-9223372036854775808 ≤ x.2.1 ∧ x.2.1 ≤ 9223372036854775807) ∧ (-9223372036854775808 ≤ x.2.2 ∧ x.2.2 ≤ 9223372036854775807)
def OksM (l : List (Int × Int × Int)) : Prop := ∀ (j : Nat) x, l[j]? = some x → OkM x
theorem drop_oneM (l : List (Int × Int × Int)) (j : Nat) (h : j < l.length) : ∃ x, l[j]? = some x ∧ l.drop j = x :: l.drop (j + 1) := ⟨l[j], List.getElem?_eq_getElem h, List.drop_eq_getElem_cons h⟩
theorem hasI_n {m : Bool} {op : Int} : (hasI m op).1 = 0 ∨ (hasI m op).1 = 1 ∨ (hasI m op).1 = 2 := by
  unfold hasI
  cases m
  · simp
  · simp only [if_true]
    split
    · simp
    · split
      · simp
      · split <;> simp

end Go.Proofs.YtojahafmfcfpaaaDoor

end
section
set_option maxRecDepth 20000
namespace Go.Proofs.YtojahafmfcfpaaaDoor
open Go.RowKit
set_option linter.unusedVariables false

theorem RPut.same {w : World} {b : Nat} {sv : Value} {l : List Bool} (h : RWr w b sv l) : RPut w w b sv sv l := ⟨h, fun g hg => .inl hg, Only.refl _ _⟩
theorem RPut.trans {w w1 w2 : World} {b : Nat} {sv sv1 sv2 : Value} {l1 l2 : List Bool} (h : RPut w w1 b sv sv1 l1) (k : RPut w1 w2 b sv1 sv2 l2) : RPut w w2 b sv sv2 l2 :=
  ⟨k.wr, fun g hg => by
    rcases k.own g hg with e | e
    · exact h.own g e
    · exact .inr (Nat.le_trans h.only.size e),
   h.only.trans2 k.only (fun x hx => by
    rcases List.mem_cons.1 hx with e | e
    · exact .inl (by rw [e]; exact List.mem_cons_self)
    · rcases h.own x e with e | e
      · exact .inl (List.mem_cons_of_mem _ e)
      · exact .inr e)⟩

theorem ueBits_two (v n : Nat) (hn : Lib.bitLen (v + 1) = n + 1) (h : v + 1 < 2 ^ (n + 1)) : ueBits v = bitsOf n 0 ++ bitsOf (n + 1) (v + 1) := by
  unfold ueBits
  rw [hn, show 2 * (n + 1) - 1 = n + (n + 1) from by omega, bitsOf_small _ _ h]

end Go.Proofs.YtojahafmfcfpaaaDoor

end
section
set_option maxRecDepth 20000
namespace Go.Proofs.YtojahafmfcfpaaaDoor
open Go.RowKit
set_option linter.unusedVariables false

theorem firstE_at {m : Bool} {l : List (Int × Int × Int)} (h : firstE m l = 0) : ∀ (j : Nat) x, l[j]? = some x → errI m x = 0 := by
  induction l with
  | nil => intro j x hx; simp at hx
  | cons y l ih =>
    obtain ⟨h1, h2⟩ := firstE_cons h
    intro j x hx
    cases j with
    | zero => simp at hx; subst hx; exact h1
    | succ j => simp at hx; exact ih h2 j x hx
theorem modsB_append (m : Bool) (a b : List (Int × Int × Int)) : modsB m (a ++ b) = modsB m a ++ modsB m b := by
  induction a with
  | nil => rfl
  | cons x a ih => rw [List.cons_append, modsB, modsB, ih, List.append_assoc]
theorem modBits_le {m : Bool} {x : Int × Int × Int} (h : errI m x = 0) : (modBits m x).length ≤ 189 := by
  obtain ⟨h1, _, _, a, b, c, d⟩ := errI_ok h
  obtain ⟨o1, o2, _⟩ := hasI_le h1
  have u1 := ueBits_le x.1.toNat (by omega)
  have u2 := ueBits_le x.2.1.toNat (by omega)
  have u3 := ueBits_le x.2.2.toNat (by omega)
  unfold modBits
  rw [List.length_append, List.length_append]
  split <;> split <;> simp <;> omega
theorem modsB_le {m : Bool} {l : List (Int × Int × Int)} (h : ∀ (j : Nat) x, l[j]? = some x → errI m x = 0) : (modsB m l).length ≤ 189 * l.length := by
  induction l with
  | nil => simp [modsB]
  | cons y l ih =>
    have h1 := modBits_le (h 0 y (by simp))
    have h2 := ih (fun j x hx => h (j + 1) x (by simpa using hx))
    rw [modsB, List.length_append, List.length_cons]
    omega
/-- The block of a slice that comes in is none of a writer's. -/
def Aside (a : Value) (l : List (Int × Int × Int)) (b : Nat) (sv : Value) : Prop := ∀ ad n c, a = .slice (some ad) n c → l ≠ [] → ad.block ≠ b ∧ ad.block ∉ ownOf sv
theorem HoldsM.lt {w : World} {ad : Addr} {n c : Nat} {l : List (Int × Int × Int)} (h : HoldsM w (.slice (some ad) n c) l) (hl : l ≠ []) : ad.block < w.heap.size := by
  obtain ⟨a2, c2, e, _, _, h3⟩ := h
  cases e
  rcases h3 with h3 | ⟨b, o, e, hc⟩
  · exact absurd h3 hl
  · cases e
    exact World.block_lt_of_cell? _ _ (hc 0 _ (List.getElem?_eq_getElem (List.length_pos_iff.2 hl))).c0
/-- A writer that was made behind the slice. -/
theorem aside_fresh {w : World} {a : Value} {l : List (Int × Int × Int)} {b : Nat} {sv : Value} (h : HoldsM w a l) (hb : w.heap.size ≤ b) (ho : ∀ g, g ∈ ownOf sv → w.heap.size ≤ g) : Aside a l b sv := by
  rintro ad n c rfl hl
  have := h.lt hl
  exact ⟨by omega, fun e => by have := ho _ e; omega⟩
/-- .. and what only the writer's blocks have changed. -/
theorem HoldsM.aside {S : List Nat} {w w' : World} {a : Value} {l : List (Int × Int × Int)} (h : HoldsM w a l) (k : Only S w w') (hS : ∀ x, x ∈ S → w.heap.size ≤ x) : HoldsM w' a l := by
  by_cases e : l = []
  · obtain ⟨a2, c2, rfl, h1, h2, h3⟩ := h
    exact ⟨a2, c2, rfl, h1, h2, .inl e⟩
  · exact h.only k (fun ad n c he hx => by subst he; have := h.lt e; have := hS _ hx; omega)

end Go.Proofs.YtojahafmfcfpaaaDoor

end

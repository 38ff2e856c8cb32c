/- Plain facts on a unit's bytes. -/
import Derived.Test.YtghdnefaempigaaDoorRUn
import Derived.Deep.RegionHeld3
import Derived.Deep.DeepCutAuto
namespace Go.Proofs.YtghdnefaempigaaDoor
open Go.RowKit
set_option linter.unusedVariables false

/-- The bytes of a unit. -/
def unitL (r k : Nat) (l : List UInt8) : List UInt8 := UInt8.ofNat (32 * r + k) :: esc l
/-- What Encode answers. -/
def encR (r k : Nat) (l : List UInt8) : ByteArray × Int :=
  if 3 < r ∨ 31 < k then (⟨#[]⟩, 3) else if 32 * r + k = 0 ∨ (unitL r k l).getLast? = some 0 then (⟨#[]⟩, 4) else (bytesOf (unitL r k l), 0)
theorem only_cell {w w' : World} (k : Only [] w w') : (∀ b o, b < w.heap.size → w'.cell? ⟨b, o, none⟩ = w.cell? ⟨b, o, none⟩) ∧ (∀ b o, b < w.heap.size → w'.frozen? ⟨b, o, none⟩ = w.frozen? ⟨b, o, none⟩) ∧ w.heap.size ≤ w'.heap.size :=
  ⟨fun b o h => World.cell?_of_block (w := w) (k.block b h (by simp)), fun b o h => World.frozen?_of_block (w := w) (k.block b h (by simp)), k.size⟩
theorem conv_byte (x : UInt8) (w : World) (g : Nat) (h : w.cell? ⟨g, 0, none⟩ = some (.int .u8 x.toNat)) :
    (convert 38 9 (.slice (some ⟨g, 0, none⟩) 1 1)).run Tryd.prog w = .ok (.string (bytesOf [x])) w :=
  run_convert_bytes_back w 38 9 5 ⟨g, 0, none⟩ 1 [x] und_bytes und_u8 und_str (fun j hj => by
    obtain rfl : j = 0 := by simp at hj; omega
    rw [addr_add]; exact h)
theorem conv_new (x : UInt8) (w : World) : (convert 38 9 (.slice (some ⟨w.heap.size, 0, none⟩) 1 1)).run Tryd.prog (w.alloc (.cells #[.int .u8 x.toNat] 5)) = .ok (.string (bytesOf [x])) (w.alloc (.cells #[.int .u8 x.toNat] 5)) :=
  conv_byte x _ _ (by simp)
theorem conv_newd (x : UInt8) (w : World) : (convert 38 9 (.slice (some ⟨w.heap.size, 0, none⟩) 1 1)).run Tryd.prog (w.alloc (.cells #[.int .u8 x.toNat] 5)).drew = .ok (.string (bytesOf [x])) (w.alloc (.cells #[.int .u8 x.toNat] 5)).drew :=
  conv_byte x _ _ (by simp)
theorem bytesOf_cons (x : UInt8) (m : List UInt8) : bytesOf [x] ++ bytesOf m = bytesOf (x :: m) := by
  unfold bytesOf; apply ByteArray.ext; simp
theorem size_bytesOf (l : List UInt8) : (bytesOf l).size = l.length := by simp [bytesOf, ByteArray.size]
theorem bytesOf_get (l : List UInt8) (i : Nat) (h : i < (bytesOf l).size) : (bytesOf l)[i] = l[i]'(by rw [size_bytesOf] at h; exact h) := rfl
/-- The cells of a unit. -/
def Cells3 (w : World) (p : Nat) (r k : Int) (s : ByteArray) : Prop := w.cell? ⟨p, 0, none⟩ = some (.int .u8 r) ∧ w.cell? ⟨p, 1, none⟩ = some (.int .u8 k) ∧ w.cell? ⟨p, 2, none⟩ = some (.string s)
theorem keep3 {W w : World} {p : Nat} {r k : Int} {s : ByteArray} (h : Cells3 W p r k s) (o : Only [] W w) :
    Only [] W w ∧ w.cell? ⟨p, 0, none⟩ = some (.int .u8 r) ∧ w.cell? ⟨p, 1, none⟩ = some (.int .u8 k) ∧ w.cell? ⟨p, 2, none⟩ = some (.string s) :=
  ⟨o, o.cell h.1 (by simp), o.cell h.2.1 (by simp), o.cell h.2.2 (by simp)⟩
/-- The bytes T of a unit: the first, the last, and what Encode answers. -/
theorem unit_facts (r k : Nat) (l : List UInt8) (hr : r ≤ 3) (hk : k ≤ 31) (hl : l.length ≤ 50000) :
    ∃ (x y : UInt8) (T : ByteArray) (h0 : 0 < T.size), x.toNat = 32 * r + k ∧ bytesOf [x] ++ bytesOf (esc l) = T ∧ T[0] = x ∧ T[T.size - 1]'(by omega) = y ∧ T.size ≤ 100001 ∧
      encR r k l = if 32 * r + k = 0 ∨ y = 0 then (⟨#[]⟩, 4) else (T, 0) := by
  have hel := (esc_len l).2
  have hsz : (bytesOf (UInt8.ofNat (32 * r + k) :: esc l)).size = (esc l).length + 1 := by rw [size_bytesOf]; simp
  refine ⟨UInt8.ofNat (32 * r + k), (bytesOf (UInt8.ofNat (32 * r + k) :: esc l))[(bytesOf (UInt8.ofNat (32 * r + k) :: esc l)).size - 1]'(by omega), bytesOf (UInt8.ofNat (32 * r + k) :: esc l), by omega, by rw [UInt8.toNat_ofNat']; omega, bytesOf_cons _ _, rfl, rfl, by omega, ?_⟩
  unfold encR unitL
  rw [if_neg (by omega)]
  have hlast : (UInt8.ofNat (32 * r + k) :: esc l).getLast? = some ((bytesOf (UInt8.ofNat (32 * r + k) :: esc l))[(bytesOf (UInt8.ofNat (32 * r + k) :: esc l)).size - 1]'(by omega)) := by
    rw [List.getLast?_eq_getElem?, bytesOf_get, List.getElem?_eq_getElem (by simp)]
    congr 2
  rw [hlast]
  simp only [Option.some.injEq]
end Go.Proofs.YtghdnefaempigaaDoor

/- bits.Len64 of a number of at most 32 bits. -/
import Derived.Test.YtjjjfmnhdnajkaaGreatDoorRows
import Derived.Test.YtjjjfmnhdnajkaaGreatDoorMg1
import Derived.Lib.Small
import Derived.Lib.Walk
import Derived.Lib.BitFns
import Derived.WalkKit
import Derived.RegionTactic
namespace Go.Proofs.YtjjjfmnhdnajkaaGreatDoor
open Go.RowKit

theorem fold_tab (a b c d : List UInt8) (h : (a.append b).append (c.append d) = Lib.len8tab.data.toList) : (⟨((a.append b).append (c.append d)).toArray⟩ : ByteArray) = Lib.len8tab := by
  rw [h]

theorem tab_at (i : Nat) (h : i < Lib.len8tab.size) : (Lib.len8tab[i]'h).toNat = Lib.bitLen i ∧ Lib.bitLen i ≤ 8 := by
  have h2 : i < 256 := by rw [Lib.len8tab_size] at h; exact h
  have e := Lib.len8_eq ⟨i, h2⟩
  have l := Lib.bitLen_le8 ⟨i, h2⟩
  refine ⟨?_, l⟩
  unfold Lib.len8 at e
  simp only [Int.toNat_natCast] at e
  rw [ByteArray.getElem?_lt' _ _ h, Option.getD_some] at e
  omega

theorem wr8 (c t : Nat) (hc : c ≤ 64) (ht : t ≤ 8) : wrap64 ((c : Int) + wrap64 (t : Int)) = ((c + t : Nat) : Int) := by
  unfold wrap64; omega
theorem wr8' (t : Nat) (ht : t ≤ 8) : wrap64 (wrap64 (t : Int)) = (t : Int) := by
  unfold wrap64; omega

set_option maxRecDepth 100000 in
set_option maxHeartbeats 1000000 in
theorem len64_int (x : Int) (w : World) (h0 : 0 ≤ x) (h1 : x ≤ 4294967295) :
    Calls Tryz.prog 129 #[.int .u64 x] w fun e w' => e = .returned (.int .i64 (Lib.bitLen x.toNat)) ∧ w = w' := by
  have hsz := Lib.len8tab_size
  go_enter Tryz.func129, Tryz.ntmps129
  rw [fold_tab _ _ _ _ (by decide +kernel)]
  go_wp2
  all_goals go_ret
  all_goals refine ⟨ret_int ?_, rfl⟩
  · obtain ⟨T1, T2⟩ := tab_at (x / 65536 / 256).toNat (by rw [hsz]; omega)
    have e : (x / 65536 / 256).toNat = x.toNat / 16777216 := by omega
    have s := Lib.bitLen_shift24 x.toNat (by omega) (by omega)
    rw [T1]
    rw [e] at T2 ⊢
    exact (wr8 24 _ (by decide) T2).trans (congrArg _ s.symm)
  · obtain ⟨T1, T2⟩ := tab_at (x / 65536).toNat (by rw [hsz]; omega)
    have e : (x / 65536).toNat = x.toNat / 65536 := by omega
    have s := Lib.bitLen_shift16 x.toNat (by omega) (by omega)
    rw [T1]
    rw [e] at T2 ⊢
    exact (wr8 16 _ (by decide) T2).trans (congrArg _ s.symm)
  · obtain ⟨T1, T2⟩ := tab_at (x / 256).toNat (by rw [hsz]; omega)
    have e : (x / 256).toNat = x.toNat / 256 := by omega
    have s := Lib.bitLen_shift8 x.toNat (by omega) (by omega)
    rw [T1]
    rw [e] at T2 ⊢
    exact (wr8 8 _ (by decide) T2).trans (congrArg _ s.symm)
  · obtain ⟨T1, T2⟩ := tab_at x.toNat (by rw [hsz]; omega)
    rw [T1]
    exact wr8' _ T2
theorem len64_any (x : Nat) (w : World) (h : x < 4294967296) :
    Calls Tryz.prog 129 #[.int .u64 x] w fun e w' => e = .returned (.int .i64 (Lib.bitLen x)) ∧ w = w' :=
  len64_int x w (by omega) (by omega)
end Go.Proofs.YtjjjfmnhdnajkaaGreatDoor
